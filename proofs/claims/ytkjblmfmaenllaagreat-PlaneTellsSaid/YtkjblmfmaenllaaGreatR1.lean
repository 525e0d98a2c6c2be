/-
  Contracts of the program's layer 10, 5: room.
  Contracts of the program's layer 10, 7: Room, lowest.
  Contracts of the program's layer 10, 6: the order of points, the library's cmp.Or and MinFunc over points.
  Contracts of the program's layer 10, 8: firstOutside.
-/
import Derived.Test.YtkjblmfmaenllaaGreatRi
import Derived.Test.YtkjblmfmaenllaaGreatW4
import Derived.Deep.RegionHeld3
import Derived.Test.YtkjblmfmaenllaaGreatW0
import Derived.Test.YtkjblmfmaenllaaGreatWu
import Derived.Test.YtkjblmfmaenllaaGreatWs
import Derived.Lib.MinMax
import Derived.Lib.AppendIntMem
import Derived.Deep.AppendLies
set_option linter.unusedVariables false
set_option maxRecDepth 100000
namespace Go.Proofs.YtkjblmfmaenllaaGreat
open Go.RowKit

def NdAt (w : World) (g : Nat) (z : Int) (l : List Pl) : Prop := ArAt w g (needS z 0 l) (needS z 1 l) (needS z 2 l) (needS z 3 l)
theorem ArAt.froz {w : World} {g : Nat} {a b c d : Int} (h : ArAt w g a b c d) (i : Nat) : w.frozen? ⟨g, i, none⟩ = false := Lib.frozen_of_heap h i
theorem NdAt.need {w : World} {g : Nat} {z : Int} {l : List Pl} (h : NdAt w g z l) {s : Int} (h0 : 0 ≤ s) (h1 : s < 4) : w.cell? ⟨g, s.toNat, none⟩ = some (.int .i64 (needS z s l)) := by
  have k : s = 0 ∨ s = 1 ∨ s = 2 ∨ s = 3 := by omega
  rcases k with rfl | rfl | rfl | rfl
  · exact h.c0
  · exact h.c1
  · exact h.c2
  · exact h.c3
theorem NdAt.step {w : World} {g : Nat} {z : Int} {l : List Pl} (h : NdAt w g z l) {p : Pl} (hp : 0 ≤ p.s ∧ p.s < 4) {v : Int} (hv : v = max (needS z p.s l) (nearP p z)) : NdAt (w.setCell ⟨g, p.s.toNat, none⟩ (.int .i64 v)) g z (l ++ [p]) := by
  subst hv
  have k : p.s = 0 ∨ p.s = 1 ∨ p.s = 2 ∨ p.s = 3 := by omega
  unfold NdAt at h ⊢
  rw [need_snoc, need_snoc, need_snoc, need_snoc]
  unfold ArAt at h ⊢
  rcases k with k | k | k | k <;> rw [k] <;> simp [World.setCell, Array.getElem?_modify, h]
theorem NdAt.start (w : World) (z : Int) (k : Nat) (h : k = w.heap.size) : NdAt (w.alloc (.cells #[.int .i64 (-1048576), .int .i64 (-1048576), .int .i64 (-1048576), .int .i64 (-1048576)] 84)) k z [] := ArAt.new w _ _ _ _ k h
theorem NdAt.below {w w' : World} {g : Nat} {z : Int} {l : List Pl} (h : NdAt w g z l) (hb : Below w.heap.size w w') : NdAt w' g z l := ArAt.below h hb
/-- a region of one rectangle at most. -/
def RmIs (F : List Rc) (w : World) (e : Ending) (w' : World) : Prop := ∃ A, e = .returned (.slice A F.length F.length) ∧ RRow w' A F ∧ Below w.heap.size w w'
theorem RmIs.of {F G : List Rc} {w w' : World} {A : Option Addr} {n m : Nat} (h : F = G) (hn : n = G.length) (hm : m = G.length) (hr : RRow w' A G) (hb : Below w.heap.size w w') : RmIs F w (.returned (.slice A n m)) w' := by subst h; subst hn; subst hm; exact ⟨A, rfl, hr, hb⟩
/-- what the region of a round reads. -/
def Rm5 (pb : Nat) (u : Pl) (W w' : World) : Prop := w'.cell? ⟨pb, 0, none⟩ = some (.int .i64 u.s) ∧ w'.cell? ⟨pb, 1, none⟩ = some (.int .i64 u.b) ∧ w'.cell? ⟨pb, 2, none⟩ = some (.int .i64 u.n) ∧ w'.cell? ⟨pb, 3, none⟩ = some (.int .i64 u.d) ∧ pb < w'.heap.size ∧ Hid (Below W.heap.size W w')
theorem Rm5.go {pb : Nat} {u : Pl} {W w w' : World} (h : Rm5 pb u W w) (hb : Below w.heap.size w w') : Rm5 pb u W w' := by
  obtain ⟨c0, c1, c2, c3, hl, h5⟩ := h
  have wc := fun o => hb.cell (p := ⟨pb, o, none⟩) hl
  exact ⟨(wc _).trans c0, (wc _).trans c1, (wc _).trans c2, (wc _).trans c3, Nat.lt_of_lt_of_le hl hb.size, Lib.hid (h5.out.trans (hb.mono h5.out.size))⟩
theorem Rm5.drewN {pb : Nat} {u : Pl} {W w : World} (h : Rm5 pb u W w) (n : Nat) : Rm5 pb u W (w.drewN n) := h.go (below_drewN (Below.refl _ _) n)
theorem Rm5.set {pb g i : Nat} {u : Pl} {W w : World} {v : Value} (h : Rm5 pb u W w) (hne : pb ≠ g) (hg : W.heap.size ≤ g) : Rm5 pb u W (w.setCell ⟨g, i, none⟩ v) := by
  obtain ⟨c0, c1, c2, c3, hl, h5⟩ := h
  have wc := fun o => World.cell?_setCell_far w ⟨g, i, none⟩ ⟨pb, o, none⟩ v hne.symm
  exact ⟨(wc _).trans c0, (wc _).trans c1, (wc _).trans c2, (wc _).trans c3, by simp; exact hl, Lib.hid (h5.out.setCell hg _)⟩
set_option maxHeartbeats 16000000 in
theorem kroom_any (r : Rc) (A : Option Addr) (cap : Nat) (l : List Pl) (z : Int) (w : World) (hl : PlIn w A cap l) (ha : ArgOk r l) (h0 : 0 ≤ z) (h1 : z ≤ 4096) :
    Calls Tryz.prog 63 #[.agg #[.int .i64 r.X0, .int .i64 r.Y0, .int .i64 r.X1, .int .i64 r.Y1], .slice A l.length cap, .int .i64 z] w (RmIs (roomS r l z) w) := by
  have HL := Lib.hid hl; clear hl
  have HA := Lib.hid ha; clear ha
  have HM : Hid (∀ s, -1048576 ≤ needS z s (atZ l z) ∧ needS z s (atZ l z) ≤ 16777216) := Lib.hid (fun s => need_in (l := atZ l z) (fun p hp => by unfold atZ at hp; split at hp; exact HA.out.2 p hp; cases hp) h0 h1 s)
  obtain ⟨wA, hA⟩ : ∃ wA, wA = w.alloc (.cells #[.int .i64 r.X0, .int .i64 r.Y0, .int .i64 r.X1, .int .i64 r.Y1] 33) := ⟨_, rfl⟩
  have BA : Below w.heap.size w wA := by subst hA; (repeat' first | exact Below.refl _ _ | assumption | (apply below_drewN) | (refine Below.setCell ?_ (by (try simp); (try omega)) _) | (refine Below.alloc ?_ (by (try simp); (try omega)) _) | (refine Below.trans ?_ (Below.mono (Hid.out (by assumption)) (by (try simp); (try omega)))))
  have KA : RcAt wA w.heap.size r := by subst hA; exact RcAt.new w r _ rfl
  obtain ⟨wB, hB⟩ : ∃ wB, wB = wA.alloc (.cells #[.int .i64 (-1048576), .int .i64 (-1048576), .int .i64 (-1048576), .int .i64 (-1048576)] 84) := ⟨_, rfl⟩
  have bAB : Below wA.heap.size wA wB := by subst hB; exact (Below.refl _ _).alloc (Nat.le_refl _) _
  have hg : wA.heap.size = w.heap.size + 1 := by subst hA; simp
  have HN : Hid (NdAt wB (w.heap.size + 1) z []) := Lib.hid (by rw [← hg]; subst hB; exact NdAt.start wA z _ rfl)
  have HK : Hid (RcAt wB w.heap.size r) := Lib.hid (KA.below bAB KA.lt)
  have HB : Hid (Below w.heap.size w wB) := Lib.hid (BA.trans (bAB.mono BA.size))
  clear BA KA bAB
  by_cases c : 0 < z
  · have d : decide (0 < z) = true := decide_eq_true c
    have HZ : Hid (atZ l z = l) := Lib.hid (if_pos c)
    go_enter Tryz.func63, Tryz.ntmps63
    go_wp2_with fail
    rw [← hA, ← hB]
    clear hA hB hg
    have hgw : Hid (w.heap.size ≤ w.heap.size + 1) := Lib.hid (by omega)
    have hgk : Hid (w.heap.size + 1 ≠ w.heap.size) := Lib.hid (by omega)
    generalize w.heap.size + 1 = g at *
    go_loopw [16] (fun i wr => ∃ (k : Nat), k ≤ l.length ∧ i = .int .i64 k ∧ Hid (RcAt wr w.heap.size r) ∧ Hid (NdAt wr g z (l.take k)) ∧ Hid (Below w.heap.size w wr)) (fun i _ => l.length - (intOf i).toNat)
    case atStart => exact ⟨0, Nat.zero_le _, rfl, HK, HN, HB⟩
    case round =>
    clear HK HN HB
    obtain ⟨k, hk, rfl, HK, HN, HB⟩ := hrel
    by_cases hlt : k < l.length
    · obtain ⟨ba, oa, rfl, hba, hva⟩ := HL.out.row (by omega)
      obtain ⟨x0, x1, x2, x3⟩ := hva k hlt
      have hp := HA.out.2 _ (List.getElem_mem hlt)
      have hT : l.take (k + 1) = l.take k ++ [l[k]] := List.take_succ_eq_append_getElem hlt
      obtain ⟨u, hu⟩ : ∃ u, u = l[k] := ⟨_, rfl⟩
      rw [← hu] at x0 x1 x2 x3 hp hT
      have HTK := Lib.hid hT
      clear hu hva hT
      have wc := fun o => HB.out.cell (p := ⟨ba, o, none⟩) hba
      have x0 := (wc _).trans x0; have x1 := (wc _).trans x1; have x2 := (wc _).trans x2; have x3 := (wc _).trans x3
      have hbw : ba < wr.heap.size := Nat.lt_of_lt_of_le hba HB.out.size
      clear wc
      have n0 : (0 : Int) ≤ (k : Int) := by omega
      have n1 : (k : Int) < (l.length : Int) := by omega
      have hlen := HL.out.len
      have P0 := Lib.hid (PlAt.new wr u _ rfl)
      have ba0 : Below wr.heap.size wr (wr.alloc (.cells #[.int .i64 u.s, .int .i64 u.b, .int .i64 u.n, .int .i64 u.d] 47)) := (Below.refl _ _).alloc (Nat.le_refl _) _
      have HK2 := Lib.hid (HK.out.below ba0 HK.out.lt)
      have HN2 := Lib.hid (HN.out.below ba0)
      have HB2 := Lib.hid (HB.out.trans (ba0.mono HB.out.size))
      have hgp : Hid (g < wr.heap.size) := Lib.hid HN.out.lt
      clear ba0 HK HB HN
      have HF := Lib.hid (fun w' => knear_any u z hp h0 h1 w')
      have hS := Lib.hid hp.1
      go_wp2_with fail
      generalize World.alloc wr _ = w3 at *
      generalize wr.heap.size = pb at *
      clear x0 x1 x2 x3 hbw
      have E1 : Hid (Rm5 pb u w w3) := Lib.hid ⟨P0.out.c0, P0.out.c1, P0.out.c2, P0.out.c3, P0.out.lt, HB2⟩
      have hne : Hid (pb ≠ g) := Lib.hid (by have := hgp.out; omega)
      have dn : Hid (Below w3.heap.size w3 w3.drew) := Lib.hid (below_drewN (Below.refl _ _) 1)
      have HN3 := Lib.hid (HN2.out.below dn.out)
      have HK3 := Lib.hid (HK2.out.below dn.out HK2.out.lt)
      obtain ⟨s0, s1⟩ := hp.1
      have y0 := HN3.out.need s0 s1; have yl := HN3.out.lt
      have f0 := fun i => HN3.out.froz i
      obtain ⟨nv, hnv⟩ : ∃ nv, nv = needS z u.s (l.take k) := ⟨_, rfl⟩
      rw [← hnv] at y0
      obtain ⟨pv, hpv⟩ : ∃ pv, pv = nearP u z := ⟨_, rfl⟩
      rw [← hpv] at HF
      have HV : Hid (max nv pv = max (needS z u.s (l.take k)) (nearP u z)) := Lib.hid (by rw [hnv, hpv])
      have HNV := Lib.hid hnv
      clear hnv hpv P0 HB2
      refine wp_region_held_drew (S := fun w' => w'.cell? ⟨pb, 0, none⟩ = some (.int .i64 u.s) ∧ w'.cell? ⟨pb, 1, none⟩ = some (.int .i64 u.b) ∧ w'.cell? ⟨pb, 2, none⟩ = some (.int .i64 u.n) ∧ w'.cell? ⟨pb, 3, none⟩ = some (.int .i64 u.d) ∧ pb < w'.heap.size ∧ Hid (Below w.heap.size w w')) (by kernel_rfl) ?_ (fun hHeld => ?_)
      · exact Rm5.drewN E1.out 1
      refine wpAnyH_take (i := 0) (oi := { dst := some 20, op := Go.Op.fieldAddr 47 (Go.Operand.tmp 9) 0, type := 0, pos := "plane.go:107", after := #[], guard := none }) (v := ?_) rfl (by kernel_rfl) (by kernel_rfl) (by kernel_rfl) (fun _ _ _ h => h) (Or.inl ⟨by rfl, ?_⟩) (by assumption) ?_
      rotate_left
      · (intro w hSw; (try dsimp only at hSw); go_simp); try with_reducible rfl
      try simp only [Act.put, List.setIfInBounds_toArray, List.set_cons_zero, List.set_cons_succ]
      refine wpAnyH_take (i := 1) (oi := { dst := some 21, op := Go.Op.load 3 (Go.Operand.tmp 20), type := 3, pos := "plane.go:107", after := #[{ on := 0, ground := Go.Ground.data }], guard := none }) (v := ?_) rfl (by kernel_rfl) (by kernel_rfl) (by kernel_rfl) (fun _ _ _ h => h) (Or.inl ⟨by rfl, ?_⟩) (by assumption) ?_
      rotate_left
      · (intro w hSw; (try dsimp only at hSw); go_simp); try with_reducible rfl
      try simp only [Act.put, List.setIfInBounds_toArray, List.set_cons_zero, List.set_cons_succ]
      refine wpAnyH_take (i := 2) (oi := { dst := some 22, op := Go.Op.fieldAddr 47 (Go.Operand.tmp 9) 0, type := 0, pos := "plane.go:107", after := #[], guard := none }) (v := ?_) rfl (by kernel_rfl) (by kernel_rfl) (by kernel_rfl) (fun _ _ _ h => h) (Or.inl ⟨by rfl, ?_⟩) (by assumption) ?_
      rotate_left
      · (intro w hSw; (try dsimp only at hSw); go_simp); try with_reducible rfl
      try simp only [Act.put, List.setIfInBounds_toArray, List.set_cons_zero, List.set_cons_succ]
      refine wpAnyH_take (i := 3) (oi := { dst := some 23, op := Go.Op.load 3 (Go.Operand.tmp 22), type := 3, pos := "plane.go:107", after := #[{ on := 2, ground := Go.Ground.data }], guard := none }) (v := ?_) rfl (by kernel_rfl) (by kernel_rfl) (by kernel_rfl) (fun _ _ _ h => h) (Or.inl ⟨by rfl, ?_⟩) (by assumption) ?_
      rotate_left
      · (intro w hSw; (try dsimp only at hSw); go_simp); try with_reducible rfl
      try simp only [Act.put, List.setIfInBounds_toArray, List.set_cons_zero, List.set_cons_succ]
      refine wpAnyH_take (i := 4) (oi := { dst := some 24, op := Go.Op.indexAddr 84 (Go.Operand.tmp 7) (Go.Operand.tmp 23), type := 0, pos := "plane.go:107", after := #[{ on := 3, ground := Go.Ground.data }], guard := none }) (v := ?_) rfl (by kernel_rfl) (by kernel_rfl) (by kernel_rfl) (fun _ _ _ h => h) (Or.inl ⟨by rfl, ?_⟩) (by assumption) ?_
      rotate_left
      · (intro w hSw; (try dsimp only at hSw); go_simp); try with_reducible rfl
      try simp only [Act.put, List.setIfInBounds_toArray, List.set_cons_zero, List.set_cons_succ]
      refine wpAnyH_take (i := 6) (oi := { dst := some 26, op := Go.Op.load 47 (Go.Operand.tmp 9), type := 47, pos := "plane.go:107", after := #[], guard := none }) (v := ?_) rfl (by kernel_rfl) (by kernel_rfl) (by kernel_rfl) (fun _ _ _ h => h) (Or.inl ⟨by rfl, ?_⟩) (by assumption) ?_
      rotate_left
      · (intro w hSw; (try dsimp only at hSw); go_simp); try with_reducible rfl
      try simp only [Act.put, List.setIfInBounds_toArray, List.set_cons_zero, List.set_cons_succ]
      refine wpAnyH_take (i := 7) (oi := { dst := some 27, op := Go.Op.move (Go.Operand.tmp 2), type := 3, pos := "plane.go:107", after := #[], guard := none }) (v := ?_) rfl (by kernel_rfl) (by kernel_rfl) (by kernel_rfl) (fun _ _ _ h => h) (Or.inl ⟨by rfl, ?_⟩) (by assumption) ?_
      rotate_left
      · (intro w hSw; (try dsimp only at hSw); go_simp); try with_reducible rfl
      try simp only [Act.put, List.setIfInBounds_toArray, List.set_cons_zero, List.set_cons_succ]
      refine wpAnyH_ready (rs := [5, 8]) (by kernel_rfl) (by simp) ?_
      refine AllReadyH.cons (o := { dst := some 25, op := Go.Op.load 3 (Go.Operand.tmp 24), type := 3, pos := "plane.go:107", after := #[{ on := 4, ground := Go.Ground.data }], guard := none }) rfl (fun K hK => ?_) (AllReadyH.cons (o := { dst := some 28, op := Go.Op.call { callee := Go.Callee.value (Go.Operand.func 111), args := #[Go.Operand.tmp 26, Go.Operand.tmp 27], argTypes := #[47, 3] }, type := 3, pos := "plane.go:107", after := #[{ on := 6, ground := Go.Ground.data }, { on := 7, ground := Go.Ground.data }], guard := none }) rfl (fun K hK => ?_) AllReadyH.nil)
      · go_simp
        refine hK.out _ _ (hHeld) (fun hHeld2 => ?_)
        clear hK K hHeld
        have hHeld := hHeld2; clear hHeld2
        try simp only [Act.put, List.setIfInBounds_toArray, List.set_cons_zero, List.set_cons_succ]
        refine wpAnyH_ready (rs := [8]) (by kernel_rfl) (by simp) ?_
        refine AllReadyH.cons (o := { dst := some 28, op := Go.Op.call { callee := Go.Callee.value (Go.Operand.func 111), args := #[Go.Operand.tmp 26, Go.Operand.tmp 27], argTypes := #[47, 3] }, type := 3, pos := "plane.go:107", after := #[{ on := 6, ground := Go.Ground.data }, { on := 7, ground := Go.Ground.data }], guard := none }) rfl (fun K hK => ?_) AllReadyH.nil
        go_simp
        go_at_call 111
        refine (HF.out _).mono ?_
        rintro e w9 ⟨rfl, hb⟩
        have HN9 := Lib.hid (HN3.out.below hb)
        have HK9 := Lib.hid (HK3.out.below hb HK3.out.lt)
        have y9 := HN9.out.need s0 s1
        have yl9 := HN9.out.lt
        have f9 := fun i => HN9.out.froz i
        rw [← HNV.out] at y9
        try go_wp2_with fail
        refine hK.out _ _ (Rm5.go ‹_› hb) (fun hHeld2 => ?_)
        clear hK K hHeld hb
        have hHeld := hHeld2; clear hHeld2
        try simp only [Act.put, List.setIfInBounds_toArray, List.set_cons_zero, List.set_cons_succ]
        have hHeld9 := hHeld
        refine wpAnyH_ready (rs := [9]) (by kernel_rfl) (by simp) ?_
        refine AllReadyH.cons (o := { dst := some 29, op := Go.Op.call { callee := Go.Callee.builtin Go.Builtin.max, args := #[Go.Operand.tmp 25, Go.Operand.tmp 28], argTypes := #[3, 3] }, type := 3, pos := "plane.go:107", after := #[{ on := 5, ground := Go.Ground.data }, { on := 8, ground := Go.Ground.data }], guard := none }) rfl (fun K hK => ?_) AllReadyH.nil
        go_simp
        refine hK.out _ _ (hHeld) (fun hHeld2 => ?_)
        clear hK K hHeld
        have hHeld := hHeld2; clear hHeld2
        try simp only [Act.put, List.setIfInBounds_toArray, List.set_cons_zero, List.set_cons_succ]
        refine wpAnyH_ready (rs := [10]) (by kernel_rfl) (by simp) ?_
        refine AllReadyH.cons (o := { dst := some 30, op := Go.Op.indexAddr 84 (Go.Operand.tmp 7) (Go.Operand.tmp 21), type := 0, pos := "plane.go:107", after := #[{ on := 1, ground := Go.Ground.data }, { on := 0, ground := Go.Ground.phase }, { on := 1, ground := Go.Ground.phase }, { on := 2, ground := Go.Ground.phase }, { on := 3, ground := Go.Ground.phase }, { on := 4, ground := Go.Ground.phase }, { on := 5, ground := Go.Ground.phase }, { on := 6, ground := Go.Ground.phase }, { on := 7, ground := Go.Ground.phase }, { on := 8, ground := Go.Ground.phase }, { on := 9, ground := Go.Ground.phase }], guard := none }) rfl (fun K hK => ?_) AllReadyH.nil
        go_simp
        refine hK.out _ _ (hHeld) (fun hHeld2 => ?_)
        clear hK K hHeld
        have hHeld := hHeld2; clear hHeld2
        try simp only [Act.put, List.setIfInBounds_toArray, List.set_cons_zero, List.set_cons_succ]
        refine wpAnyH_ready (rs := [11]) (by kernel_rfl) (by simp) ?_
        refine AllReadyH.cons (o := { dst := none, op := Go.Op.store 3 (Go.Operand.tmp 30) (Go.Operand.tmp 29), type := 0, pos := "plane.go:107", after := #[{ on := 10, ground := Go.Ground.data }, { on := 9, ground := Go.Ground.data }, { on := 8, ground := Go.Ground.chain }, { on := 0, ground := Go.Ground.phase }, { on := 1, ground := Go.Ground.phase }, { on := 2, ground := Go.Ground.phase }, { on := 3, ground := Go.Ground.phase }, { on := 4, ground := Go.Ground.phase }, { on := 5, ground := Go.Ground.phase }, { on := 6, ground := Go.Ground.phase }, { on := 7, ground := Go.Ground.phase }, { on := 8, ground := Go.Ground.phase }, { on := 9, ground := Go.Ground.phase }], guard := none }) rfl (fun K hK => ?_) AllReadyH.nil
        go_simp
        refine hK.out _ _ (Rm5.set ‹_› hne.out hgw.out) (fun hHeld2 => ?_)
        clear hK K hHeld
        have hHeld := hHeld2; clear hHeld2
        try simp only [Act.put, List.setIfInBounds_toArray, List.set_cons_zero, List.set_cons_succ]
        refine wpAnyH_done (by kernel_rfl) ?_ _
        go_wp2_with fail
        go_roundw
        case rel => exact ⟨k + 1, by omega, by go_num, Lib.hid (HK9.out.far hgk.out.symm), Lib.hid (by rw [HTK.out]; exact HN9.out.step hS.out HV.out), Lib.hid ((show Rm5 pb u w w9 from hHeld9).2.2.2.2.2.out.setCell hgw.out _)⟩
        case measure => simp [intOf]; omega
      · go_simp
        go_at_call 111
        refine (HF.out _).mono ?_
        rintro e w9 ⟨rfl, hb⟩
        have HN9 := Lib.hid (HN3.out.below hb)
        have HK9 := Lib.hid (HK3.out.below hb HK3.out.lt)
        have y9 := HN9.out.need s0 s1
        have yl9 := HN9.out.lt
        have f9 := fun i => HN9.out.froz i
        rw [← HNV.out] at y9
        try go_wp2_with fail
        refine hK.out _ _ (Rm5.go ‹_› hb) (fun hHeld2 => ?_)
        clear hK K hHeld hb
        have hHeld := hHeld2; clear hHeld2
        try simp only [Act.put, List.setIfInBounds_toArray, List.set_cons_zero, List.set_cons_succ]
        have hHeld9 := hHeld
        refine wpAnyH_ready (rs := [5]) (by kernel_rfl) (by simp) ?_
        refine AllReadyH.cons (o := { dst := some 25, op := Go.Op.load 3 (Go.Operand.tmp 24), type := 3, pos := "plane.go:107", after := #[{ on := 4, ground := Go.Ground.data }], guard := none }) rfl (fun K hK => ?_) AllReadyH.nil
        go_simp
        refine hK.out _ _ (hHeld) (fun hHeld2 => ?_)
        clear hK K hHeld
        have hHeld := hHeld2; clear hHeld2
        try simp only [Act.put, List.setIfInBounds_toArray, List.set_cons_zero, List.set_cons_succ]
        refine wpAnyH_ready (rs := [9]) (by kernel_rfl) (by simp) ?_
        refine AllReadyH.cons (o := { dst := some 29, op := Go.Op.call { callee := Go.Callee.builtin Go.Builtin.max, args := #[Go.Operand.tmp 25, Go.Operand.tmp 28], argTypes := #[3, 3] }, type := 3, pos := "plane.go:107", after := #[{ on := 5, ground := Go.Ground.data }, { on := 8, ground := Go.Ground.data }], guard := none }) rfl (fun K hK => ?_) AllReadyH.nil
        go_simp
        refine hK.out _ _ (hHeld) (fun hHeld2 => ?_)
        clear hK K hHeld
        have hHeld := hHeld2; clear hHeld2
        try simp only [Act.put, List.setIfInBounds_toArray, List.set_cons_zero, List.set_cons_succ]
        refine wpAnyH_ready (rs := [10]) (by kernel_rfl) (by simp) ?_
        refine AllReadyH.cons (o := { dst := some 30, op := Go.Op.indexAddr 84 (Go.Operand.tmp 7) (Go.Operand.tmp 21), type := 0, pos := "plane.go:107", after := #[{ on := 1, ground := Go.Ground.data }, { on := 0, ground := Go.Ground.phase }, { on := 1, ground := Go.Ground.phase }, { on := 2, ground := Go.Ground.phase }, { on := 3, ground := Go.Ground.phase }, { on := 4, ground := Go.Ground.phase }, { on := 5, ground := Go.Ground.phase }, { on := 6, ground := Go.Ground.phase }, { on := 7, ground := Go.Ground.phase }, { on := 8, ground := Go.Ground.phase }, { on := 9, ground := Go.Ground.phase }], guard := none }) rfl (fun K hK => ?_) AllReadyH.nil
        go_simp
        refine hK.out _ _ (hHeld) (fun hHeld2 => ?_)
        clear hK K hHeld
        have hHeld := hHeld2; clear hHeld2
        try simp only [Act.put, List.setIfInBounds_toArray, List.set_cons_zero, List.set_cons_succ]
        refine wpAnyH_ready (rs := [11]) (by kernel_rfl) (by simp) ?_
        refine AllReadyH.cons (o := { dst := none, op := Go.Op.store 3 (Go.Operand.tmp 30) (Go.Operand.tmp 29), type := 0, pos := "plane.go:107", after := #[{ on := 10, ground := Go.Ground.data }, { on := 9, ground := Go.Ground.data }, { on := 8, ground := Go.Ground.chain }, { on := 0, ground := Go.Ground.phase }, { on := 1, ground := Go.Ground.phase }, { on := 2, ground := Go.Ground.phase }, { on := 3, ground := Go.Ground.phase }, { on := 4, ground := Go.Ground.phase }, { on := 5, ground := Go.Ground.phase }, { on := 6, ground := Go.Ground.phase }, { on := 7, ground := Go.Ground.phase }, { on := 8, ground := Go.Ground.phase }, { on := 9, ground := Go.Ground.phase }], guard := none }) rfl (fun K hK => ?_) AllReadyH.nil
        go_simp
        refine hK.out _ _ (Rm5.set ‹_› hne.out hgw.out) (fun hHeld2 => ?_)
        clear hK K hHeld
        have hHeld := hHeld2; clear hHeld2
        try simp only [Act.put, List.setIfInBounds_toArray, List.set_cons_zero, List.set_cons_succ]
        refine wpAnyH_done (by kernel_rfl) ?_ _
        go_wp2_with fail
        go_roundw
        case rel => exact ⟨k + 1, by omega, by go_num, Lib.hid (HK9.out.far hgk.out.symm), Lib.hid (by rw [HTK.out]; exact HN9.out.step hS.out HV.out), Lib.hid ((show Rm5 pb u w w9 from hHeld9).2.2.2.2.2.out.setCell hgw.out _)⟩
        case measure => simp [intOf]; omega
    · obtain rfl : k = l.length := by omega
      rw [List.take_length, ← HZ.out] at HN
      have z0 := HK.out.cell0; have z1 := HK.out.cell1; have z2 := HK.out.cell2; have z3 := HK.out.cell3; have zl := HK.out.lt
      have a0 := HN.out.c0; have a1 := HN.out.c1; have a2 := HN.out.c2; have a3 := HN.out.c3; have al := HN.out.lt
      have m0 := HM.out 0; have m1 := HM.out 1; have m2 := HM.out 2; have m3 := HM.out 3
      have hE : Hid (roomR r l z = ⟨max (r.X0 + needS z 0 (atZ l z)) 0, max (r.Y0 + needS z 2 (atZ l z)) 0, min (r.X1 - needS z 1 (atZ l z)) 1048576, min (r.Y1 - needS z 3 (atZ l z)) 1048576⟩) := Lib.hid rfl
      generalize needS z 0 (atZ l z) = n0 at *
      generalize needS z 1 (atZ l z) = n1 at *
      generalize needS z 2 (atZ l z) = n2 at *
      generalize needS z 3 (atZ l z) = n3 at *
      have rk := HA.out.1
      obtain ⟨⟨r0, r1, r2⟩, r3, r4, r5⟩ := rk
      have q0 : IntKind.i64.wrap (r.X0 + n0) = r.X0 + n0 := IntWalk.i64_in _ (by omega)
      have q1 : IntKind.i64.wrap (r.X1 - n1) = r.X1 - n1 := IntWalk.i64_in _ (by omega)
      have q2 : IntKind.i64.wrap (r.Y0 + n2) = r.Y0 + n2 := IntWalk.i64_in _ (by omega)
      have q3 : IntKind.i64.wrap (r.Y1 - n3) = r.Y1 - n3 := IntWalk.i64_in _ (by omega)
      obtain ⟨s0, hs0⟩ : ∃ s, max (r.X0 + n0) 0 = s := ⟨_, rfl⟩
      obtain ⟨s1, hs1⟩ : ∃ s, max (r.Y0 + n2) 0 = s := ⟨_, rfl⟩
      obtain ⟨s2, hs2⟩ : ∃ s, min (r.X1 - n1) 1048576 = s := ⟨_, rfl⟩
      obtain ⟨s3, hs3⟩ : ∃ s, min (r.Y1 - n3) 1048576 = s := ⟨_, rfl⟩
      rw [hs0, hs1, hs2, hs3] at hE
      have HE := Lib.hid hE.out
      have HR := Lib.hid (fun w' => tright_nd s0 s1 s2 s3 w')
      have KR := Lib.hid (RcAt.new wr ⟨s0, s1, s2, s3⟩ _ rfl)
      have BR := Lib.hid (HB.out.alloc HB.out.size (.cells #[.int .i64 s0, .int .i64 s1, .int .i64 s2, .int .i64 s3] 33))
      have k0 := KR.out.cell0; have k1 := KR.out.cell1; have k2 := KR.out.cell2; have k3 := KR.out.cell3; have kl := KR.out.lt
      simp only [] at k0 k1 k2 k3
      clear hE
      by_cases cr : ROk ⟨s0, s1, s2, s3⟩
      · rw [show rokB ⟨s0, s1, s2, s3⟩ = true from (rokB_iff _).2 cr] at HR
        have HRS : Hid (roomS r l z = [⟨s0, s1, s2, s3⟩]) := Lib.hid (by unfold roomS; rw [HE.out, if_pos cr])
        clear cr HE
        go_wp2_with fail
        try simp only [hs0, hs1, hs2, hs3]
        generalize World.alloc wr _ = w5 at *
        generalize wr.heap.size = rb at *
        clear z0 z1 z2 z3 zl a0 a1 a2 a3 al HK HN
        refine (HR.out _).mono ?_
        rintro e w6 ⟨rfl, hb⟩
        have K6 := Lib.hid (KR.out.below hb kl)
        have B6 := Lib.hid (BR.out.trans (hb.mono BR.out.size)); clear hb KR BR k0 k1 k2 k3 kl
        have k0 := K6.out.cell0; have k1 := K6.out.cell1; have k2 := K6.out.cell2; have k3 := K6.out.cell3; have kl := K6.out.lt
        simp only [] at k0 k1 k2 k3
        have HRW := Lib.hid (RB.row (RB.new w6 [⟨s0, s1, s2, s3⟩] #[.int .i64 s0, .int .i64 s1, .int .i64 s2, .int .i64 s3] rfl) (by simp))
        go_wp2_with fail
        go_ret
        exact RmIs.of HRS.out rfl rfl HRW.out.row (B6.out.alloc B6.out.size _)
      · rw [show rokB ⟨s0, s1, s2, s3⟩ = false from (rokB_no _).2 cr] at HR
        have HRS : Hid (roomS r l z = []) := Lib.hid (by unfold roomS; rw [HE.out, if_neg cr])
        clear cr HE
        go_wp2_with fail
        try simp only [hs0, hs1, hs2, hs3]
        generalize World.alloc wr _ = w5 at *
        clear z0 z1 z2 z3 zl a0 a1 a2 a3 al HK HN
        refine (HR.out _).mono ?_
        rintro e w6 ⟨rfl, hb⟩
        have B6 := Lib.hid (BR.out.trans (hb.mono BR.out.size)); clear hb KR BR k0 k1 k2 k3 kl
        go_wp2_with fail
        go_ret
        exact RmIs.of HRS.out rfl rfl (RRow.nil _ _) B6.out
  · have d : decide (0 < z) = false := decide_eq_false c
    have HZ : Hid (atZ l z = []) := Lib.hid (if_neg c)
    rw [← HZ.out] at HN
    have hBz : w.heap.size + 1 + 1 = wB.heap.size := by rw [hB]; simp [hg]
    have z0 := HK.out.cell0; have z1 := HK.out.cell1; have z2 := HK.out.cell2; have z3 := HK.out.cell3; have zl := HK.out.lt
    have a0 := HN.out.c0; have a1 := HN.out.c1; have a2 := HN.out.c2; have a3 := HN.out.c3; have al := HN.out.lt
    have hz9 : ∀ s, needS z s [] = -1048576 := fun _ => rfl
    have hE : Hid (roomR r l z = ⟨max (r.X0 + -1048576) 0, max (r.Y0 + -1048576) 0, min (r.X1 + 1048576) 1048576, min (r.Y1 + 1048576) 1048576⟩) := Lib.hid (by unfold roomR; rw [HZ.out, hz9, hz9, hz9, hz9]; apply Rc.eq <;> simp only [] <;> omega)
    have rk := HA.out.1
    obtain ⟨⟨r0, r1, r2⟩, r3, r4, r5⟩ := rk
    clear hz9
    have q0 : IntKind.i64.wrap (r.X0 + -1048576) = r.X0 + -1048576 := IntWalk.i64_in _ (by omega)
    have q1 : IntKind.i64.wrap (r.X1 + 1048576) = r.X1 + 1048576 := IntWalk.i64_in _ (by omega)
    have q2 : IntKind.i64.wrap (r.Y0 + -1048576) = r.Y0 + -1048576 := IntWalk.i64_in _ (by omega)
    have q3 : IntKind.i64.wrap (r.Y1 + 1048576) = r.Y1 + 1048576 := IntWalk.i64_in _ (by omega)
    obtain ⟨s0, hs0⟩ : ∃ s, max (r.X0 + -1048576) 0 = s := ⟨_, rfl⟩
    obtain ⟨s1, hs1⟩ : ∃ s, max (r.Y0 + -1048576) 0 = s := ⟨_, rfl⟩
    obtain ⟨s2, hs2⟩ : ∃ s, min (r.X1 + 1048576) 1048576 = s := ⟨_, rfl⟩
    obtain ⟨s3, hs3⟩ : ∃ s, min (r.Y1 + 1048576) 1048576 = s := ⟨_, rfl⟩
    rw [hs0, hs1, hs2, hs3] at hE
    have HE := Lib.hid hE.out
    have HR := Lib.hid (fun w' => tright_nd s0 s1 s2 s3 w')
    have KR := Lib.hid (RcAt.new wB ⟨s0, s1, s2, s3⟩ (w.heap.size + 1 + 1) hBz)
    have BR := Lib.hid (HB.out.alloc HB.out.size (.cells #[.int .i64 s0, .int .i64 s1, .int .i64 s2, .int .i64 s3] 33))
    have k0 := KR.out.cell0; have k1 := KR.out.cell1; have k2 := KR.out.cell2; have k3 := KR.out.cell3; have kl := KR.out.lt
    simp only [] at k0 k1 k2 k3
    clear hE hBz hg
    by_cases cr : ROk ⟨s0, s1, s2, s3⟩
    · rw [show rokB ⟨s0, s1, s2, s3⟩ = true from (rokB_iff _).2 cr] at HR
      have HRS : Hid (roomS r l z = [⟨s0, s1, s2, s3⟩]) := Lib.hid (by unfold roomS; rw [HE.out, if_pos cr])
      clear cr HE
      go_enter Tryz.func63, Tryz.ntmps63
      go_wp2_with fail
      rw [← hA, ← hB]
      try simp only [hs0, hs1, hs2, hs3]
      generalize World.alloc wB _ = w5 at *
      clear z0 z1 z2 z3 zl a0 a1 a2 a3 al HK HN
      refine (HR.out _).mono ?_
      rintro e w6 ⟨rfl, hb⟩
      have K6 := Lib.hid (KR.out.below hb kl)
      have B6 := Lib.hid (BR.out.trans (hb.mono BR.out.size)); clear hb KR BR k0 k1 k2 k3 kl
      have k0 := K6.out.cell0; have k1 := K6.out.cell1; have k2 := K6.out.cell2; have k3 := K6.out.cell3; have kl := K6.out.lt
      simp only [] at k0 k1 k2 k3
      have HRW := Lib.hid (RB.row (RB.new w6 [⟨s0, s1, s2, s3⟩] #[.int .i64 s0, .int .i64 s1, .int .i64 s2, .int .i64 s3] rfl) (by simp))
      go_wp2_with fail
      go_ret
      exact RmIs.of HRS.out rfl rfl HRW.out.row (B6.out.alloc B6.out.size _)
    · rw [show rokB ⟨s0, s1, s2, s3⟩ = false from (rokB_no _).2 cr] at HR
      have HRS : Hid (roomS r l z = []) := Lib.hid (by unfold roomS; rw [HE.out, if_neg cr])
      clear cr HE
      go_enter Tryz.func63, Tryz.ntmps63
      go_wp2_with fail
      rw [← hA, ← hB]
      try simp only [hs0, hs1, hs2, hs3]
      generalize World.alloc wB _ = w5 at *
      clear z0 z1 z2 z3 zl a0 a1 a2 a3 al HK HN
      refine (HR.out _).mono ?_
      rintro e w6 ⟨rfl, hb⟩
      have B6 := Lib.hid (BR.out.trans (hb.mono BR.out.size)); clear hb KR BR k0 k1 k2 k3 kl
      go_wp2_with fail
      go_ret
      exact RmIs.of HRS.out rfl rfl (RRow.nil _ _) B6.out
end Go.Proofs.YtkjblmfmaenllaaGreat
namespace Go.Proofs.YtkjblmfmaenllaaGreat
open Go.RowKit

/-- Room for whatever arguments. -/
def RoomIs (r : Rc) (l : List Pl) (z : Int) : List Rc × Int := if ArgOk r l then (if 0 ≤ z ∧ z ≤ 4096 then (roomS r l z, 0) else ([], 3)) else ([], 1)
def RmE (x : List Rc × Int) (w : World) (e : Ending) (w' : World) : Prop := ∃ A, e = .returned (.tuple #[.slice A x.1.length x.1.length, .int .i64 x.2]) ∧ RRow w' A x.1 ∧ Below w.heap.size w w'
theorem RmE.of {x y : List Rc × Int} {w w' : World} {A : Option Addr} {n m : Nat} {er : Int} (h : x = y) (hn : n = y.1.length) (hm : m = y.1.length) (he : er = y.2) (hr : RRow w' A y.1) (hb : Below w.heap.size w w') : RmE x w (.returned (.tuple #[.slice A n m, .int .i64 er])) w' := by subst h; subst hn; subst hm; subst he; exact ⟨A, rfl, hr, hb⟩
theorem room_len (r : Rc) (l : List Pl) (z : Int) : (roomS r l z).length ≤ 1 := by unfold roomS; split <;> simp
set_option maxHeartbeats 8000000 in
theorem kRoom_any (r : Rc) (A : Option Addr) (cap : Nat) (l : List Pl) (z : Int) (w : World) (hl : PlIn w A cap l) :
    Calls Tryz.prog 16 #[.agg #[.int .i64 r.X0, .int .i64 r.Y0, .int .i64 r.X1, .int .i64 r.Y1], .slice A l.length cap, .int .i64 z] w (RmE (RoomIs r l z) w) := by
  have HR := Lib.hid (fun w' (h : Below w.heap.size w w') => kareR_any r A cap l w' (hl.below h))
  have HH := Lib.hid (fun w' => kheight_any z w')
  have HT : Hid (ArgOk r l → 0 ≤ z → z ≤ 4096 → ∀ w', Below w.heap.size w w' → Calls Tryz.prog 63 #[.agg #[.int .i64 r.X0, .int .i64 r.Y0, .int .i64 r.X1, .int .i64 r.Y1], .slice A l.length cap, .int .i64 z] w' (RmIs (roomS r l z) w')) := Lib.hid (fun ha h0 h1 w' h => kroom_any r A cap l z w' (hl.below h) ha h0 h1)
  clear hl
  have B0 : Hid (Below w.heap.size w (w.alloc (.cells #[.int .i64 r.X0, .int .i64 r.Y0, .int .i64 r.X1, .int .i64 r.Y1] 33))) := Lib.hid (by (repeat' first | exact Below.refl _ _ | assumption | (apply below_drewN) | (refine Below.setCell ?_ (by (try simp); (try omega)) _) | (refine Below.alloc ?_ (by (try simp); (try omega)) _) | (refine Below.trans ?_ (Below.mono (Hid.out (by assumption)) (by (try simp); (try omega))))))
  have K0 : Hid (RcAt (w.alloc (.cells #[.int .i64 r.X0, .int .i64 r.Y0, .int .i64 r.X1, .int .i64 r.Y1] 33)) w.heap.size r) := Lib.hid (RcAt.new w r _ rfl)
  have k0 := K0.out.cell0; have k1 := K0.out.cell1; have k2 := K0.out.cell2; have k3 := K0.out.cell3; have kl := K0.out.lt
  by_cases c : ArgOk r l
  · rw [decide_eq_true c] at HR
    by_cases d : 0 ≤ z ∧ z ≤ 4096
    · rw [decide_eq_true d] at HH
      have HRS : Hid (RoomIs r l z = (roomS r l z, 0)) := Lib.hid (by unfold RoomIs; rw [if_pos c, if_pos d])
      replace HT := Lib.hid (HT.out c d.1 d.2)
      clear c d
      generalize roomS r l z = F at *
      go_enter Tryz.func16, Tryz.ntmps16
      go_wp2_with fail
      generalize World.alloc w _ = w0 at *
      refine (HR.out _ B0.out).mono ?_
      rintro e w1 ⟨rfl, hb⟩
      have B1 := Lib.hid (B0.out.trans (hb.mono B0.out.size)); have K1 := Lib.hid (K0.out.below hb kl); clear hb K0 B0 HR k0 k1 k2 k3 kl
      go_wp2_with fail
      refine (HH.out _).mono ?_
      rintro e w2 ⟨rfl, hb⟩
      have B2 := Lib.hid (B1.out.trans (hb.mono B1.out.size)); have K2 := Lib.hid (K1.out.below hb K1.out.lt); clear hb K1 B1 HH
      have k0 := K2.out.cell0; have k1 := K2.out.cell1; have k2 := K2.out.cell2; have k3 := K2.out.cell3; have kl := K2.out.lt
      go_wp2_with fail
      refine (HT.out _ B2.out).mono ?_
      rintro e w3 ⟨A3, rfl, hr, hb⟩
      have B3 := Lib.hid (B2.out.trans (hb.mono B2.out.size)); have H3 := Lib.hid hr; clear hb hr K2 B2 HT k0 k1 k2 k3 kl
      go_wp2_with fail
      go_ret2
      exact RmE.of HRS.out rfl rfl rfl H3.out B3.out
    · rw [decide_eq_false d] at HH
      have HRS : Hid (RoomIs r l z = ([], 3)) := Lib.hid (by unfold RoomIs; rw [if_pos c, if_neg d])
      clear c d HT
      go_enter Tryz.func16, Tryz.ntmps16
      go_wp2_with fail
      generalize World.alloc w _ = w0 at *
      refine (HR.out _ B0.out).mono ?_
      rintro e w1 ⟨rfl, hb⟩
      have B1 := Lib.hid (B0.out.trans (hb.mono B0.out.size)); clear hb K0 B0 HR k0 k1 k2 k3 kl
      go_wp2_with fail
      refine (HH.out _).mono ?_
      rintro e w2 ⟨rfl, hb⟩
      have B2 := Lib.hid (B1.out.trans (hb.mono B1.out.size)); clear hb B1 HH
      go_wp2_with fail
      go_ret2
      exact RmE.of HRS.out rfl rfl rfl (RRow.nil _ _) B2.out
  · rw [decide_eq_false c] at HR
    have HRS : Hid (RoomIs r l z = ([], 1)) := Lib.hid (by unfold RoomIs; rw [if_neg c])
    clear c HT HH
    go_enter Tryz.func16, Tryz.ntmps16
    go_wp2_with fail
    generalize World.alloc w _ = w0 at *
    refine (HR.out _ B0.out).mono ?_
    rintro e w1 ⟨rfl, hb⟩
    have B1 := Lib.hid (B0.out.trans (hb.mono B0.out.size)); clear hb K0 B0 HR k0 k1 k2 k3 kl
    go_wp2_with fail
    go_ret2
    exact RmE.of HRS.out rfl rfl rfl (RRow.nil _ _) B1.out
/-! ### the least height over an area -/
def Lw8 (ga gb : Nat) (r b : Rc) (W w' : World) : Prop := w'.cell? ⟨ga, 0, none⟩ = some (.int .i64 r.X0) ∧ w'.cell? ⟨ga, 1, none⟩ = some (.int .i64 r.Y0) ∧ w'.cell? ⟨ga, 2, none⟩ = some (.int .i64 r.X1) ∧ w'.cell? ⟨ga, 3, none⟩ = some (.int .i64 r.Y1) ∧ w'.cell? ⟨gb, 0, none⟩ = some (.int .i64 b.X0) ∧ w'.cell? ⟨gb, 1, none⟩ = some (.int .i64 b.Y0) ∧ w'.cell? ⟨gb, 2, none⟩ = some (.int .i64 b.X1) ∧ w'.cell? ⟨gb, 3, none⟩ = some (.int .i64 b.Y1) ∧ ga < w'.heap.size ∧ gb < w'.heap.size ∧ Hid (Below W.heap.size W w')
theorem Lw8.go {ga gb : Nat} {r b : Rc} {W w w' : World} (h : Lw8 ga gb r b W w) (hb : Below w.heap.size w w') : Lw8 ga gb r b W w' := by
  obtain ⟨c0, c1, c2, c3, d0, d1, d2, d3, l1, l2, h5⟩ := h
  have wc := fun o => hb.cell (p := ⟨ga, o, none⟩) l1
  have wd := fun o => hb.cell (p := ⟨gb, o, none⟩) l2
  exact ⟨(wc _).trans c0, (wc _).trans c1, (wc _).trans c2, (wc _).trans c3, (wd _).trans d0, (wd _).trans d1, (wd _).trans d2, (wd _).trans d3, Nat.lt_of_lt_of_le l1 hb.size, Nat.lt_of_lt_of_le l2 hb.size, Lib.hid (h5.out.trans (hb.mono h5.out.size))⟩
theorem Lw8.drewN {ga gb : Nat} {r b : Rc} {W w : World} (h : Lw8 ga gb r b W w) (n : Nat) : Lw8 ga gb r b W (w.drewN n) := h.go (below_drewN (Below.refl _ _) n)
set_option maxHeartbeats 16000000 in
theorem klow_any (r : Rc) (A : Option Addr) (cap : Nat) (l : List Pl) (A2 : Option Addr) (c2 : Nat) (a : List Rc) (w : World) (hl : PlIn w A cap l) (ha : ArgOk r l) (hr : RIn w A2 c2 a) (hreg : RegP a) (hne : a ≠ []) :
    Calls Tryz.prog 61 #[.agg #[.int .i64 r.X0, .int .i64 r.Y0, .int .i64 r.X1, .int .i64 r.Y1], .slice A l.length cap, .slice A2 a.length c2] w (InIs (lowS r l a) w) := by
  have HGB := Lib.hid (fun w' (h : Below w.heap.size w w') => gbounds_any A2 c2 a w' (hr.below h))
  have hf := form_ok hreg.1
  have hb2 := bounds_is hf hne
  have hbo := ((bounds_of a).1 hb2).1
  rw [show boundsG a = boundsR a from if_pos hreg] at HGB
  have HE : Hid (lowS r l a = min (topH r l (boundsR a).1.X0 (boundsR a).1.Y0) (topH r l ((boundsR a).1.X1 - 1) ((boundsR a).1.Y1 - 1))) := Lib.hid rfl
  generalize boundsR a = bx at *
  obtain ⟨b, bb⟩ := bx
  simp only [] at hb2 hbo HE
  subst hb2
  obtain ⟨⟨b0, b1, b2⟩, b3, b4, b5⟩ := hbo
  have HT1 := Lib.hid (fun w' (h : Below w.heap.size w w') => ktop_any r A cap l b.X0 b.Y0 w' (hl.below h) ha ⟨by omega, by omega⟩)
  have HT2 := Lib.hid (fun w' (h : Below w.heap.size w w') => ktop_any r A cap l (b.X1 - 1) (b.Y1 - 1) w' (hl.below h) ha ⟨by omega, by omega⟩)
  have q0 : IntKind.i64.wrap (b.X1 - 1) = b.X1 - 1 := IntWalk.i64_in _ (by omega)
  have q1 : IntKind.i64.wrap (b.Y1 - 1) = b.Y1 - 1 := IntWalk.i64_in _ (by omega)
  generalize topH r l b.X0 b.Y0 = t1 at *
  generalize topH r l (b.X1 - 1) (b.Y1 - 1) = t2 at *
  obtain ⟨xm, hxm⟩ : ∃ xm, b.X1 - 1 = xm := ⟨_, rfl⟩
  obtain ⟨ym, hym⟩ : ∃ ym, b.Y1 - 1 = ym := ⟨_, rfl⟩
  rw [hxm, hym] at HT2
  replace q0 := q0.trans hxm
  replace q1 := q1.trans hym
  clear hxm hym hl ha hr hreg hne hf b0 b1 b2 b3 b4 b5
  have B0 : Hid (Below w.heap.size w (w.alloc (.cells #[.int .i64 r.X0, .int .i64 r.Y0, .int .i64 r.X1, .int .i64 r.Y1] 33))) := Lib.hid (by (repeat' first | exact Below.refl _ _ | assumption | (apply below_drewN) | (refine Below.setCell ?_ (by (try simp); (try omega)) _) | (refine Below.alloc ?_ (by (try simp); (try omega)) _) | (refine Below.trans ?_ (Below.mono (Hid.out (by assumption)) (by (try simp); (try omega))))))
  have K0 : Hid (RcAt (w.alloc (.cells #[.int .i64 r.X0, .int .i64 r.Y0, .int .i64 r.X1, .int .i64 r.Y1] 33)) w.heap.size r) := Lib.hid (RcAt.new w r _ rfl)
  have kl := K0.out.lt
  go_enter Tryz.func61, Tryz.ntmps61
  go_wp2_with fail
  generalize World.alloc w _ = w0 at *
  refine (HGB.out _ B0.out).mono ?_
  rintro e w1 ⟨rfl, hb⟩
  have B1 := Lib.hid (B0.out.trans (hb.mono B0.out.size)); have K1 := Lib.hid (K0.out.below hb kl); clear hb K0 B0 HGB kl
  have ba := (Below.refl w1.heap.size w1).alloc (Nat.le_refl _) (.cells #[.int .i64 b.X0, .int .i64 b.Y0, .int .i64 b.X1, .int .i64 b.Y1] 33)
  have K2 := Lib.hid (K1.out.below ba K1.out.lt)
  have N2 := Lib.hid (RcAt.new w1 b _ rfl)
  have B2 := Lib.hid (B1.out.trans (ba.mono B1.out.size)); clear ba K1 B1
  go_wp2_with fail
  generalize World.alloc w1 _ = w2 at *
  generalize w1.heap.size = gb at *
  have E2 : Hid (Lw8 w.heap.size gb r b w w2) := Lib.hid ⟨K2.out.cell0, K2.out.cell1, K2.out.cell2, K2.out.cell3, N2.out.cell0, N2.out.cell1, N2.out.cell2, N2.out.cell3, K2.out.lt, N2.out.lt, B2⟩
  clear K2 N2 B2
  go_region_held3 (fun w' => w'.cell? ⟨w.heap.size, 0, none⟩ = some (.int .i64 r.X0) ∧ w'.cell? ⟨w.heap.size, 1, none⟩ = some (.int .i64 r.Y0) ∧ w'.cell? ⟨w.heap.size, 2, none⟩ = some (.int .i64 r.X1) ∧ w'.cell? ⟨w.heap.size, 3, none⟩ = some (.int .i64 r.Y1) ∧ w'.cell? ⟨gb, 0, none⟩ = some (.int .i64 b.X0) ∧ w'.cell? ⟨gb, 1, none⟩ = some (.int .i64 b.Y0) ∧ w'.cell? ⟨gb, 2, none⟩ = some (.int .i64 b.X1) ∧ w'.cell? ⟨gb, 3, none⟩ = some (.int .i64 b.Y1) ∧ w.heap.size < w'.heap.size ∧ gb < w'.heap.size ∧ Hid (Below w.heap.size w w'))
    (first | exact E2.out | exact Lw8.drewN E2.out 1 | exact Lw8.go ‹_› ‹_› | assumption)
    (first
      | (go_at_call 74; (with_reducible refine Calls.mono (HT1.out _ ?_) ?_); (exact (show Lw8 w.heap.size gb r b w _ from (by first | assumption | exact Lw8.drewN E2.out 1)).2.2.2.2.2.2.2.2.2.2.out); rintro e w' ⟨rfl, hb⟩)
      | (go_at_call 74; (with_reducible refine Calls.mono (HT2.out _ ?_) ?_); (exact (show Lw8 w.heap.size gb r b w _ from (by first | assumption | exact Lw8.drewN E2.out 1)).2.2.2.2.2.2.2.2.2.2.out); rintro e w' ⟨rfl, hb⟩)
      | fail)
  all_goals
    have E3 : Lw8 w.heap.size gb r b w w' := by assumption
    have HB := E3.2.2.2.2.2.2.2.2.2.2
    clear E3
    go_wp2_with fail
    go_ret
    exact InIs.of HE.out.symm HB.out
end Go.Proofs.YtkjblmfmaenllaaGreat
namespace Go.Proofs.YtkjblmfmaenllaaGreat
open Go.RowKit

structure Pt where
  X : Int
  Y : Int
deriving DecidableEq, Inhabited
/-- a list of points at an address. -/
def PRow (w : World) (A : Option Addr) (l : List Pt) : Prop := 0 < l.length → ∃ b off, A = some ⟨b, off, none⟩ ∧ b < w.heap.size ∧ ∀ j (h : j < l.length), w.cell? ⟨b, off + j * 2, none⟩ = some (.int .i64 l[j].X) ∧ w.cell? ⟨b, off + j * 2 + 1, none⟩ = some (.int .i64 l[j].Y)
theorem PRow.below {w w' : World} {A : Option Addr} {l : List Pt} (h : PRow w A l) (hb : Below w.heap.size w w') : PRow w' A l := fun h0 => by
  obtain ⟨b, off, rfl, hl, hc⟩ := h h0
  exact ⟨b, off, rfl, Nat.lt_of_lt_of_le hl hb.size, fun j hj => ⟨(hb.cell (p := ⟨b, off + j * 2, none⟩) hl).trans (hc j hj).1, (hb.cell (p := ⟨b, off + j * 2 + 1, none⟩) hl).trans (hc j hj).2⟩⟩
theorem PRow.nil (w : World) (A : Option Addr) : PRow w A [] := fun h => absurd h (by simp)
/-- cmp.Or of two numbers. -/
def orI (x y : Int) : Int := if x = 0 then y else x
theorem or_any (b : Nat) (x y : Int) (w : World) (h0 : w.cell? ⟨b, 0, none⟩ = some (.int .i64 x)) (h1 : w.cell? ⟨b, 1, none⟩ = some (.int .i64 y)) (hb : b < w.heap.size) :
    Calls Tryz.prog 109 #[.slice (some ⟨b, 0, none⟩) 2 2] w fun e w' => e = .returned (.int .i64 (orI x y)) ∧ w' = w := by
  unfold orI
  by_cases c : x = 0
  · subst c
    by_cases d : y = 0
    · subst d
      go_enter Tryz.func109, Tryz.ntmps109
      go_wp2
      go_loopw [5, 8] (fun _ i wr => ∃ k : Nat, k ≤ 2 ∧ i = .int .i64 k ∧ wr = w) (fun _ i _ => 2 - (intOf i).toNat)
      case atStart => exact ⟨0, Nat.zero_le _, rfl, rfl⟩
      case round =>
        obtain ⟨k, hk, rfl, rfl⟩ := hrel
        by_cases e0 : k = 0
        · subst e0
          go_wp2
          go_roundw
          case rel => exact ⟨1, by omega, by go_num, by first | trivial | rfl⟩
          case measure => simp [intOf]
        · by_cases e1 : k = 1
          · subst e1
            go_wp2
            go_roundw
            case rel => exact ⟨2, by omega, by go_num, by first | trivial | rfl⟩
            case measure => simp [intOf]
          · obtain rfl : k = 2 := by omega
            go_wp2
            go_ret
            exact ⟨rfl, rfl⟩
    · have q1 : (y != 0) = true := by simp [d]
      go_enter Tryz.func109, Tryz.ntmps109
      go_wp2
      go_loopw [5, 8] (fun _ i wr => ∃ k : Nat, k ≤ 1 ∧ i = .int .i64 k ∧ wr = w) (fun _ i _ => 2 - (intOf i).toNat)
      case atStart => exact ⟨0, Nat.zero_le _, rfl, rfl⟩
      case round =>
        obtain ⟨k, hk, rfl, rfl⟩ := hrel
        by_cases e0 : k = 0
        · subst e0
          go_wp2
          go_roundw
          case rel => exact ⟨1, by omega, by go_num, by first | trivial | rfl⟩
          case measure => simp [intOf]
        · obtain rfl : k = 1 := by omega
          go_wp2
          go_ret
          exact ⟨rfl, rfl⟩
  · have q1 : (x != 0) = true := by simp [c]
    go_enter Tryz.func109, Tryz.ntmps109
    go_wp2
    go_loopw [5, 8] (fun _ i wr => ∃ k : Nat, k ≤ 0 ∧ i = .int .i64 k ∧ wr = w) (fun _ i _ => 2 - (intOf i).toNat)
    case atStart => exact ⟨0, Nat.zero_le _, rfl, rfl⟩
    case round =>
      obtain ⟨k, hk, rfl, rfl⟩ := hrel
      obtain rfl : k = 0 := by omega
      go_wp2
      go_ret
      first | exact ⟨rfl, rfl⟩ | exact ⟨by rw [if_neg c]; rfl, rfl⟩
/-- w' is w, gone on by draws and new memory alone. -/
def CmpG (w w' : World) : Prop := ∃ q os, w' = Sort.grow (w.drewN q) os
theorem CmpG.refl (w : World) : CmpG w w := ⟨0, #[], by simp [Sort.grow, World.drewN]⟩
theorem CmpG.drewN {w w' : World} (h : CmpG w w') (n : Nat) : CmpG w (w'.drewN n) := by
  obtain ⟨q, os, rfl⟩ := h
  exact ⟨q + n, os, by simp [Sort.grow, World.drewN, Nat.add_assoc]⟩
theorem CmpG.alloc {w w' : World} (h : CmpG w w') (o : Obj) : CmpG w (w'.alloc o) := by
  obtain ⟨q, os, rfl⟩ := h
  exact ⟨q, os ++ #[o], by rw [Sort.alloc_eq_grow, Sort.grow_grow]⟩
theorem CmpG.below {w w' : World} (h : CmpG w w') : Below w.heap.size w w' := by
  obtain ⟨q, os, rfl⟩ := h
  exact Lib.below_grow _ _ (Nat.le_refl _) _ _
def Cq (b : Nat) (p q : Pt) (W w : World) : Prop := w.cell? ⟨b, 0, none⟩ = some (.int .i64 p.X) ∧ w.cell? ⟨b, 1, none⟩ = some (.int .i64 p.Y) ∧ w.cell? ⟨b + 1, 0, none⟩ = some (.int .i64 q.X) ∧ w.cell? ⟨b + 1, 1, none⟩ = some (.int .i64 q.Y) ∧ b < w.heap.size ∧ b + 1 < w.heap.size ∧ Hid (CmpG W w)
theorem Cq.go {b : Nat} {p q : Pt} {W w w' : World} (h : Cq b p q W w) (hb : Below w.heap.size w w') (hc : CmpG W w') : Cq b p q W w' := by
  obtain ⟨x, y, u, v, l1, l2, _⟩ := h
  exact ⟨(hb.cell (p := ⟨b, 0, none⟩) l1).trans x, (hb.cell (p := ⟨b, 1, none⟩) l1).trans y, (hb.cell (p := ⟨b + 1, 0, none⟩) l2).trans u, (hb.cell (p := ⟨b + 1, 1, none⟩) l2).trans v, Nat.lt_of_lt_of_le l1 hb.size, Nat.lt_of_lt_of_le l2 hb.size, Lib.hid hc⟩
theorem Cq.drewN {b : Nat} {p q : Pt} {W w : World} (h : Cq b p q W w) (n : Nat) : Cq b p q W (w.drewN n) := h.go (below_drewN (Below.refl _ _) n) (h.2.2.2.2.2.2.out.drewN n)
theorem Cq.alloc {b : Nat} {p q : Pt} {W w : World} (h : Cq b p q W w) (o : Obj) : Cq b p q W (w.alloc o) := h.go ((Below.refl _ _).alloc (Nat.le_refl _) o) (h.2.2.2.2.2.2.out.alloc o)
theorem Cq.eq {b : Nat} {p q : Pt} {W w w' : World} (h : Cq b p q W w) (e : w' = w) : Cq b p q W w' := by subst e; exact h
def cmpP (p q : Pt) : Int := orI (Lib.compareInt p.X q.X) (Lib.compareInt p.Y q.Y)
set_option maxHeartbeats 8000000 in
theorem compare_any (p q : Pt) (w : World) : Calls Tryz.prog 108 #[.agg #[.int .i64 p.X, .int .i64 p.Y], .agg #[.int .i64 q.X, .int .i64 q.Y]] w fun e w' => e = .returned (.int .i64 (cmpP p q)) ∧ CmpG w w' := by
  unfold cmpP
  have hc1 := fun W' => Go.Proofs.Tryz.cmp_Compare_int p.X q.X W'
  have hc2 := fun W' => Go.Proofs.Tryz.cmp_Compare_int p.Y q.Y W'
  generalize Lib.compareInt p.X q.X = r1 at *
  generalize Lib.compareInt p.Y q.Y = r2 at *
  have E0 : Hid (Cq w.heap.size p q w ((w.alloc (.cells #[.int .i64 p.X, .int .i64 p.Y] 79)).alloc (.cells #[.int .i64 q.X, .int .i64 q.Y] 79))) := Lib.hid (by
    refine ⟨by simp, by simp, by simp, by simp, by simp <;> omega, by simp, Lib.hid (((CmpG.refl w).alloc _).alloc _)⟩)
  go_enter Tryz.func108, Tryz.ntmps108
  go_wp2_with fail
  generalize World.alloc (World.alloc w _) _ = wB at *
  generalize w.heap.size = g at *
  refine wp_region_held_drew (S := fun w' => w'.cell? ⟨g, 0, none⟩ = some (.int .i64 p.X) ∧ w'.cell? ⟨g, 1, none⟩ = some (.int .i64 p.Y) ∧ w'.cell? ⟨g + 1, 0, none⟩ = some (.int .i64 q.X) ∧ w'.cell? ⟨g + 1, 1, none⟩ = some (.int .i64 q.Y) ∧ g < w'.heap.size ∧ g + 1 < w'.heap.size ∧ Hid (CmpG w w')) (by kernel_rfl) ?_ (fun hHeld => ?_)
  · exact Cq.drewN E0.out 1
  refine wpAnyH_take (i := 0) (oi := { dst := some 5, op := Go.Op.fieldAddr 79 (Go.Operand.tmp 2) 0, type := 0, pos := "plane.go:154", after := #[], guard := none }) (v := ?_) rfl (by kernel_rfl) (by kernel_rfl) (by kernel_rfl) (fun _ _ _ h => h) (Or.inl ⟨by rfl, ?_⟩) (by assumption) ?_
  rotate_left
  · (intro w hSw; (try dsimp only at hSw); go_simp); try with_reducible rfl
  try simp only [Act.put, List.setIfInBounds_toArray, List.set_cons_zero, List.set_cons_succ]
  refine wpAnyH_take (i := 1) (oi := { dst := some 6, op := Go.Op.load 3 (Go.Operand.tmp 5), type := 3, pos := "plane.go:154", after := #[{ on := 0, ground := Go.Ground.data }], guard := none }) (v := ?_) rfl (by kernel_rfl) (by kernel_rfl) (by kernel_rfl) (fun _ _ _ h => h) (Or.inl ⟨by rfl, ?_⟩) (by assumption) ?_
  rotate_left
  · (intro w hSw; (try dsimp only at hSw); go_simp); try with_reducible rfl
  try simp only [Act.put, List.setIfInBounds_toArray, List.set_cons_zero, List.set_cons_succ]
  refine wpAnyH_take (i := 2) (oi := { dst := some 7, op := Go.Op.fieldAddr 79 (Go.Operand.tmp 3) 0, type := 0, pos := "plane.go:154", after := #[], guard := none }) (v := ?_) rfl (by kernel_rfl) (by kernel_rfl) (by kernel_rfl) (fun _ _ _ h => h) (Or.inl ⟨by rfl, ?_⟩) (by assumption) ?_
  rotate_left
  · (intro w hSw; (try dsimp only at hSw); go_simp); try with_reducible rfl
  try simp only [Act.put, List.setIfInBounds_toArray, List.set_cons_zero, List.set_cons_succ]
  refine wpAnyH_take (i := 3) (oi := { dst := some 8, op := Go.Op.load 3 (Go.Operand.tmp 7), type := 3, pos := "plane.go:154", after := #[{ on := 2, ground := Go.Ground.data }], guard := none }) (v := ?_) rfl (by kernel_rfl) (by kernel_rfl) (by kernel_rfl) (fun _ _ _ h => h) (Or.inl ⟨by rfl, ?_⟩) (by assumption) ?_
  rotate_left
  · (intro w hSw; (try dsimp only at hSw); go_simp); try with_reducible rfl
  try simp only [Act.put, List.setIfInBounds_toArray, List.set_cons_zero, List.set_cons_succ]
  refine wpAnyH_take (i := 5) (oi := { dst := some 10, op := Go.Op.fieldAddr 79 (Go.Operand.tmp 2) 1, type := 0, pos := "plane.go:154", after := #[], guard := none }) (v := ?_) rfl (by kernel_rfl) (by kernel_rfl) (by kernel_rfl) (fun _ _ _ h => h) (Or.inl ⟨by rfl, ?_⟩) (by assumption) ?_
  rotate_left
  · (intro w hSw; (try dsimp only at hSw); go_simp); try with_reducible rfl
  try simp only [Act.put, List.setIfInBounds_toArray, List.set_cons_zero, List.set_cons_succ]
  refine wpAnyH_take (i := 6) (oi := { dst := some 11, op := Go.Op.load 3 (Go.Operand.tmp 10), type := 3, pos := "plane.go:154", after := #[{ on := 5, ground := Go.Ground.data }], guard := none }) (v := ?_) rfl (by kernel_rfl) (by kernel_rfl) (by kernel_rfl) (fun _ _ _ h => h) (Or.inl ⟨by rfl, ?_⟩) (by assumption) ?_
  rotate_left
  · (intro w hSw; (try dsimp only at hSw); go_simp); try with_reducible rfl
  try simp only [Act.put, List.setIfInBounds_toArray, List.set_cons_zero, List.set_cons_succ]
  refine wpAnyH_take (i := 7) (oi := { dst := some 12, op := Go.Op.fieldAddr 79 (Go.Operand.tmp 3) 1, type := 0, pos := "plane.go:154", after := #[], guard := none }) (v := ?_) rfl (by kernel_rfl) (by kernel_rfl) (by kernel_rfl) (fun _ _ _ h => h) (Or.inl ⟨by rfl, ?_⟩) (by assumption) ?_
  rotate_left
  · (intro w hSw; (try dsimp only at hSw); go_simp); try with_reducible rfl
  try simp only [Act.put, List.setIfInBounds_toArray, List.set_cons_zero, List.set_cons_succ]
  refine wpAnyH_take (i := 8) (oi := { dst := some 13, op := Go.Op.load 3 (Go.Operand.tmp 12), type := 3, pos := "plane.go:154", after := #[{ on := 7, ground := Go.Ground.data }], guard := none }) (v := ?_) rfl (by kernel_rfl) (by kernel_rfl) (by kernel_rfl) (fun _ _ _ h => h) (Or.inl ⟨by rfl, ?_⟩) (by assumption) ?_
  rotate_left
  · (intro w hSw; (try dsimp only at hSw); go_simp); try with_reducible rfl
  try simp only [Act.put, List.setIfInBounds_toArray, List.set_cons_zero, List.set_cons_succ]
  refine wpAnyH_ready (rs := [4]) (by kernel_rfl) (by simp) ?_
  refine AllReadyH.cons (o := { dst := some 9, op := Go.Op.call { callee := Go.Callee.value (Go.Operand.func 110), args := #[Go.Operand.tmp 6, Go.Operand.tmp 8], argTypes := #[3, 3] }, type := 3, pos := "plane.go:154", after := #[{ on := 1, ground := Go.Ground.data }, { on := 3, ground := Go.Ground.data }], guard := none }) rfl (fun Kx hKx => ?_) AllReadyH.nil
  go_simp
  go_at_call 110
  refine (hc1 _).mono ?_
  rintro e w' ⟨rfl, hb⟩
  subst hb
  try go_wp2_with fail
  refine hKx.out _ _ hHeld (fun hHeld2 => ?_)
  clear hKx Kx hHeld
  have hHeld := hHeld2; clear hHeld2
  try simp only [Act.put, List.setIfInBounds_toArray, List.set_cons_zero, List.set_cons_succ]
  refine wpAnyH_ready (rs := [9]) (by kernel_rfl) (by simp) ?_
  refine AllReadyH.cons (o := { dst := some 14, op := Go.Op.call { callee := Go.Callee.value (Go.Operand.func 110), args := #[Go.Operand.tmp 11, Go.Operand.tmp 13], argTypes := #[3, 3] }, type := 3, pos := "plane.go:154", after := #[{ on := 6, ground := Go.Ground.data }, { on := 8, ground := Go.Ground.data }, { on := 4, ground := Go.Ground.chain }], guard := none }) rfl (fun Kx hKx => ?_) AllReadyH.nil
  go_simp
  go_at_call 110
  refine (hc2 _).mono ?_
  rintro e w' ⟨rfl, hb⟩
  subst hb
  try go_wp2_with fail
  refine hKx.out _ _ hHeld (fun hHeld2 => ?_)
  clear hKx Kx hHeld
  have hHeld := hHeld2; clear hHeld2
  try simp only [Act.put, List.setIfInBounds_toArray, List.set_cons_zero, List.set_cons_succ]
  refine wpAnyH_ready (rs := [10]) (by kernel_rfl) (by simp) ?_
  refine AllReadyH.cons (o := { dst := some 15, op := Go.Op.buildSlice 66 2 #[(0, Go.Operand.tmp 9), (1, Go.Operand.tmp 14)], type := 66, pos := "plane.go:154", after := #[{ on := 4, ground := Go.Ground.data }, { on := 9, ground := Go.Ground.data }], guard := none }) rfl (fun Kx hKx => ?_) AllReadyH.nil
  go_simp
  refine hKx.out _ _ (show Cq g p q w (World.alloc wB.drew (.cells #[.int .i64 r1, .int .i64 r2] 3)) from Cq.alloc hHeld _) (fun hHeld2 => ?_)
  clear hKx Kx hHeld
  have hHeld := hHeld2; clear hHeld2
  try simp only [Act.put, List.setIfInBounds_toArray, List.set_cons_zero, List.set_cons_succ]
  refine wpAnyH_ready (rs := [11]) (by kernel_rfl) (by simp) ?_
  refine AllReadyH.cons (o := { dst := some 16, op := Go.Op.call { callee := Go.Callee.value (Go.Operand.func 109), args := #[Go.Operand.tmp 15], argTypes := #[66] }, type := 3, pos := "plane.go:154", after := #[{ on := 10, ground := Go.Ground.data }, { on := 9, ground := Go.Ground.chain }], guard := none }) rfl (fun Kx hKx => ?_) AllReadyH.nil
  go_simp
  go_at_call 109
  refine (or_any _ r1 r2 _ (by simp) (by simp) (by simp)).mono ?_
  rintro e w' ⟨rfl, hb⟩
  subst hb
  try go_wp2_with fail
  refine hKx.out _ _ hHeld (fun hHeld2 => ?_)
  clear hKx Kx hHeld
  have hHeld := hHeld2; clear hHeld2
  try simp only [Act.put, List.setIfInBounds_toArray, List.set_cons_zero, List.set_cons_succ]
  refine wpAnyH_take (i := 12) (oi := { dst := some 4, op := Go.Op.assign (Go.Operand.tmp 16), type := 3, pos := "plane.go:154", after := #[{ on := 11, ground := Go.Ground.data }, { on := 11, ground := Go.Ground.chain }, { on := 0, ground := Go.Ground.phase }, { on := 1, ground := Go.Ground.phase }, { on := 2, ground := Go.Ground.phase }, { on := 3, ground := Go.Ground.phase }, { on := 4, ground := Go.Ground.phase }, { on := 5, ground := Go.Ground.phase }, { on := 6, ground := Go.Ground.phase }, { on := 7, ground := Go.Ground.phase }, { on := 8, ground := Go.Ground.phase }, { on := 9, ground := Go.Ground.phase }, { on := 10, ground := Go.Ground.phase }, { on := 11, ground := Go.Ground.phase }], guard := none }) (v := ?_) rfl (by kernel_rfl) (by kernel_rfl) (by kernel_rfl) (fun _ _ _ h => h) (Or.inl ⟨by rfl, ?_⟩) (by assumption) ?_
  rotate_left
  · (intro w hSw; (try dsimp only at hSw); go_simp); try with_reducible rfl
  try simp only [Act.put, List.setIfInBounds_toArray, List.set_cons_zero, List.set_cons_succ]
  refine wpAnyH_done (by kernel_rfl) ?_ _
  have FIN := hHeld.2.2.2.2.2.2
  clear hHeld
  go_wp2_with fail
  go_ret
  exact ⟨rfl, FIN.out⟩
/-- a list of points as it is handed in. -/
structure PIn (w : World) (A : Option Addr) (cap : Nat) (l : List Pt) : Prop where
  row : PRow w A l
  len : l.length ≤ 1099511627776
  room : l.length ≤ cap
  room2 : cap ≤ 9223372036854775807
theorem PIn.below {w w' : World} {A : Option Addr} {cap : Nat} {l : List Pt} (h : PIn w A cap l) (hb : Below w.heap.size w w') : PIn w' A cap l := ⟨h.row.below hb, h.len, h.room, h.room2⟩
/-! ### the order of points -/
def PLt (p q : Pt) : Prop := p.X < q.X ∨ p.X = q.X ∧ p.Y < q.Y
instance (p q : Pt) : Decidable (PLt p q) := by unfold PLt; infer_instance
theorem cmp_lt (p q : Pt) : cmpP p q < 0 ↔ PLt p q := by
  unfold cmpP orI Lib.compareInt PLt
  split <;> split <;> (try split) <;> (try split) <;> omega
theorem PLt.trans {p q r : Pt} (h : PLt p q) (k : PLt q r) : PLt p r := by unfold PLt at *; omega
/-- point k's cells, and the least one so far. -/
def Mq (b o g : Nat) (p m : Pt) (W w : World) : Prop := w.cell? ⟨b, o, none⟩ = some (.int .i64 p.X) ∧ w.cell? ⟨b, o + 1, none⟩ = some (.int .i64 p.Y) ∧ w.cell? ⟨g, 0, none⟩ = some (.int .i64 m.X) ∧ w.cell? ⟨g, 1, none⟩ = some (.int .i64 m.Y) ∧ b < w.heap.size ∧ g < w.heap.size ∧ Hid (Below W.heap.size W w)
theorem Mq.go {b o g : Nat} {p m : Pt} {W w w' : World} (h : Mq b o g p m W w) (hb : Below w.heap.size w w') : Mq b o g p m W w' := by
  obtain ⟨x, y, u, v, l1, l2, h3⟩ := h
  exact ⟨(hb.cell (p := ⟨b, o, none⟩) l1).trans x, (hb.cell (p := ⟨b, o + 1, none⟩) l1).trans y, (hb.cell (p := ⟨g, 0, none⟩) l2).trans u, (hb.cell (p := ⟨g, 1, none⟩) l2).trans v, Nat.lt_of_lt_of_le l1 hb.size, Nat.lt_of_lt_of_le l2 hb.size, Lib.hid (h3.out.trans (hb.mono h3.out.size))⟩
theorem Mq.drewN {b o g : Nat} {p m : Pt} {W w : World} (h : Mq b o g p m W w) (n : Nat) : Mq b o g p m W (w.drewN n) := h.go (below_drewN (Below.refl _ _) n)
/-- a point in a block of its own. -/
def PtAt (w : World) (b : Nat) (p : Pt) : Prop := w.heap[b]? = some (.cells #[.int .i64 p.X, .int .i64 p.Y] 79 (0, 0))
section
variable {w w' : World} {b : Nat} {r : Pt}
theorem PtAt.lt (h : PtAt w b r) : b < w.heap.size := (Array.getElem?_eq_some_iff.1 h).1
theorem PtAt.cell0 (h : PtAt w b r) : w.cell? ⟨b, 0, none⟩ = some (.int .i64 r.X) := by rw [Lib.cell_of_heap h]; rfl
theorem PtAt.cell1 (h : PtAt w b r) : w.cell? ⟨b, 1, none⟩ = some (.int .i64 r.Y) := by rw [Lib.cell_of_heap h]; rfl
theorem PtAt.froz (h : PtAt w b r) (i : Nat) : w.frozen? ⟨b, i, none⟩ = false := Lib.frozen_of_heap h i
theorem PtAt.below {B : Nat} (h : PtAt w b r) (hg : Below B w w') (hr : b < B) : PtAt w' b r := (hg.block b hr).trans h
theorem PtAt.new (w : World) (r : Pt) (k : Nat) (h : k = w.heap.size) : PtAt (w.alloc (.cells #[.int .i64 r.X, .int .i64 r.Y] 79)) k r := by subst h; exact heap_alloc_new w _
theorem PtAt.set {s : Pt} (h : PtAt w b r) {x y : Int} (h0 : x = s.X) (h1 : y = s.Y) : PtAt ((w.setCell ⟨b, 0, none⟩ (.int .i64 x)).setCell ⟨b, 1, none⟩ (.int .i64 y)) b s := by
  subst h0; subst h1
  unfold PtAt at h ⊢
  simp [World.setCell, Array.getElem?_modify, h]
theorem PtAt.far {c i : Nat} {v : Value} (h : PtAt w b r) (hc : b ≠ c) : PtAt (w.setCell ⟨c, i, none⟩ v) b r := by
  unfold PtAt at h ⊢
  simp [World.setCell, Array.getElem?_modify, h, hc.symm]
end
def zP : Pt := ⟨0, 0⟩
/-- the result's block, and the least point's so far. -/
def Out4 (p q : Nat) (s : Pt) (w0 w : World) : Prop := PtAt w p zP ∧ PtAt w q s ∧ Below w0.heap.size w0 w ∧ w0.heap.size ≤ p ∧ p < q
theorem Out4.go {p q : Nat} {s : Pt} {w0 w w' : World} (h : Out4 p q s w0 w) (hb : Below w.heap.size w w') : Out4 p q s w0 w' :=
  ⟨h.1.below hb h.1.lt, h.2.1.below hb h.2.1.lt, h.2.2.1.trans (hb.mono h.2.2.1.size), h.2.2.2⟩
theorem Out4.set {p q : Nat} {r s : Pt} {w0 w : World} (h : Out4 p q r w0 w) {x y : Int} (h0 : x = s.X) (h1 : y = s.Y) :
    Out4 p q s w0 ((w.setCell ⟨q, 0, none⟩ (.int .i64 x)).setCell ⟨q, 1, none⟩ (.int .i64 y)) :=
  ⟨(h.1.far (by have := h.2.2.2; omega)).far (by have := h.2.2.2; omega), h.2.1.set h0 h1,
    have hp := h.2.2.2; (h.2.2.1.setCell (by simp; omega) _).setCell (by simp; omega) _, h.2.2.2⟩
/-- a point of a list that none ahead of place k is less than. -/
structure MinAt (l : List Pt) (k : Nat) (m : Pt) : Prop where
  mem : m ∈ l
  le : ∀ j (h : j < l.length), j < k → ¬ PLt l[j] m
theorem MinAt.step {l : List Pt} {k : Nat} {m : Pt} (h : MinAt l k m) (hk : k < l.length) : MinAt l (k + 1) (if PLt l[k] m then l[k] else m) := by
  by_cases c : PLt l[k] m
  · rw [if_pos c]
    refine ⟨List.getElem_mem hk, fun j hj hjk => ?_⟩
    by_cases e : j < k
    · have := h.le j hj e
      unfold PLt at *; omega
    · obtain rfl : j = k := by omega
      unfold PLt; omega
  · rw [if_neg c]
    refine ⟨h.mem, fun j hj hjk => ?_⟩
    by_cases e : j < k
    · exact h.le j hj e
    · obtain rfl : j = k := by omega
      exact c
def MinIs (l : List Pt) (w : World) (e : Ending) (w' : World) : Prop := ∃ m : Pt, e = .returned (.agg #[.int .i64 m.X, .int .i64 m.Y]) ∧ MinAt l l.length m ∧ Below w.heap.size w w'
set_option maxHeartbeats 16000000 in
theorem pmin_any (A : Option Addr) (cap : Nat) (l : List Pt) (w : World) (hl : PIn w A cap l) (hpos : 0 < l.length) :
    Calls Tryz.prog 107 #[.slice A l.length cap, .func (.func 108) #[] #[]] w (MinIs l w) := by
  have HL := Lib.hid hl; clear hl
  obtain ⟨b1, o1, rfl, hb1, hv1⟩ := HL.out.row hpos
  obtain ⟨x0, x1⟩ := hv1 0 hpos
  rw [Nat.zero_mul, Nat.add_zero] at x0 x1
  have HV := Lib.hid hv1; have HB1 := Lib.hid hb1
  have hlen := HL.out.len
  have j0 : (0 : Int) < (l.length : Int) := by omega
  have j1 : ¬ (l.length : Int) < 1 := by omega
  obtain ⟨a, ha⟩ : ∃ a, a = l[0] := ⟨_, rfl⟩
  rw [← ha] at x0 x1
  have M1 : Hid (MinAt l 1 a) := Lib.hid ⟨by rw [ha]; exact List.getElem_mem hpos, fun j hj hj1 => by
    obtain rfl : j = 0 := by omega
    rw [← ha]
    unfold PLt; omega⟩
  have O1 : Hid (Out4 w.heap.size (w.heap.size + 1) a w ((w.alloc (.cells #[.int .i64 0, .int .i64 0] 79)).alloc (.cells #[.int .i64 a.X, .int .i64 a.Y] 79))) := Lib.hid
    ⟨(PtAt.new w zP _ rfl).below ((Below.refl _ _).alloc (Nat.le_refl _) _) (by simp), PtAt.new _ a _ (by simp), by (repeat' first | exact Below.refl _ _ | assumption | (apply below_drewN) | (refine Below.setCell ?_ (by (try simp); (try omega)) _) | (refine Below.alloc ?_ (by (try simp); (try omega)) _) | (refine Below.trans ?_ (Below.mono (Hid.out (by assumption)) (by (try simp); (try omega))))), Nat.le_refl _, Nat.lt_succ_self _⟩
  clear hv1 ha
  go_enter Tryz.func107, Tryz.ntmps107
  go_wp2_with fail
  clear x0 x1
  generalize World.alloc (World.alloc w _) _ = w2 at *
  generalize hg : w.heap.size = g at *
  have HG := Lib.hid hg; clear hg
  go_loopw [6] (fun i wr => ∃ (k : Nat) (m : Pt), 1 ≤ k ∧ k ≤ l.length ∧ i = .int .i64 k ∧ Hid (MinAt l k m) ∧ Hid (Out4 g (g + 1) m w wr)) (fun i _ => l.length - (intOf i).toNat)
  case atStart => exact ⟨1, a, Nat.le_refl _, hpos, rfl, M1, O1⟩
  case round =>
    clear M1 O1
    obtain ⟨k, m, hk1, hk, rfl, HM, HK⟩ := hrel
    by_cases hlt : k < l.length
    · obtain ⟨y0, y1⟩ := HV.out k hlt
      have wc := fun o => HK.out.2.2.1.cell (p := ⟨b1, o, none⟩) (show b1 < w.heap.size from by have := HB1.out; have := HG.out; omega)
      have y0 := (wc _).trans y0; have y1 := (wc _).trans y1
      have hbw : b1 < wr.heap.size := Nat.lt_of_lt_of_le (by have := HB1.out; have := HG.out; omega) HK.out.2.2.1.size
      clear wc
      have hi0 : (0 : Int) ≤ (k : Int) := by omega
      have hi1 : (k : Int) < (l.length : Int) := by omega
      have HS := Lib.hid (HM.out.step hlt)
      obtain ⟨u, hu⟩ : ∃ u, u = l[k] := ⟨_, rfl⟩
      rw [← hu] at y0 y1 HS
      have z0 := HK.out.2.1.cell0; have z1 := HK.out.2.1.cell1; have zl := HK.out.2.1.lt
      have E1 : Hid (Mq b1 (o1 + k * 2) (g + 1) u m wr wr) := Lib.hid ⟨y0, y1, z0, z1, hbw, zl, Lib.hid (Below.refl _ _)⟩
      have HC := Lib.hid (fun w' => (compare_any u m w').mono fun e w2 h => show e = .returned (.int .i64 (cmpP u m)) ∧ Below w'.heap.size w' w2 from ⟨h.1, h.2.below⟩)
      have HLT := Lib.hid (cmp_lt u m)
      generalize cmpP u m = cc at *
      clear hu y0 y1 z0 z1 zl hbw HM
      obtain ⟨wo, rfl⟩ : ∃ wo : World, wo = wr := ⟨_, rfl⟩
      by_cases c : cc < 0
      · rw [if_pos (HLT.out.1 c)] at HS
        have d0 : decide (cc < 0) = true := decide_eq_true c
        clear HLT
        go_wp2_with fail
        go_region_held3 (fun w' => w'.cell? ⟨b1, o1 + k * 2, none⟩ = some (.int .i64 u.X) ∧ w'.cell? ⟨b1, o1 + k * 2 + 1, none⟩ = some (.int .i64 u.Y) ∧ w'.cell? ⟨g + 1, 0, none⟩ = some (.int .i64 m.X) ∧ w'.cell? ⟨g + 1, 1, none⟩ = some (.int .i64 m.Y) ∧ b1 < w'.heap.size ∧ g + 1 < w'.heap.size ∧ Hid (Below wo.heap.size wo w'))
          (first | exact E1.out | exact Mq.drewN E1.out 1 | exact Mq.go ‹_› ‹_› | assumption)
          (first | (go_at_call 108; refine (HC.out _).mono ?_; rintro e w' ⟨rfl, hb⟩) | fail)
        have E2 : Mq b1 (o1 + k * 2) (g + 1) u m wo w' := by assumption
        have HK2 := Lib.hid (HK.out.go E2.2.2.2.2.2.2.out)
        clear E1 HK
        have y0 := E2.1; have y1 := E2.2.1; have bw := E2.2.2.2.2.1
        have z0 := HK2.out.2.1.cell0; have z1 := HK2.out.2.1.cell1; have zl := HK2.out.2.1.lt
        have f0 := HK2.out.2.1.froz 0; have f1 := HK2.out.2.1.froz 1
        have HK3 := Lib.hid (HK2.out.set (s := u) rfl rfl)
        clear E2
        go_wp2_with fail
        go_roundw
        case rel => exact ⟨k + 1, u, by omega, by omega, by go_num, HS, HK3⟩
        case measure => simp [intOf]; omega
      · rw [if_neg (fun h => c (HLT.out.2 h))] at HS
        have d0 : decide (cc < 0) = false := decide_eq_false c
        clear HLT
        go_wp2_with fail
        go_region_held3 (fun w' => w'.cell? ⟨b1, o1 + k * 2, none⟩ = some (.int .i64 u.X) ∧ w'.cell? ⟨b1, o1 + k * 2 + 1, none⟩ = some (.int .i64 u.Y) ∧ w'.cell? ⟨g + 1, 0, none⟩ = some (.int .i64 m.X) ∧ w'.cell? ⟨g + 1, 1, none⟩ = some (.int .i64 m.Y) ∧ b1 < w'.heap.size ∧ g + 1 < w'.heap.size ∧ Hid (Below wo.heap.size wo w'))
          (first | exact E1.out | exact Mq.drewN E1.out 1 | exact Mq.go ‹_› ‹_› | assumption)
          (first | (go_at_call 108; refine (HC.out _).mono ?_; rintro e w' ⟨rfl, hb⟩) | fail)
        have E2 : Mq b1 (o1 + k * 2) (g + 1) u m wo w' := by assumption
        have HK2 := Lib.hid (HK.out.go E2.2.2.2.2.2.2.out)
        clear E1 HK E2
        go_wp2_with fail
        go_roundw
        case rel => exact ⟨k + 1, m, by omega, by omega, by go_num, HS, HK2⟩
        case measure => simp [intOf]; omega
    · obtain rfl : k = l.length := by omega
      have z0 := HK.out.2.1.cell0; have z1 := HK.out.2.1.cell1; have zl := HK.out.2.1.lt
      have f0 := HK.out.1.froz 0; have f1 := HK.out.1.froz 1
      have c0 := HK.out.1.cell0; have c1 := HK.out.1.cell1; have pl := HK.out.1.lt
      have hp9 : g ≠ g + 1 := by omega
      go_wp2_with fail
      exact bodyPost_ret (v := .agg #[.int .i64 m.X, .int .i64 m.Y]) (by simp [results, Tryz.results107, go_sem, *]) rfl ⟨m, rfl, HM.out, by have hk := HK.out.2.2.1; have h5 := HK.out.2.2.2.1; have h6 := HG.out; subst h6; (repeat' first | exact Below.refl _ _ | assumption | (apply below_drewN) | (refine Below.setCell ?_ (by (try simp); (try omega)) _) | (refine Below.alloc ?_ (by (try simp); (try omega)) _) | (refine Below.trans ?_ (Below.mono (Hid.out (by assumption)) (by (try simp); (try omega)))))⟩
end Go.Proofs.YtkjblmfmaenllaaGreat
namespace Go.Proofs.YtkjblmfmaenllaaGreat
open Go.RowKit

theorem infoPoint : (Tryz.prog.info? 79).map (fun i => (i.zero, i.size, i.bytes)) = some (some (.agg #[.int .i64 0, .int .i64 0]), 2, 16) := by kernel_rfl
def ptcells (l : List Pt) : List Value := l.flatMap fun p => [.int .i64 p.X, .int .i64 p.Y]
theorem ptcells_append (l m : List Pt) : ptcells (l ++ m) = ptcells l ++ ptcells m := by simp [ptcells]
theorem ptcells_at : ∀ (l : List Pt) (j : Nat) (h : j < l.length), (ptcells l)[j * 2]? = some (.int .i64 l[j].X) ∧ (ptcells l)[j * 2 + 1]? = some (.int .i64 l[j].Y) := by
  intro l
  induction l with
  | nil => intro j h; simp at h
  | cons r l ih =>
    intro j h
    cases j with
    | zero => exact ⟨rfl, rfl⟩
    | succ j =>
      have := ih j (by simpa using h)
      rw [show (j + 1) * 2 = j * 2 + 1 + 1 by omega]
      exact this
/-- a slice of points that a call made, as a list of points. -/
theorem own_points {w : World} {B : Nat} {v : Value} {l : List Pt} (h : w.ownsRow B 79 2 v l.length (ptcells l)) :
    ∃ A cap, v = .slice A l.length cap ∧ PRow w A l ∧ l.length ≤ cap ∧ cap ≤ 9223372036854775807 ∧ (0 < l.length → ∃ g, A = some ⟨g, 0, none⟩ ∧ B ≤ g ∧ g < w.heap.size) ∧ (A = none → cap = 0) := by
  have hh := h
  obtain ⟨h1, h2⟩ := h
  rcases h2 with ⟨rfl, h3⟩ | ⟨g, cap, cur, rfl, hB, hg, h4⟩
  · rw [h3]
    exact ⟨none, 0, rfl, fun h => by omega, Nat.le_refl _, by omega, fun h => absurd h (Nat.lt_irrefl _), fun _ => rfl⟩
  · have hlt : g < w.heap.size := by
      rcases Nat.lt_or_ge g w.heap.size with hlt | hge
      · exact hlt
      · rw [Array.getElem?_eq_none hge] at hg; cases hg
    refine ⟨_, cap, rfl, fun h0 => ⟨g, 0, rfl, hlt, fun j hj => ?_⟩, ?_, ?_, fun _ => ⟨g, rfl, hB, hlt⟩, fun h => by cases h⟩
    · have c := fun i (hi : i < l.length * 2) => World.ownsRow.cellAt hh i hi
      obtain ⟨e0, e1⟩ := ptcells_at l j hj
      rw [Nat.zero_add]
      exact ⟨(c _ (by omega)).trans e0, (c _ (by omega)).trans e1⟩
    · exact h4.1
    · have := h4.2.1; unfold maxLen at this; omega
/-- points of one's own, made behind a world. -/
structure PtW (v : Value) (F : List Pt) (w wr : World) : Prop where
  own : wr.ownsRow w.heap.size 79 2 v F.length (ptcells F)
  bel : Below w.heap.size w wr
theorem PtW.nil (w : World) : PtW (.slice none 0 0) [] w w := ⟨World.ownsRow_nil _ _ _ _, Below.refl _ _⟩
theorem PtW.go {v : Value} {F : List Pt} {w wr w' : World} (h : PtW v F w wr) (hb : Below wr.heap.size wr w') : PtW v F w w' := ⟨own_go h.own hb, h.bel.trans (hb.mono h.bel.size)⟩
theorem PtW.far {v : Value} {F : List Pt} {w wr : World} (h : PtW v F w wr) {g : Nat} (hg : g < w.heap.size) : ∀ k, v.ownBlock = some k → k ≠ g := fun k hk e => by
  have := (h.own.lt k hk).1; omega
theorem PtW.app {v v' : Value} {F : List Pt} {p : Pt} {w wr w' : World} (h : PtW v F w wr) (ho : w'.ownsRow w.heap.size 79 2 v' (F.length + 1) (ptcells F ++ [.int .i64 p.X, .int .i64 p.Y])) (hg : wr.grownBy w' v.ownBlock) : PtW v' (F ++ [p]) w w' :=
  ⟨by rw [ptcells_append, List.length_append]; exact ho, Below.grown h.bel hg h.bel.size (fun k hk => (h.own.lt k hk).1)⟩
theorem one_rect {r : Rc} (h : ROk r) : IsForm [r] := by
  refine ⟨[⟨r.X0, r.X1, [r.Y0, r.Y1]⟩], ?_, rfl⟩
  show SlabOk _
  refine ⟨h.1, by simp, ⟨h.2.2.1, trivial⟩, ?_, ?_⟩
  · show Even [r.Y0, r.Y1]
    first | exact trivial | (unfold Even; simp) | (simp [Even])
  · intro x hx
    have h1 := h.2.1; have h2 := h.2.2.1; have h3 := h.2.2.2
    simp only [List.mem_cons, List.not_mem_nil, or_false] at hx
    rcases hx with rfl | rfl <;> omega
theorem one_reg {r : Rc} (h : ROk r) : RegP [r] := ⟨one_rect h, by simp⟩
theorem room_reg {room : List Rc} (hr : ∀ p ∈ room, ROk p) (hl : room.length ≤ 1) : RegP room := by
  match room, hl with
  | [], _ => exact ⟨⟨[], trivial, rfl⟩, by simp⟩
  | [q], _ => exact one_reg (hr q (by simp))
theorem op_rest {q : Rc} {room : List Rc} (hq : ROk q) (hr : ∀ p ∈ room, ROk p) (hl : room.length ≤ 1) : opR andnot [q] room = (restR q room, 0) := by
  have hs := formO_sq andnot (a := [q]) (b := room) (fun p hp => by rw [List.mem_singleton] at hp; subst hp; exact hq) hr
  have hn : ([q].length + room.length) * ([q].length + room.length) ≤ 2 * 2 := Nat.mul_le_mul (by simp; omega) (by simp; omega)
  unfold opR capR
  rw [if_pos ⟨one_reg hq, room_reg hr hl⟩, if_pos (by omega)]
  rfl
def outsP (a room : List Rc) : List Pt := (outsR a room).map fun c => ⟨c.1, c.2⟩
theorem outsP_next (a room : List Rc) (k : Nat) (h : k < a.length) : outsP (a.take (k + 1)) room = outsP (a.take k) room ++ (outR a[k] room).map (fun c => ⟨c.1, c.2⟩) := by
  unfold outsP outsR; rw [List.take_succ_eq_append_getElem h, List.flatMap_append, List.map_append]; simp
theorem outsP_len (a room : List Rc) : (outsP a room).length ≤ a.length := by
  unfold outsP outsR
  rw [List.length_map]
  induction a with
  | nil => simp
  | cons q a ih =>
    rw [List.flatMap_cons, List.length_append, List.length_cons]
    have : (outR q room).length ≤ 1 := by unfold outR; split <;> simp
    omega
/-- what the region of a round reads. -/
def R2p (b : Nat) (xa xb : Int) (w : World) : Prop := w.cell? ⟨b, 0, none⟩ = some (.int .i64 xa) ∧ w.cell? ⟨b, 1, none⟩ = some (.int .i64 xb) ∧ b < w.heap.size
theorem R2p.go {b : Nat} {xa xb : Int} {w w' : World} (h : R2p b xa xb w) (hb : Below w.heap.size w w') : R2p b xa xb w' := by
  obtain ⟨h0, h1, l0⟩ := h
  exact ⟨(hb.cell (p := ⟨b, 0, none⟩) l0).trans h0, (hb.cell (p := ⟨b, 1, none⟩) l0).trans h1, Nat.lt_of_lt_of_le l0 hb.size⟩
theorem R2p.drewN {b : Nat} {xa xb : Int} {w : World} (h : R2p b xa xb w) (n : Nat) : R2p b xa xb (w.drewN n) := h.go (below_drewN (Below.refl _ _) n)
theorem R2p.grow {b : Nat} {xa xb : Int} {w w' : World} {row : Option Nat} (h : R2p b xa xb w) (hg : w.grownBy w' row) (hn : ∀ g, row = some g → g ≠ b) : R2p b xa xb w' := by
  obtain ⟨h0, h1, l0⟩ := h
  have e0 : ∀ o, w'.cell? ⟨b, o, none⟩ = w.cell? ⟨b, o, none⟩ := fun o => World.cell?_of_block (hg.block b l0 (fun e => hn b e.symm rfl))
  exact ⟨(e0 _).trans h0, (e0 _).trans h1, Nat.lt_of_lt_of_le l0 hg.size⟩
/-- the least cell of an area outside of a room. -/
def OutIs (a room : List Rc) (w : World) (e : Ending) (w' : World) : Prop := ∃ x y : Int, e = .returned (.agg #[.int .i64 x, .int .i64 y]) ∧ OutC a room x y ∧ Below w.heap.size w w'
theorem out_min {a room : List Rc} (ha : ∀ q ∈ a, ROk q) (hr : ∀ p ∈ room, ROk p) {m : Pt} (h : MinAt (outsP a room) (outsP a room).length m) : OutC a room m.X m.Y := by
  obtain ⟨c, hc, he⟩ := List.mem_map.1 h.mem
  refine outC_of ha hr (x := m.X) (y := m.Y) (by rw [← he]; exact hc) (fun c hc hl => ?_)
  have hin : (⟨c.1, c.2⟩ : Pt) ∈ outsP a room := List.mem_map.2 ⟨c, hc, rfl⟩
  generalize outsP a room = X at *
  obtain ⟨j, hj, e⟩ := List.mem_iff_getElem.1 hin
  have k := h.le j hj hj
  rw [e] at k
  exact k hl
set_option maxHeartbeats 32000000 in
theorem kout_any (A1 : Option Addr) (c1 : Nat) (a : List Rc) (A2 : Option Addr) (c2 : Nat) (room : List Rc) (w : World) (h1 : RIn w A1 c1 a) (h2 : RIn w A2 c2 room) (ha : ∀ q ∈ a, ROk q) (hr : ∀ p ∈ room, ROk p) (hl : room.length ≤ 1) (hlen : a.length ≤ 1000) (hne : outsR a room ≠ []) :
    Calls Tryz.prog 62 #[.slice A1 a.length c1, .slice A2 room.length c2] w (OutIs a room w) := by
  obtain ⟨W, hW⟩ : ∃ W, W = w.alloc (.cells #[.int .i64 0, .int .i64 0] 79) := ⟨_, rfl⟩
  have hwW : Below w.heap.size w W := by rw [hW]; exact (Below.refl _ _).alloc (Nat.le_refl _) _
  have KP : Hid (PtAt W w.heap.size zP) := Lib.hid (by rw [hW]; exact PtAt.new w zP _ rfl)
  have H1 := Lib.hid (h1.below hwW)
  have H2 := Lib.hid (h2.below hwW)
  have HWW := Lib.hid hwW
  have HA := Lib.hid ha; have HR0 := Lib.hid hr; have HL := Lib.hid hl
  have HNE := Lib.hid hne
  have O0 : Hid (PtW (.slice none 0 0) [] W W) := Lib.hid (PtW.nil W)
  obtain ⟨i9, hi9, hz0, hz1, hz2⟩ := info_parts infoPoint
  clear h1 h2 hwW ha hr hl hne
  go_enter Tryz.func62, Tryz.ntmps62
  go_wp2_with fail
  rw [← hW]
  clear hW
  go_loopw [5, 12] (fun v i wr => ∃ (k : Nat) (v0 : Value), k ≤ a.length ∧ i = .int .i64 k ∧ v0 = v ∧ Hid (PtW v0 (outsP (a.take k) room) W wr)) (fun _ i _ => a.length - (intOf i).toNat)
  case atStart => exact ⟨0, _, Nat.zero_le _, rfl, rfl, O0⟩
  case round =>
    clear O0
    obtain ⟨k, v0, hk, rfl, rfl, HO⟩ := hrel
    by_cases hlt : k < a.length
    · obtain ⟨b1, o1, rfl, hb1, hv1⟩ := H1.out.row (by omega)
      obtain ⟨x0, x1, x2, x3⟩ := hv1 k hlt
      have hnx := outsP_next a room k hlt
      have hq := HA.out _ (List.getElem_mem hlt)
      obtain ⟨q, hqe⟩ : ∃ q, q = a[k] := ⟨_, rfl⟩
      rw [← hqe] at x0 x1 x2 x3 hnx hq
      clear hqe hv1
      have wc := fun o => HO.out.bel.cell (p := ⟨b1, o, none⟩) hb1
      have x0 := (wc _).trans x0; have x1 := (wc _).trans x1; have x2 := (wc _).trans x2; have x3 := (wc _).trans x3
      have hbs := HO.out.bel.size
      have hbw : b1 < wr.heap.size := Nat.lt_of_lt_of_le hb1 hbs
      have n0 : (0 : Int) ≤ (k : Int) := by omega
      have n1 : (k : Int) < (a.length : Int) := by omega
      clear wc
      obtain ⟨w2, hw2⟩ : ∃ w2, w2 = (wr.alloc (.cells #[.int .i64 q.X0, .int .i64 q.Y0, .int .i64 q.X1, .int .i64 q.Y1] 33)).alloc (.cells #[.int .i64 q.X0, .int .i64 q.Y0, .int .i64 q.X1, .int .i64 q.Y1] 33) := ⟨_, rfl⟩
      have b2 : Below wr.heap.size wr w2 := by rw [hw2]; exact ((Below.refl _ _).alloc (Nat.le_refl _) _).alloc (by simp) _
      have hs2 : wr.heap.size < w2.heap.size := by rw [hw2]; simp; omega
      have hRB : RIn w2 (some ⟨wr.heap.size + 1, 0, none⟩) 1 [q] := by
        have h := RB.row (RB.new (wr.alloc (.cells #[.int .i64 q.X0, .int .i64 q.Y0, .int .i64 q.X1, .int .i64 q.Y1] 33)) [q] #[.int .i64 q.X0, .int .i64 q.Y0, .int .i64 q.X1, .int .i64 q.Y1] rfl) (by simp)
        rw [← hw2] at h
        simpa using h
      have HM := Lib.hid (gminus_any (some ⟨wr.heap.size + 1, 0, none⟩) 1 A2 c2 [q] room w2 hRB (H2.out.below (HO.out.bel.trans (b2.mono hbs))))
      rw [op_rest hq HR0.out HL.out] at HM
      have HO2 := Lib.hid (HO.out.go b2)
      have HLT : Hid (∀ g, v0.ownBlock = some g → g < w2.heap.size) := Lib.hid (fun g hg => by have := (HO.out.own.lt g hg).2; omega)
      have hXl : (outsP (a.take k) room).length ≤ 1000 := by have := outsP_len (a.take k) room; have := List.length_take_le k a; omega
      clear hRB hq
      obtain ⟨X, hX⟩ : ∃ X, X = outsP (a.take k) room := ⟨_, rfl⟩
      rw [← hX] at HO2 hnx hXl
      have HNX := Lib.hid hnx
      clear hX hnx HO b2 hs2
      cases hF : restR q room with
      | nil =>
        have HNX2 : Hid (outsP (a.take (k + 1)) room = X) := Lib.hid (by rw [HNX.out]; unfold outR; rw [hF]; simp)
        rw [hF] at HM
        clear hF HNX
        go_wp2_with fail
        rw [← hw2]
        refine HM.out.mono ?_
        rintro e w3 ⟨v3, rfl, ho3, hb3⟩
        obtain ⟨A3, c3, rfl, _⟩ := own_rects ho3
        have HO3 := Lib.hid (HO2.out.go hb3)
        clear ho3 hb3 HM HO2 x0 x1 x2 x3 hw2
        go_wp2_with fail
        go_roundw
        case rel => exact ⟨k + 1, v0, by omega, by go_num, rfl, by rw [HNX2.out]; exact HO3⟩
        case measure => simp [intOf]; omega
      | cons p R =>
        have HNX2 : Hid (outsP (a.take (k + 1)) room = X ++ [⟨p.X0, p.Y0⟩]) := Lib.hid (by rw [HNX.out]; unfold outR; rw [hF]; simp)
        rw [hF] at HM
        clear hF HNX
        go_wp2_with fail
        rw [← hw2]
        refine HM.out.mono ?_
        rintro e w3 ⟨v3, rfl, ho3, hb3⟩
        obtain ⟨A3, c3, rfl, hr3, _, _, hg3, _⟩ := own_rects ho3
        obtain ⟨g3, rfl, hg3a, hg3b⟩ := hg3 (by simp)
        obtain ⟨g3', o3', e3, _, hv3⟩ := hr3 (by simp)
        injection e3 with e3
        injection e3 with e3a e3b
        subst e3a; subst e3b
        obtain ⟨y0, y1, _, _⟩ := hv3 0 (by simp)
        obtain ⟨xa, hxa⟩ : ∃ xa, xa = p.X0 := ⟨_, rfl⟩
        obtain ⟨xb, hxb⟩ : ∃ xb, xb = p.Y0 := ⟨_, rfl⟩
        simp only [List.getElem_cons_zero, Nat.zero_mul, Nat.add_zero, Nat.zero_add] at y0 y1
        rw [← hxa] at y0; rw [← hxb] at y1
        rw [← hxa, ← hxb] at HNX2
        clear hxa hxb hv3 hr3 hg3
        have hm0 : 0 < (p :: R).length := by simp
        generalize (p :: R).length = m at *
        have m0 : (0 : Int) < (m : Int) := by omega
        have HR : Hid (R2p g3 xa xb w3) := Lib.hid ⟨y0, y1, hg3b⟩
        have HO3 := Lib.hid (HO2.out.go hb3)
        have HAP : Hid (∀ g, v0.ownBlock = some g → g ≠ g3) := Lib.hid (fun g hg => by have := HLT.out g hg; omega)
        have hb2 : Below w3.heap.size w3 (w3.drew.alloc (.cells #[.int .i64 xa, .int .i64 xb] 79)) := (below_drewN (Below.refl _ _) 1).alloc (Nat.le_refl _) _
        have HO4 := Lib.hid (HO3.out.go hb2)
        have HOWN := Lib.hid HO4.out.own
        have HSZ := Lib.hid HO4.out.bel.size
        have HGROW : Hid (∀ v6 w6, w6.ownsRow W.heap.size 79 2 v6 (X.length + 1) (ptcells X ++ [.int .i64 xa, .int .i64 xb]) → (w3.drew.alloc (.cells #[.int .i64 xa, .int .i64 xb] 79)).grownBy w6 v0.ownBlock → PtW v6 (outsP (a.take (k + 1)) room) W w6) := Lib.hid (fun v6 w6 q1 q2 => by
          rw [HNX2.out]
          exact HO4.out.app (p := ⟨xa, xb⟩) q1 q2)
        clear ho3 hb3 HM HO2 x0 x1 x2 x3 hw2 y0 y1 hb2 HO4 HO3 HNX2 HLT hg3a
        go_wp2_with fail
        refine wp_region_held_drew (S := fun w' => w'.cell? ⟨g3, 0, none⟩ = some (.int .i64 xa) ∧ w'.cell? ⟨g3, 1, none⟩ = some (.int .i64 xb) ∧ g3 < w'.heap.size) (by kernel_rfl) ?_ (fun hHeld => ?_)
        · exact R2p.drewN HR.out 1
        refine wpAnyH_take (i := 0) (oi := { dst := some 26, op := Go.Op.move (Go.Operand.tmp 5), type := 111, pos := "plane.go:150", after := #[], guard := none }) (v := ?_) rfl (by kernel_rfl) (by kernel_rfl) (by kernel_rfl) (fun _ _ _ h => h) (Or.inl ⟨by rfl, ?_⟩) (by assumption) ?_
        rotate_left
        · (intro w hSw; (try dsimp only at hSw); go_simp); try with_reducible rfl
        try simp only [Act.put, List.setIfInBounds_toArray, List.set_cons_zero, List.set_cons_succ]
        refine wpAnyH_take (i := 1) (oi := { dst := some 27, op := Go.Op.move (Go.Operand.tmp 8), type := 40, pos := "plane.go:150", after := #[], guard := none }) (v := ?_) rfl (by kernel_rfl) (by kernel_rfl) (by kernel_rfl) (fun _ _ _ h => h) (Or.inl ⟨by rfl, ?_⟩) (by assumption) ?_
        rotate_left
        · (intro w hSw; (try dsimp only at hSw); go_simp); try with_reducible rfl
        try simp only [Act.put, List.setIfInBounds_toArray, List.set_cons_zero, List.set_cons_succ]
        refine wpAnyH_take (i := 2) (oi := { dst := some 28, op := Go.Op.indexAddr 40 (Go.Operand.tmp 27) (Go.Operand.const (Go.Value.int Go.IntKind.i64 0)), type := 0, pos := "plane.go:150", after := #[{ on := 1, ground := Go.Ground.data }], guard := none }) (v := ?_) rfl (by kernel_rfl) (by kernel_rfl) (by kernel_rfl) (fun _ _ _ h => h) (Or.inl ⟨by rfl, ?_⟩) (by assumption) ?_
        rotate_left
        · (intro w hSw; (try dsimp only at hSw); go_simp); try with_reducible rfl
        try simp only [Act.put, List.setIfInBounds_toArray, List.set_cons_zero, List.set_cons_succ]
        refine wpAnyH_take (i := 3) (oi := { dst := some 29, op := Go.Op.fieldAddr 33 (Go.Operand.tmp 28) 0, type := 0, pos := "plane.go:150", after := #[{ on := 2, ground := Go.Ground.data }], guard := none }) (v := ?_) rfl (by kernel_rfl) (by kernel_rfl) (by kernel_rfl) (fun _ _ _ h => h) (Or.inl ⟨by rfl, ?_⟩) (by assumption) ?_
        rotate_left
        · (intro w hSw; (try dsimp only at hSw); go_simp); try with_reducible rfl
        try simp only [Act.put, List.setIfInBounds_toArray, List.set_cons_zero, List.set_cons_succ]
        refine wpAnyH_take (i := 4) (oi := { dst := some 30, op := Go.Op.load 3 (Go.Operand.tmp 29), type := 3, pos := "plane.go:150", after := #[{ on := 3, ground := Go.Ground.data }], guard := none }) (v := ?_) rfl (by kernel_rfl) (by kernel_rfl) (by kernel_rfl) (fun _ _ _ h => h) (Or.inl ⟨by rfl, ?_⟩) (by assumption) ?_
        rotate_left
        · (intro w hSw; (try dsimp only at hSw); go_simp); try with_reducible rfl
        try simp only [Act.put, List.setIfInBounds_toArray, List.set_cons_zero, List.set_cons_succ]
        refine wpAnyH_take (i := 5) (oi := { dst := some 31, op := Go.Op.move (Go.Operand.tmp 8), type := 40, pos := "plane.go:150", after := #[], guard := none }) (v := ?_) rfl (by kernel_rfl) (by kernel_rfl) (by kernel_rfl) (fun _ _ _ h => h) (Or.inl ⟨by rfl, ?_⟩) (by assumption) ?_
        rotate_left
        · (intro w hSw; (try dsimp only at hSw); go_simp); try with_reducible rfl
        try simp only [Act.put, List.setIfInBounds_toArray, List.set_cons_zero, List.set_cons_succ]
        refine wpAnyH_take (i := 6) (oi := { dst := some 32, op := Go.Op.indexAddr 40 (Go.Operand.tmp 31) (Go.Operand.const (Go.Value.int Go.IntKind.i64 0)), type := 0, pos := "plane.go:150", after := #[{ on := 5, ground := Go.Ground.data }], guard := none }) (v := ?_) rfl (by kernel_rfl) (by kernel_rfl) (by kernel_rfl) (fun _ _ _ h => h) (Or.inl ⟨by rfl, ?_⟩) (by assumption) ?_
        rotate_left
        · (intro w hSw; (try dsimp only at hSw); go_simp); try with_reducible rfl
        try simp only [Act.put, List.setIfInBounds_toArray, List.set_cons_zero, List.set_cons_succ]
        refine wpAnyH_take (i := 7) (oi := { dst := some 33, op := Go.Op.fieldAddr 33 (Go.Operand.tmp 32) 1, type := 0, pos := "plane.go:150", after := #[{ on := 6, ground := Go.Ground.data }], guard := none }) (v := ?_) rfl (by kernel_rfl) (by kernel_rfl) (by kernel_rfl) (fun _ _ _ h => h) (Or.inl ⟨by rfl, ?_⟩) (by assumption) ?_
        rotate_left
        · (intro w hSw; (try dsimp only at hSw); go_simp); try with_reducible rfl
        try simp only [Act.put, List.setIfInBounds_toArray, List.set_cons_zero, List.set_cons_succ]
        refine wpAnyH_take (i := 8) (oi := { dst := some 34, op := Go.Op.load 3 (Go.Operand.tmp 33), type := 3, pos := "plane.go:150", after := #[{ on := 7, ground := Go.Ground.data }], guard := none }) (v := ?_) rfl (by kernel_rfl) (by kernel_rfl) (by kernel_rfl) (fun _ _ _ h => h) (Or.inl ⟨by rfl, ?_⟩) (by assumption) ?_
        rotate_left
        · (intro w hSw; (try dsimp only at hSw); go_simp); try with_reducible rfl
        try simp only [Act.put, List.setIfInBounds_toArray, List.set_cons_zero, List.set_cons_succ]
        refine wpAnyH_take (i := 9) (oi := { dst := some 35, op := Go.Op.build 79 #[(0, Go.Operand.tmp 30), (1, Go.Operand.tmp 34)], type := 79, pos := "plane.go:150", after := #[{ on := 4, ground := Go.Ground.data }, { on := 8, ground := Go.Ground.data }], guard := none }) (v := ?_) rfl (by kernel_rfl) (by kernel_rfl) (by kernel_rfl) (fun _ _ _ h => h) (Or.inl ⟨by rfl, ?_⟩) (by assumption) ?_
        rotate_left
        · (intro w hSw; (try dsimp only at hSw); go_simp); try with_reducible rfl
        try simp only [Act.put, List.setIfInBounds_toArray, List.set_cons_zero, List.set_cons_succ]
        refine wpAnyH_ready (rs := [10]) (by kernel_rfl) (by simp) ?_
        refine AllReadyH.cons (o := { dst := some 36, op := Go.Op.buildSlice 111 1 #[(0, Go.Operand.tmp 35)], type := 111, pos := "plane.go:150", after := #[{ on := 9, ground := Go.Ground.data }], guard := none }) rfl (fun Kx hKx => ?_) AllReadyH.nil
        go_simp
        refine hKx.out _ _ (R2p.go ‹_› ((Below.refl _ _).alloc (Nat.le_refl _) _)) (fun hHeld2 => ?_)
        clear hKx Kx hHeld
        have hHeld := hHeld2; clear hHeld2
        try simp only [Act.put, List.setIfInBounds_toArray, List.set_cons_zero, List.set_cons_succ]
        refine wpAnyH_ready (rs := [11]) (by kernel_rfl) (by simp) ?_
        refine AllReadyH.cons (o := { dst := some 37, op := Go.Op.call { callee := Go.Callee.builtin Go.Builtin.append, args := #[Go.Operand.tmp 26, Go.Operand.tmp 36], argTypes := #[111, 111] }, type := 111, pos := "plane.go:150", after := #[{ on := 0, ground := Go.Ground.data }, { on := 10, ground := Go.Ground.data }], guard := none }) rfl (fun Kx hKx => ?_) AllReadyH.nil
        try simp only [Act.put, List.setIfInBounds_toArray, List.set_cons_zero, List.set_cons_succ]
        refine wp_append_own _ (Operand.tmp 26) (Operand.tmp 36) 111 rfl W.heap.size 79 i9 (.agg #[.int .i64 0, .int .i64 0]) 2 16 Tryz.underlying111 hi9 hz0 hz1 hz2 rfl (by decide) v0 X.length (ptcells X) rfl HOWN.out ⟨w3.drew.heap.size, 0, none⟩ 1 1 [.int .i64 xa, .int .i64 xb] rfl rfl ?d1 ?d2 ?d3 ?d4 ?d5 ?_
        case d1 => exact World.news_of_block (cs := #[.int .i64 xa, .int .i64 xb]) (t := 79) (fr := (0, 0)) (heap_alloc_new w3.drew _)
        case d2 => intro u hu; simp only [List.mem_cons, List.not_mem_nil, or_false] at hu; rcases hu with rfl | rfl <;> rfl
        case d3 => unfold maxLen; omega
        case d4 => omega
        case d5 => exact HSZ.out
        intro v6 w6 hown6 hgr6 _
        have HW6 := Lib.hid (HGROW.out v6 w6 hown6 hgr6)
        refine hKx.out _ _ (R2p.grow ‹_› hgr6 HAP.out) (fun hHeld2 => ?_)
        clear hKx Kx hHeld hown6 hgr6
        have hHeld := hHeld2; clear hHeld2
        try simp only [Act.put, List.setIfInBounds_toArray, List.set_cons_zero, List.set_cons_succ]
        refine wpAnyH_take (i := 12) (oi := { dst := some 5, op := Go.Op.assign (Go.Operand.tmp 37), type := 111, pos := "plane.go:150", after := #[{ on := 11, ground := Go.Ground.data }, { on := 11, ground := Go.Ground.chain }, { on := 0, ground := Go.Ground.phase }, { on := 1, ground := Go.Ground.phase }, { on := 2, ground := Go.Ground.phase }, { on := 3, ground := Go.Ground.phase }, { on := 4, ground := Go.Ground.phase }, { on := 5, ground := Go.Ground.phase }, { on := 6, ground := Go.Ground.phase }, { on := 7, ground := Go.Ground.phase }, { on := 8, ground := Go.Ground.phase }, { on := 9, ground := Go.Ground.phase }, { on := 10, ground := Go.Ground.phase }, { on := 11, ground := Go.Ground.phase }], guard := none }) (v := ?_) rfl (by kernel_rfl) (by kernel_rfl) (by kernel_rfl) (fun _ _ _ h => h) (Or.inl ⟨by rfl, ?_⟩) (by assumption) ?_
        rotate_left
        · (intro w hSw; (try dsimp only at hSw); go_simp); try with_reducible rfl
        try simp only [Act.put, List.setIfInBounds_toArray, List.set_cons_zero, List.set_cons_succ]
        refine wpAnyH_done (by kernel_rfl) ?_ _
        go_wp2_with fail
        go_roundw
        case rel => exact ⟨k + 1, v6, by omega, by go_num, rfl, HW6⟩
        case measure => simp [intOf]; omega
    · obtain rfl : k = a.length := by omega
      rw [List.take_length] at HO
      have HMI : Hid (∀ m : Pt, MinAt (outsP a room) (outsP a room).length m → OutC a room m.X m.Y) := Lib.hid (fun m hm => out_min HA.out HR0.out hm)
      have hXp : 0 < (outsP a room).length := List.length_pos_iff.2 (fun e => HNE.out (List.map_eq_nil_iff.1 e))
      have hXl : (outsP a room).length ≤ 1000 := by have := outsP_len a room; omega
      generalize outsP a room = X at *
      have hk0 := KP.out.below HO.out.bel KP.out.lt
      obtain ⟨A3, c3, rfl, hr3, hc3, hc4, _, _⟩ := own_points HO.out.own
      have HMF := Lib.hid (pmin_any A3 c3 X wr ⟨hr3, by omega, hc3, hc4⟩ hXp)
      have B9 := Lib.hid (HWW.out.trans (HO.out.bel.mono HWW.out.size))
      have K9 := Lib.hid hk0
      clear hk0 hr3 HO
      go_wp2_with fail
      refine HMF.out.mono ?_
      rintro e w4 ⟨mm, rfl, hm, hb4⟩
      have HMM := Lib.hid (HMI.out mm hm)
      have K4 := Lib.hid (K9.out.below hb4 K9.out.lt)
      have B4 := Lib.hid (B9.out.trans (hb4.mono B9.out.size))
      clear hm hb4 HMF K9 B9
      have f0 := K4.out.froz 0; have f1 := K4.out.froz 1
      have z0 := K4.out.cell0; have z1 := K4.out.cell1; have zl := K4.out.lt
      go_wp2_with fail
      exact bodyPost_ret (v := .agg #[.int .i64 mm.X, .int .i64 mm.Y]) (by simp [results, Tryz.results62, go_sem, *]) rfl ⟨mm.X, mm.Y, rfl, HMM.out, by have hk := B4.out; (repeat' first | exact Below.refl _ _ | assumption | (apply below_drewN) | (refine Below.setCell ?_ (by (try simp); (try omega)) _) | (refine Below.alloc ?_ (by (try simp); (try omega)) _) | (refine Below.trans ?_ (Below.mono (Hid.out (by assumption)) (by (try simp); (try omega)))))⟩
end Go.Proofs.YtkjblmfmaenllaaGreat
