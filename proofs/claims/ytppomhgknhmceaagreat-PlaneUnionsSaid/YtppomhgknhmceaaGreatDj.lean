/-
  Contracts of the program's layer 10, 5: room.
  Contracts of the program's layer 10, 7: Room, lowest.
-/
import Derived.Test.YtppomhgknhmceaaGreatDh
import Derived.Test.YtppomhgknhmceaaGreatHv
import Derived.Deep.RegionHeld3
import Derived.Test.YtppomhgknhmceaaGreatIj
set_option linter.unusedVariables false
set_option maxRecDepth 100000
namespace Go.Proofs.YtppomhgknhmceaaGreat
open Go.RowKit

def NdAt (w : World) (g : Nat) (z : Int) (l : List Pl) : Prop := ArAt w g (needS z 0 l) (needS z 1 l) (needS z 2 l) (needS z 3 l)
theorem ArAt.froz {w : World} {g : Nat} {a b c d : Int} (h : ArAt w g a b c d) (i : Nat) : w.frozen? ⟨g, i, none⟩ = false := Lib.frozen_of_heap h i
theorem NdAt.need {w : World} {g : Nat} {z : Int} {l : List Pl} (h : NdAt w g z l) {s : Int} (h0 : 0 ≤ s) (h1 : s < 4) : w.cell? ⟨g, s.toNat, none⟩ = some (.int .i64 (needS z s l)) := by
  have k : s = 0 ∨ s = 1 ∨ s = 2 ∨ s = 3 := by omega
  rcases k with rfl | rfl | rfl | rfl
  · exact h.c0
  · exact h.c1
  · exact h.c2
  · exact h.c3
theorem NdAt.step {w : World} {g : Nat} {z : Int} {l : List Pl} (h : NdAt w g z l) {p : Pl} (hp : 0 ≤ p.s ∧ p.s < 4) {v : Int} (hv : v = max (needS z p.s l) (nearP p z)) : NdAt (w.setCell ⟨g, p.s.toNat, none⟩ (.int .i64 v)) g z (l ++ [p]) := by
  subst hv
  have k : p.s = 0 ∨ p.s = 1 ∨ p.s = 2 ∨ p.s = 3 := by omega
  unfold NdAt at h ⊢
  rw [need_snoc, need_snoc, need_snoc, need_snoc]
  unfold ArAt at h ⊢
  rcases k with k | k | k | k <;> rw [k] <;> simp [World.setCell, Array.getElem?_modify, h]
theorem NdAt.start (w : World) (z : Int) (k : Nat) (h : k = w.heap.size) : NdAt (w.alloc (.cells #[.int .i64 (-1048576), .int .i64 (-1048576), .int .i64 (-1048576), .int .i64 (-1048576)] 87)) k z [] := ArAt.new w _ _ _ _ k h
theorem NdAt.below {w w' : World} {g : Nat} {z : Int} {l : List Pl} (h : NdAt w g z l) (hb : Below w.heap.size w w') : NdAt w' g z l := ArAt.below h hb
/-- a region of one rectangle at most. -/
def RmIs (F : List Rc) (w : World) (e : Ending) (w' : World) : Prop := ∃ A, e = .returned (.slice A F.length F.length) ∧ RRow w' A F ∧ Below w.heap.size w w'
theorem RmIs.of {F G : List Rc} {w w' : World} {A : Option Addr} {n m : Nat} (h : F = G) (hn : n = G.length) (hm : m = G.length) (hr : RRow w' A G) (hb : Below w.heap.size w w') : RmIs F w (.returned (.slice A n m)) w' := by subst h; subst hn; subst hm; exact ⟨A, rfl, hr, hb⟩
/-- what the region of a round reads. -/
def Rm5 (pb : Nat) (u : Pl) (W w' : World) : Prop := w'.cell? ⟨pb, 0, none⟩ = some (.int .i64 u.s) ∧ w'.cell? ⟨pb, 1, none⟩ = some (.int .i64 u.b) ∧ w'.cell? ⟨pb, 2, none⟩ = some (.int .i64 u.n) ∧ w'.cell? ⟨pb, 3, none⟩ = some (.int .i64 u.d) ∧ pb < w'.heap.size ∧ Hid (Below W.heap.size W w')
theorem Rm5.go {pb : Nat} {u : Pl} {W w w' : World} (h : Rm5 pb u W w) (hb : Below w.heap.size w w') : Rm5 pb u W w' := by
  obtain ⟨c0, c1, c2, c3, hl, h5⟩ := h
  have wc := fun o => hb.cell (p := ⟨pb, o, none⟩) hl
  exact ⟨(wc _).trans c0, (wc _).trans c1, (wc _).trans c2, (wc _).trans c3, Nat.lt_of_lt_of_le hl hb.size, Lib.hid (h5.out.trans (hb.mono h5.out.size))⟩
theorem Rm5.drewN {pb : Nat} {u : Pl} {W w : World} (h : Rm5 pb u W w) (n : Nat) : Rm5 pb u W (w.drewN n) := h.go (below_drewN (Below.refl _ _) n)
theorem Rm5.set {pb g i : Nat} {u : Pl} {W w : World} {v : Value} (h : Rm5 pb u W w) (hne : pb ≠ g) (hg : W.heap.size ≤ g) : Rm5 pb u W (w.setCell ⟨g, i, none⟩ v) := by
  obtain ⟨c0, c1, c2, c3, hl, h5⟩ := h
  have wc := fun o => World.cell?_setCell_far w ⟨g, i, none⟩ ⟨pb, o, none⟩ v hne.symm
  exact ⟨(wc _).trans c0, (wc _).trans c1, (wc _).trans c2, (wc _).trans c3, by simp; exact hl, Lib.hid (h5.out.setCell hg _)⟩
set_option maxHeartbeats 16000000 in
theorem kroom_any (r : Rc) (A : Option Addr) (cap : Nat) (l : List Pl) (z : Int) (w : World) (hl : PlIn w A cap l) (ha : ArgOk r l) (h0 : 0 ≤ z) (h1 : z ≤ 4096) :
    Calls Tryz.prog 67 #[.agg #[.int .i64 r.X0, .int .i64 r.Y0, .int .i64 r.X1, .int .i64 r.Y1], .slice A l.length cap, .int .i64 z] w (RmIs (roomS r l z) w) := by
  have HL := Lib.hid hl; clear hl
  have HA := Lib.hid ha; clear ha
  have HM : Hid (∀ s, -1048576 ≤ needS z s (atZ l z) ∧ needS z s (atZ l z) ≤ 16777216) := Lib.hid (fun s => need_in (l := atZ l z) (fun p hp => by unfold atZ at hp; split at hp; exact HA.out.2 p hp; cases hp) h0 h1 s)
  obtain ⟨wA, hA⟩ : ∃ wA, wA = w.alloc (.cells #[.int .i64 r.X0, .int .i64 r.Y0, .int .i64 r.X1, .int .i64 r.Y1] 33) := ⟨_, rfl⟩
  have BA : Below w.heap.size w wA := by subst hA; (repeat' first | exact Below.refl _ _ | assumption | (apply below_drewN) | (refine Below.setCell ?_ (by (try simp); (try omega)) _) | (refine Below.alloc ?_ (by (try simp); (try omega)) _) | (refine Below.trans ?_ (Below.mono (Hid.out (by assumption)) (by (try simp); (try omega)))))
  have KA : RcAt wA w.heap.size r := by subst hA; exact RcAt.new w r _ rfl
  obtain ⟨wB, hB⟩ : ∃ wB, wB = wA.alloc (.cells #[.int .i64 (-1048576), .int .i64 (-1048576), .int .i64 (-1048576), .int .i64 (-1048576)] 87) := ⟨_, rfl⟩
  have bAB : Below wA.heap.size wA wB := by subst hB; exact (Below.refl _ _).alloc (Nat.le_refl _) _
  have hg : wA.heap.size = w.heap.size + 1 := by subst hA; simp
  have HN : Hid (NdAt wB (w.heap.size + 1) z []) := Lib.hid (by rw [← hg]; subst hB; exact NdAt.start wA z _ rfl)
  have HK : Hid (RcAt wB w.heap.size r) := Lib.hid (KA.below bAB KA.lt)
  have HB : Hid (Below w.heap.size w wB) := Lib.hid (BA.trans (bAB.mono BA.size))
  clear BA KA bAB
  by_cases c : 0 < z
  · have d : decide (0 < z) = true := decide_eq_true c
    have HZ : Hid (atZ l z = l) := Lib.hid (if_pos c)
    go_enter Tryz.func67, Tryz.ntmps67
    go_wp2_with fail
    rw [← hA, ← hB]
    clear hA hB hg
    have hgw : Hid (w.heap.size ≤ w.heap.size + 1) := Lib.hid (by omega)
    have hgk : Hid (w.heap.size + 1 ≠ w.heap.size) := Lib.hid (by omega)
    generalize w.heap.size + 1 = g at *
    go_loopw [16] (fun i wr => ∃ (k : Nat), k ≤ l.length ∧ i = .int .i64 k ∧ Hid (RcAt wr w.heap.size r) ∧ Hid (NdAt wr g z (l.take k)) ∧ Hid (Below w.heap.size w wr)) (fun i _ => l.length - (intOf i).toNat)
    case atStart => exact ⟨0, Nat.zero_le _, rfl, HK, HN, HB⟩
    case round =>
    clear HK HN HB
    obtain ⟨k, hk, rfl, HK, HN, HB⟩ := hrel
    by_cases hlt : k < l.length
    · obtain ⟨ba, oa, rfl, hba, hva⟩ := HL.out.row (by omega)
      obtain ⟨x0, x1, x2, x3⟩ := hva k hlt
      have hp := HA.out.2 _ (List.getElem_mem hlt)
      have hT : l.take (k + 1) = l.take k ++ [l[k]] := List.take_succ_eq_append_getElem hlt
      obtain ⟨u, hu⟩ : ∃ u, u = l[k] := ⟨_, rfl⟩
      rw [← hu] at x0 x1 x2 x3 hp hT
      have HTK := Lib.hid hT
      clear hu hva hT
      have wc := fun o => HB.out.cell (p := ⟨ba, o, none⟩) hba
      have x0 := (wc _).trans x0; have x1 := (wc _).trans x1; have x2 := (wc _).trans x2; have x3 := (wc _).trans x3
      have hbw : ba < wr.heap.size := Nat.lt_of_lt_of_le hba HB.out.size
      clear wc
      have n0 : (0 : Int) ≤ (k : Int) := by omega
      have n1 : (k : Int) < (l.length : Int) := by omega
      have hlen := HL.out.len
      have P0 := Lib.hid (PlAt.new wr u _ rfl)
      have ba0 : Below wr.heap.size wr (wr.alloc (.cells #[.int .i64 u.s, .int .i64 u.b, .int .i64 u.n, .int .i64 u.d] 47)) := (Below.refl _ _).alloc (Nat.le_refl _) _
      have HK2 := Lib.hid (HK.out.below ba0 HK.out.lt)
      have HN2 := Lib.hid (HN.out.below ba0)
      have HB2 := Lib.hid (HB.out.trans (ba0.mono HB.out.size))
      have hgp : Hid (g < wr.heap.size) := Lib.hid HN.out.lt
      clear ba0 HK HB HN
      have HF := Lib.hid (fun w' => knear_any u z hp h0 h1 w')
      have hS := Lib.hid hp.1
      go_wp2_with fail
      generalize World.alloc wr _ = w3 at *
      generalize wr.heap.size = pb at *
      clear x0 x1 x2 x3 hbw
      have E1 : Hid (Rm5 pb u w w3) := Lib.hid ⟨P0.out.c0, P0.out.c1, P0.out.c2, P0.out.c3, P0.out.lt, HB2⟩
      have hne : Hid (pb ≠ g) := Lib.hid (by have := hgp.out; omega)
      have dn : Hid (Below w3.heap.size w3 w3.drew) := Lib.hid (below_drewN (Below.refl _ _) 1)
      have HN3 := Lib.hid (HN2.out.below dn.out)
      have HK3 := Lib.hid (HK2.out.below dn.out HK2.out.lt)
      obtain ⟨s0, s1⟩ := hp.1
      have y0 := HN3.out.need s0 s1; have yl := HN3.out.lt
      have f0 := fun i => HN3.out.froz i
      obtain ⟨nv, hnv⟩ : ∃ nv, nv = needS z u.s (l.take k) := ⟨_, rfl⟩
      rw [← hnv] at y0
      obtain ⟨pv, hpv⟩ : ∃ pv, pv = nearP u z := ⟨_, rfl⟩
      rw [← hpv] at HF
      have HV : Hid (max nv pv = max (needS z u.s (l.take k)) (nearP u z)) := Lib.hid (by rw [hnv, hpv])
      have HNV := Lib.hid hnv
      clear hnv hpv P0 HB2
      refine wp_region_held_drew (S := fun w' => w'.cell? ⟨pb, 0, none⟩ = some (.int .i64 u.s) ∧ w'.cell? ⟨pb, 1, none⟩ = some (.int .i64 u.b) ∧ w'.cell? ⟨pb, 2, none⟩ = some (.int .i64 u.n) ∧ w'.cell? ⟨pb, 3, none⟩ = some (.int .i64 u.d) ∧ pb < w'.heap.size ∧ Hid (Below w.heap.size w w')) (by kernel_rfl) ?_ (fun hHeld => ?_)
      · exact Rm5.drewN E1.out 1
      refine wpAnyH_take (i := 0) (oi := { dst := some 20, op := Go.Op.fieldAddr 47 (Go.Operand.tmp 9) 0, type := 0, pos := "plane.go:107", after := #[], guard := none }) (v := ?_) rfl (by kernel_rfl) (by kernel_rfl) (by kernel_rfl) (fun _ _ _ h => h) (Or.inl ⟨by rfl, ?_⟩) (by assumption) ?_
      rotate_left
      · (intro w hSw; (try dsimp only at hSw); go_simp); try with_reducible rfl
      try simp only [Act.put, List.setIfInBounds_toArray, List.set_cons_zero, List.set_cons_succ]
      refine wpAnyH_take (i := 1) (oi := { dst := some 21, op := Go.Op.load 3 (Go.Operand.tmp 20), type := 3, pos := "plane.go:107", after := #[{ on := 0, ground := Go.Ground.data }], guard := none }) (v := ?_) rfl (by kernel_rfl) (by kernel_rfl) (by kernel_rfl) (fun _ _ _ h => h) (Or.inl ⟨by rfl, ?_⟩) (by assumption) ?_
      rotate_left
      · (intro w hSw; (try dsimp only at hSw); go_simp); try with_reducible rfl
      try simp only [Act.put, List.setIfInBounds_toArray, List.set_cons_zero, List.set_cons_succ]
      refine wpAnyH_take (i := 2) (oi := { dst := some 22, op := Go.Op.fieldAddr 47 (Go.Operand.tmp 9) 0, type := 0, pos := "plane.go:107", after := #[], guard := none }) (v := ?_) rfl (by kernel_rfl) (by kernel_rfl) (by kernel_rfl) (fun _ _ _ h => h) (Or.inl ⟨by rfl, ?_⟩) (by assumption) ?_
      rotate_left
      · (intro w hSw; (try dsimp only at hSw); go_simp); try with_reducible rfl
      try simp only [Act.put, List.setIfInBounds_toArray, List.set_cons_zero, List.set_cons_succ]
      refine wpAnyH_take (i := 3) (oi := { dst := some 23, op := Go.Op.load 3 (Go.Operand.tmp 22), type := 3, pos := "plane.go:107", after := #[{ on := 2, ground := Go.Ground.data }], guard := none }) (v := ?_) rfl (by kernel_rfl) (by kernel_rfl) (by kernel_rfl) (fun _ _ _ h => h) (Or.inl ⟨by rfl, ?_⟩) (by assumption) ?_
      rotate_left
      · (intro w hSw; (try dsimp only at hSw); go_simp); try with_reducible rfl
      try simp only [Act.put, List.setIfInBounds_toArray, List.set_cons_zero, List.set_cons_succ]
      refine wpAnyH_take (i := 4) (oi := { dst := some 24, op := Go.Op.indexAddr 87 (Go.Operand.tmp 7) (Go.Operand.tmp 23), type := 0, pos := "plane.go:107", after := #[{ on := 3, ground := Go.Ground.data }], guard := none }) (v := ?_) rfl (by kernel_rfl) (by kernel_rfl) (by kernel_rfl) (fun _ _ _ h => h) (Or.inl ⟨by rfl, ?_⟩) (by assumption) ?_
      rotate_left
      · (intro w hSw; (try dsimp only at hSw); go_simp); try with_reducible rfl
      try simp only [Act.put, List.setIfInBounds_toArray, List.set_cons_zero, List.set_cons_succ]
      refine wpAnyH_take (i := 6) (oi := { dst := some 26, op := Go.Op.load 47 (Go.Operand.tmp 9), type := 47, pos := "plane.go:107", after := #[], guard := none }) (v := ?_) rfl (by kernel_rfl) (by kernel_rfl) (by kernel_rfl) (fun _ _ _ h => h) (Or.inl ⟨by rfl, ?_⟩) (by assumption) ?_
      rotate_left
      · (intro w hSw; (try dsimp only at hSw); go_simp); try with_reducible rfl
      try simp only [Act.put, List.setIfInBounds_toArray, List.set_cons_zero, List.set_cons_succ]
      refine wpAnyH_take (i := 7) (oi := { dst := some 27, op := Go.Op.move (Go.Operand.tmp 2), type := 3, pos := "plane.go:107", after := #[], guard := none }) (v := ?_) rfl (by kernel_rfl) (by kernel_rfl) (by kernel_rfl) (fun _ _ _ h => h) (Or.inl ⟨by rfl, ?_⟩) (by assumption) ?_
      rotate_left
      · (intro w hSw; (try dsimp only at hSw); go_simp); try with_reducible rfl
      try simp only [Act.put, List.setIfInBounds_toArray, List.set_cons_zero, List.set_cons_succ]
      refine wpAnyH_ready (rs := [5, 8]) (by kernel_rfl) (by simp) ?_
      refine AllReadyH.cons (o := { dst := some 25, op := Go.Op.load 3 (Go.Operand.tmp 24), type := 3, pos := "plane.go:107", after := #[{ on := 4, ground := Go.Ground.data }], guard := none }) rfl (fun K hK => ?_) (AllReadyH.cons (o := { dst := some 28, op := Go.Op.call { callee := Go.Callee.value (Go.Operand.func 115), args := #[Go.Operand.tmp 26, Go.Operand.tmp 27], argTypes := #[47, 3] }, type := 3, pos := "plane.go:107", after := #[{ on := 6, ground := Go.Ground.data }, { on := 7, ground := Go.Ground.data }], guard := none }) rfl (fun K hK => ?_) AllReadyH.nil)
      · go_simp
        refine hK.out _ _ (hHeld) (fun hHeld2 => ?_)
        clear hK K hHeld
        have hHeld := hHeld2; clear hHeld2
        try simp only [Act.put, List.setIfInBounds_toArray, List.set_cons_zero, List.set_cons_succ]
        refine wpAnyH_ready (rs := [8]) (by kernel_rfl) (by simp) ?_
        refine AllReadyH.cons (o := { dst := some 28, op := Go.Op.call { callee := Go.Callee.value (Go.Operand.func 115), args := #[Go.Operand.tmp 26, Go.Operand.tmp 27], argTypes := #[47, 3] }, type := 3, pos := "plane.go:107", after := #[{ on := 6, ground := Go.Ground.data }, { on := 7, ground := Go.Ground.data }], guard := none }) rfl (fun K hK => ?_) AllReadyH.nil
        go_simp
        go_at_call 115
        refine (HF.out _).mono ?_
        rintro e w9 ⟨rfl, hb⟩
        have HN9 := Lib.hid (HN3.out.below hb)
        have HK9 := Lib.hid (HK3.out.below hb HK3.out.lt)
        have y9 := HN9.out.need s0 s1
        have yl9 := HN9.out.lt
        have f9 := fun i => HN9.out.froz i
        rw [← HNV.out] at y9
        try go_wp2_with fail
        refine hK.out _ _ (Rm5.go ‹_› hb) (fun hHeld2 => ?_)
        clear hK K hHeld hb
        have hHeld := hHeld2; clear hHeld2
        try simp only [Act.put, List.setIfInBounds_toArray, List.set_cons_zero, List.set_cons_succ]
        have hHeld9 := hHeld
        refine wpAnyH_ready (rs := [9]) (by kernel_rfl) (by simp) ?_
        refine AllReadyH.cons (o := { dst := some 29, op := Go.Op.call { callee := Go.Callee.builtin Go.Builtin.max, args := #[Go.Operand.tmp 25, Go.Operand.tmp 28], argTypes := #[3, 3] }, type := 3, pos := "plane.go:107", after := #[{ on := 5, ground := Go.Ground.data }, { on := 8, ground := Go.Ground.data }], guard := none }) rfl (fun K hK => ?_) AllReadyH.nil
        go_simp
        refine hK.out _ _ (hHeld) (fun hHeld2 => ?_)
        clear hK K hHeld
        have hHeld := hHeld2; clear hHeld2
        try simp only [Act.put, List.setIfInBounds_toArray, List.set_cons_zero, List.set_cons_succ]
        refine wpAnyH_ready (rs := [10]) (by kernel_rfl) (by simp) ?_
        refine AllReadyH.cons (o := { dst := some 30, op := Go.Op.indexAddr 87 (Go.Operand.tmp 7) (Go.Operand.tmp 21), type := 0, pos := "plane.go:107", after := #[{ on := 1, ground := Go.Ground.data }, { on := 0, ground := Go.Ground.phase }, { on := 1, ground := Go.Ground.phase }, { on := 2, ground := Go.Ground.phase }, { on := 3, ground := Go.Ground.phase }, { on := 4, ground := Go.Ground.phase }, { on := 5, ground := Go.Ground.phase }, { on := 6, ground := Go.Ground.phase }, { on := 7, ground := Go.Ground.phase }, { on := 8, ground := Go.Ground.phase }, { on := 9, ground := Go.Ground.phase }], guard := none }) rfl (fun K hK => ?_) AllReadyH.nil
        go_simp
        refine hK.out _ _ (hHeld) (fun hHeld2 => ?_)
        clear hK K hHeld
        have hHeld := hHeld2; clear hHeld2
        try simp only [Act.put, List.setIfInBounds_toArray, List.set_cons_zero, List.set_cons_succ]
        refine wpAnyH_ready (rs := [11]) (by kernel_rfl) (by simp) ?_
        refine AllReadyH.cons (o := { dst := none, op := Go.Op.store 3 (Go.Operand.tmp 30) (Go.Operand.tmp 29), type := 0, pos := "plane.go:107", after := #[{ on := 10, ground := Go.Ground.data }, { on := 9, ground := Go.Ground.data }, { on := 8, ground := Go.Ground.chain }, { on := 0, ground := Go.Ground.phase }, { on := 1, ground := Go.Ground.phase }, { on := 2, ground := Go.Ground.phase }, { on := 3, ground := Go.Ground.phase }, { on := 4, ground := Go.Ground.phase }, { on := 5, ground := Go.Ground.phase }, { on := 6, ground := Go.Ground.phase }, { on := 7, ground := Go.Ground.phase }, { on := 8, ground := Go.Ground.phase }, { on := 9, ground := Go.Ground.phase }], guard := none }) rfl (fun K hK => ?_) AllReadyH.nil
        go_simp
        refine hK.out _ _ (Rm5.set ‹_› hne.out hgw.out) (fun hHeld2 => ?_)
        clear hK K hHeld
        have hHeld := hHeld2; clear hHeld2
        try simp only [Act.put, List.setIfInBounds_toArray, List.set_cons_zero, List.set_cons_succ]
        refine wpAnyH_done (by kernel_rfl) ?_ _
        go_wp2_with fail
        go_roundw
        case rel => exact ⟨k + 1, by omega, by go_num, Lib.hid (HK9.out.far hgk.out.symm), Lib.hid (by rw [HTK.out]; exact HN9.out.step hS.out HV.out), Lib.hid ((show Rm5 pb u w w9 from hHeld9).2.2.2.2.2.out.setCell hgw.out _)⟩
        case measure => simp [intOf]; omega
      · go_simp
        go_at_call 115
        refine (HF.out _).mono ?_
        rintro e w9 ⟨rfl, hb⟩
        have HN9 := Lib.hid (HN3.out.below hb)
        have HK9 := Lib.hid (HK3.out.below hb HK3.out.lt)
        have y9 := HN9.out.need s0 s1
        have yl9 := HN9.out.lt
        have f9 := fun i => HN9.out.froz i
        rw [← HNV.out] at y9
        try go_wp2_with fail
        refine hK.out _ _ (Rm5.go ‹_› hb) (fun hHeld2 => ?_)
        clear hK K hHeld hb
        have hHeld := hHeld2; clear hHeld2
        try simp only [Act.put, List.setIfInBounds_toArray, List.set_cons_zero, List.set_cons_succ]
        have hHeld9 := hHeld
        refine wpAnyH_ready (rs := [5]) (by kernel_rfl) (by simp) ?_
        refine AllReadyH.cons (o := { dst := some 25, op := Go.Op.load 3 (Go.Operand.tmp 24), type := 3, pos := "plane.go:107", after := #[{ on := 4, ground := Go.Ground.data }], guard := none }) rfl (fun K hK => ?_) AllReadyH.nil
        go_simp
        refine hK.out _ _ (hHeld) (fun hHeld2 => ?_)
        clear hK K hHeld
        have hHeld := hHeld2; clear hHeld2
        try simp only [Act.put, List.setIfInBounds_toArray, List.set_cons_zero, List.set_cons_succ]
        refine wpAnyH_ready (rs := [9]) (by kernel_rfl) (by simp) ?_
        refine AllReadyH.cons (o := { dst := some 29, op := Go.Op.call { callee := Go.Callee.builtin Go.Builtin.max, args := #[Go.Operand.tmp 25, Go.Operand.tmp 28], argTypes := #[3, 3] }, type := 3, pos := "plane.go:107", after := #[{ on := 5, ground := Go.Ground.data }, { on := 8, ground := Go.Ground.data }], guard := none }) rfl (fun K hK => ?_) AllReadyH.nil
        go_simp
        refine hK.out _ _ (hHeld) (fun hHeld2 => ?_)
        clear hK K hHeld
        have hHeld := hHeld2; clear hHeld2
        try simp only [Act.put, List.setIfInBounds_toArray, List.set_cons_zero, List.set_cons_succ]
        refine wpAnyH_ready (rs := [10]) (by kernel_rfl) (by simp) ?_
        refine AllReadyH.cons (o := { dst := some 30, op := Go.Op.indexAddr 87 (Go.Operand.tmp 7) (Go.Operand.tmp 21), type := 0, pos := "plane.go:107", after := #[{ on := 1, ground := Go.Ground.data }, { on := 0, ground := Go.Ground.phase }, { on := 1, ground := Go.Ground.phase }, { on := 2, ground := Go.Ground.phase }, { on := 3, ground := Go.Ground.phase }, { on := 4, ground := Go.Ground.phase }, { on := 5, ground := Go.Ground.phase }, { on := 6, ground := Go.Ground.phase }, { on := 7, ground := Go.Ground.phase }, { on := 8, ground := Go.Ground.phase }, { on := 9, ground := Go.Ground.phase }], guard := none }) rfl (fun K hK => ?_) AllReadyH.nil
        go_simp
        refine hK.out _ _ (hHeld) (fun hHeld2 => ?_)
        clear hK K hHeld
        have hHeld := hHeld2; clear hHeld2
        try simp only [Act.put, List.setIfInBounds_toArray, List.set_cons_zero, List.set_cons_succ]
        refine wpAnyH_ready (rs := [11]) (by kernel_rfl) (by simp) ?_
        refine AllReadyH.cons (o := { dst := none, op := Go.Op.store 3 (Go.Operand.tmp 30) (Go.Operand.tmp 29), type := 0, pos := "plane.go:107", after := #[{ on := 10, ground := Go.Ground.data }, { on := 9, ground := Go.Ground.data }, { on := 8, ground := Go.Ground.chain }, { on := 0, ground := Go.Ground.phase }, { on := 1, ground := Go.Ground.phase }, { on := 2, ground := Go.Ground.phase }, { on := 3, ground := Go.Ground.phase }, { on := 4, ground := Go.Ground.phase }, { on := 5, ground := Go.Ground.phase }, { on := 6, ground := Go.Ground.phase }, { on := 7, ground := Go.Ground.phase }, { on := 8, ground := Go.Ground.phase }, { on := 9, ground := Go.Ground.phase }], guard := none }) rfl (fun K hK => ?_) AllReadyH.nil
        go_simp
        refine hK.out _ _ (Rm5.set ‹_› hne.out hgw.out) (fun hHeld2 => ?_)
        clear hK K hHeld
        have hHeld := hHeld2; clear hHeld2
        try simp only [Act.put, List.setIfInBounds_toArray, List.set_cons_zero, List.set_cons_succ]
        refine wpAnyH_done (by kernel_rfl) ?_ _
        go_wp2_with fail
        go_roundw
        case rel => exact ⟨k + 1, by omega, by go_num, Lib.hid (HK9.out.far hgk.out.symm), Lib.hid (by rw [HTK.out]; exact HN9.out.step hS.out HV.out), Lib.hid ((show Rm5 pb u w w9 from hHeld9).2.2.2.2.2.out.setCell hgw.out _)⟩
        case measure => simp [intOf]; omega
    · obtain rfl : k = l.length := by omega
      rw [List.take_length, ← HZ.out] at HN
      have z0 := HK.out.cell0; have z1 := HK.out.cell1; have z2 := HK.out.cell2; have z3 := HK.out.cell3; have zl := HK.out.lt
      have a0 := HN.out.c0; have a1 := HN.out.c1; have a2 := HN.out.c2; have a3 := HN.out.c3; have al := HN.out.lt
      have m0 := HM.out 0; have m1 := HM.out 1; have m2 := HM.out 2; have m3 := HM.out 3
      have hE : Hid (roomR r l z = ⟨max (r.X0 + needS z 0 (atZ l z)) 0, max (r.Y0 + needS z 2 (atZ l z)) 0, min (r.X1 - needS z 1 (atZ l z)) 1048576, min (r.Y1 - needS z 3 (atZ l z)) 1048576⟩) := Lib.hid rfl
      generalize needS z 0 (atZ l z) = n0 at *
      generalize needS z 1 (atZ l z) = n1 at *
      generalize needS z 2 (atZ l z) = n2 at *
      generalize needS z 3 (atZ l z) = n3 at *
      have rk := HA.out.1
      obtain ⟨⟨r0, r1, r2⟩, r3, r4, r5⟩ := rk
      have q0 : IntKind.i64.wrap (r.X0 + n0) = r.X0 + n0 := IntWalk.i64_in _ (by omega)
      have q1 : IntKind.i64.wrap (r.X1 - n1) = r.X1 - n1 := IntWalk.i64_in _ (by omega)
      have q2 : IntKind.i64.wrap (r.Y0 + n2) = r.Y0 + n2 := IntWalk.i64_in _ (by omega)
      have q3 : IntKind.i64.wrap (r.Y1 - n3) = r.Y1 - n3 := IntWalk.i64_in _ (by omega)
      obtain ⟨s0, hs0⟩ : ∃ s, max (r.X0 + n0) 0 = s := ⟨_, rfl⟩
      obtain ⟨s1, hs1⟩ : ∃ s, max (r.Y0 + n2) 0 = s := ⟨_, rfl⟩
      obtain ⟨s2, hs2⟩ : ∃ s, min (r.X1 - n1) 1048576 = s := ⟨_, rfl⟩
      obtain ⟨s3, hs3⟩ : ∃ s, min (r.Y1 - n3) 1048576 = s := ⟨_, rfl⟩
      rw [hs0, hs1, hs2, hs3] at hE
      have HE := Lib.hid hE.out
      have HR := Lib.hid (fun w' => tright_nd s0 s1 s2 s3 w')
      have KR := Lib.hid (RcAt.new wr ⟨s0, s1, s2, s3⟩ _ rfl)
      have BR := Lib.hid (HB.out.alloc HB.out.size (.cells #[.int .i64 s0, .int .i64 s1, .int .i64 s2, .int .i64 s3] 33))
      have k0 := KR.out.cell0; have k1 := KR.out.cell1; have k2 := KR.out.cell2; have k3 := KR.out.cell3; have kl := KR.out.lt
      simp only [] at k0 k1 k2 k3
      clear hE
      by_cases cr : ROk ⟨s0, s1, s2, s3⟩
      · rw [show rokB ⟨s0, s1, s2, s3⟩ = true from (rokB_iff _).2 cr] at HR
        have HRS : Hid (roomS r l z = [⟨s0, s1, s2, s3⟩]) := Lib.hid (by unfold roomS; rw [HE.out, if_pos cr])
        clear cr HE
        go_wp2_with fail
        try simp only [hs0, hs1, hs2, hs3]
        generalize World.alloc wr _ = w5 at *
        generalize wr.heap.size = rb at *
        clear z0 z1 z2 z3 zl a0 a1 a2 a3 al HK HN
        refine (HR.out _).mono ?_
        rintro e w6 ⟨rfl, hb⟩
        have K6 := Lib.hid (KR.out.below hb kl)
        have B6 := Lib.hid (BR.out.trans (hb.mono BR.out.size)); clear hb KR BR k0 k1 k2 k3 kl
        have k0 := K6.out.cell0; have k1 := K6.out.cell1; have k2 := K6.out.cell2; have k3 := K6.out.cell3; have kl := K6.out.lt
        simp only [] at k0 k1 k2 k3
        have HRW := Lib.hid (RB.row (RB.new w6 [⟨s0, s1, s2, s3⟩] #[.int .i64 s0, .int .i64 s1, .int .i64 s2, .int .i64 s3] rfl) (by simp))
        go_wp2_with fail
        go_ret
        exact RmIs.of HRS.out rfl rfl HRW.out.row (B6.out.alloc B6.out.size _)
      · rw [show rokB ⟨s0, s1, s2, s3⟩ = false from (rokB_no _).2 cr] at HR
        have HRS : Hid (roomS r l z = []) := Lib.hid (by unfold roomS; rw [HE.out, if_neg cr])
        clear cr HE
        go_wp2_with fail
        try simp only [hs0, hs1, hs2, hs3]
        generalize World.alloc wr _ = w5 at *
        clear z0 z1 z2 z3 zl a0 a1 a2 a3 al HK HN
        refine (HR.out _).mono ?_
        rintro e w6 ⟨rfl, hb⟩
        have B6 := Lib.hid (BR.out.trans (hb.mono BR.out.size)); clear hb KR BR k0 k1 k2 k3 kl
        go_wp2_with fail
        go_ret
        exact RmIs.of HRS.out rfl rfl (RRow.nil _ _) B6.out
  · have d : decide (0 < z) = false := decide_eq_false c
    have HZ : Hid (atZ l z = []) := Lib.hid (if_neg c)
    rw [← HZ.out] at HN
    have hBz : w.heap.size + 1 + 1 = wB.heap.size := by rw [hB]; simp [hg]
    have z0 := HK.out.cell0; have z1 := HK.out.cell1; have z2 := HK.out.cell2; have z3 := HK.out.cell3; have zl := HK.out.lt
    have a0 := HN.out.c0; have a1 := HN.out.c1; have a2 := HN.out.c2; have a3 := HN.out.c3; have al := HN.out.lt
    have hz9 : ∀ s, needS z s [] = -1048576 := fun _ => rfl
    have hE : Hid (roomR r l z = ⟨max (r.X0 + -1048576) 0, max (r.Y0 + -1048576) 0, min (r.X1 + 1048576) 1048576, min (r.Y1 + 1048576) 1048576⟩) := Lib.hid (by unfold roomR; rw [HZ.out, hz9, hz9, hz9, hz9]; apply Rc.eq <;> simp only [] <;> omega)
    have rk := HA.out.1
    obtain ⟨⟨r0, r1, r2⟩, r3, r4, r5⟩ := rk
    clear hz9
    have q0 : IntKind.i64.wrap (r.X0 + -1048576) = r.X0 + -1048576 := IntWalk.i64_in _ (by omega)
    have q1 : IntKind.i64.wrap (r.X1 + 1048576) = r.X1 + 1048576 := IntWalk.i64_in _ (by omega)
    have q2 : IntKind.i64.wrap (r.Y0 + -1048576) = r.Y0 + -1048576 := IntWalk.i64_in _ (by omega)
    have q3 : IntKind.i64.wrap (r.Y1 + 1048576) = r.Y1 + 1048576 := IntWalk.i64_in _ (by omega)
    obtain ⟨s0, hs0⟩ : ∃ s, max (r.X0 + -1048576) 0 = s := ⟨_, rfl⟩
    obtain ⟨s1, hs1⟩ : ∃ s, max (r.Y0 + -1048576) 0 = s := ⟨_, rfl⟩
    obtain ⟨s2, hs2⟩ : ∃ s, min (r.X1 + 1048576) 1048576 = s := ⟨_, rfl⟩
    obtain ⟨s3, hs3⟩ : ∃ s, min (r.Y1 + 1048576) 1048576 = s := ⟨_, rfl⟩
    rw [hs0, hs1, hs2, hs3] at hE
    have HE := Lib.hid hE.out
    have HR := Lib.hid (fun w' => tright_nd s0 s1 s2 s3 w')
    have KR := Lib.hid (RcAt.new wB ⟨s0, s1, s2, s3⟩ (w.heap.size + 1 + 1) hBz)
    have BR := Lib.hid (HB.out.alloc HB.out.size (.cells #[.int .i64 s0, .int .i64 s1, .int .i64 s2, .int .i64 s3] 33))
    have k0 := KR.out.cell0; have k1 := KR.out.cell1; have k2 := KR.out.cell2; have k3 := KR.out.cell3; have kl := KR.out.lt
    simp only [] at k0 k1 k2 k3
    clear hE hBz hg
    by_cases cr : ROk ⟨s0, s1, s2, s3⟩
    · rw [show rokB ⟨s0, s1, s2, s3⟩ = true from (rokB_iff _).2 cr] at HR
      have HRS : Hid (roomS r l z = [⟨s0, s1, s2, s3⟩]) := Lib.hid (by unfold roomS; rw [HE.out, if_pos cr])
      clear cr HE
      go_enter Tryz.func67, Tryz.ntmps67
      go_wp2_with fail
      rw [← hA, ← hB]
      try simp only [hs0, hs1, hs2, hs3]
      generalize World.alloc wB _ = w5 at *
      clear z0 z1 z2 z3 zl a0 a1 a2 a3 al HK HN
      refine (HR.out _).mono ?_
      rintro e w6 ⟨rfl, hb⟩
      have K6 := Lib.hid (KR.out.below hb kl)
      have B6 := Lib.hid (BR.out.trans (hb.mono BR.out.size)); clear hb KR BR k0 k1 k2 k3 kl
      have k0 := K6.out.cell0; have k1 := K6.out.cell1; have k2 := K6.out.cell2; have k3 := K6.out.cell3; have kl := K6.out.lt
      simp only [] at k0 k1 k2 k3
      have HRW := Lib.hid (RB.row (RB.new w6 [⟨s0, s1, s2, s3⟩] #[.int .i64 s0, .int .i64 s1, .int .i64 s2, .int .i64 s3] rfl) (by simp))
      go_wp2_with fail
      go_ret
      exact RmIs.of HRS.out rfl rfl HRW.out.row (B6.out.alloc B6.out.size _)
    · rw [show rokB ⟨s0, s1, s2, s3⟩ = false from (rokB_no _).2 cr] at HR
      have HRS : Hid (roomS r l z = []) := Lib.hid (by unfold roomS; rw [HE.out, if_neg cr])
      clear cr HE
      go_enter Tryz.func67, Tryz.ntmps67
      go_wp2_with fail
      rw [← hA, ← hB]
      try simp only [hs0, hs1, hs2, hs3]
      generalize World.alloc wB _ = w5 at *
      clear z0 z1 z2 z3 zl a0 a1 a2 a3 al HK HN
      refine (HR.out _).mono ?_
      rintro e w6 ⟨rfl, hb⟩
      have B6 := Lib.hid (BR.out.trans (hb.mono BR.out.size)); clear hb KR BR k0 k1 k2 k3 kl
      go_wp2_with fail
      go_ret
      exact RmIs.of HRS.out rfl rfl (RRow.nil _ _) B6.out
end Go.Proofs.YtppomhgknhmceaaGreat
namespace Go.Proofs.YtppomhgknhmceaaGreat
open Go.RowKit

/-- Room for whatever arguments. -/
def RoomIs (r : Rc) (l : List Pl) (z : Int) : List Rc × Int := if ArgOk r l then (if 0 ≤ z ∧ z ≤ 4096 then (roomS r l z, 0) else ([], 3)) else ([], 1)
def RmE (x : List Rc × Int) (w : World) (e : Ending) (w' : World) : Prop := ∃ A, e = .returned (.tuple #[.slice A x.1.length x.1.length, .int .i64 x.2]) ∧ RRow w' A x.1 ∧ Below w.heap.size w w'
theorem RmE.of {x y : List Rc × Int} {w w' : World} {A : Option Addr} {n m : Nat} {er : Int} (h : x = y) (hn : n = y.1.length) (hm : m = y.1.length) (he : er = y.2) (hr : RRow w' A y.1) (hb : Below w.heap.size w w') : RmE x w (.returned (.tuple #[.slice A n m, .int .i64 er])) w' := by subst h; subst hn; subst hm; subst he; exact ⟨A, rfl, hr, hb⟩
theorem room_len (r : Rc) (l : List Pl) (z : Int) : (roomS r l z).length ≤ 1 := by unfold roomS; split <;> simp
set_option maxHeartbeats 8000000 in
theorem kRoom_any (r : Rc) (A : Option Addr) (cap : Nat) (l : List Pl) (z : Int) (w : World) (hl : PlIn w A cap l) :
    Calls Tryz.prog 18 #[.agg #[.int .i64 r.X0, .int .i64 r.Y0, .int .i64 r.X1, .int .i64 r.Y1], .slice A l.length cap, .int .i64 z] w (RmE (RoomIs r l z) w) := by
  have HR := Lib.hid (fun w' (h : Below w.heap.size w w') => kareR_any r A cap l w' (hl.below h))
  have HH := Lib.hid (fun w' => kheight_any z w')
  have HT : Hid (ArgOk r l → 0 ≤ z → z ≤ 4096 → ∀ w', Below w.heap.size w w' → Calls Tryz.prog 67 #[.agg #[.int .i64 r.X0, .int .i64 r.Y0, .int .i64 r.X1, .int .i64 r.Y1], .slice A l.length cap, .int .i64 z] w' (RmIs (roomS r l z) w')) := Lib.hid (fun ha h0 h1 w' h => kroom_any r A cap l z w' (hl.below h) ha h0 h1)
  clear hl
  have B0 : Hid (Below w.heap.size w (w.alloc (.cells #[.int .i64 r.X0, .int .i64 r.Y0, .int .i64 r.X1, .int .i64 r.Y1] 33))) := Lib.hid (by (repeat' first | exact Below.refl _ _ | assumption | (apply below_drewN) | (refine Below.setCell ?_ (by (try simp); (try omega)) _) | (refine Below.alloc ?_ (by (try simp); (try omega)) _) | (refine Below.trans ?_ (Below.mono (Hid.out (by assumption)) (by (try simp); (try omega))))))
  have K0 : Hid (RcAt (w.alloc (.cells #[.int .i64 r.X0, .int .i64 r.Y0, .int .i64 r.X1, .int .i64 r.Y1] 33)) w.heap.size r) := Lib.hid (RcAt.new w r _ rfl)
  have k0 := K0.out.cell0; have k1 := K0.out.cell1; have k2 := K0.out.cell2; have k3 := K0.out.cell3; have kl := K0.out.lt
  by_cases c : ArgOk r l
  · rw [decide_eq_true c] at HR
    by_cases d : 0 ≤ z ∧ z ≤ 4096
    · rw [decide_eq_true d] at HH
      have HRS : Hid (RoomIs r l z = (roomS r l z, 0)) := Lib.hid (by unfold RoomIs; rw [if_pos c, if_pos d])
      replace HT := Lib.hid (HT.out c d.1 d.2)
      clear c d
      generalize roomS r l z = F at *
      go_enter Tryz.func18, Tryz.ntmps18
      go_wp2_with fail
      generalize World.alloc w _ = w0 at *
      refine (HR.out _ B0.out).mono ?_
      rintro e w1 ⟨rfl, hb⟩
      have B1 := Lib.hid (B0.out.trans (hb.mono B0.out.size)); have K1 := Lib.hid (K0.out.below hb kl); clear hb K0 B0 HR k0 k1 k2 k3 kl
      go_wp2_with fail
      refine (HH.out _).mono ?_
      rintro e w2 ⟨rfl, hb⟩
      have B2 := Lib.hid (B1.out.trans (hb.mono B1.out.size)); have K2 := Lib.hid (K1.out.below hb K1.out.lt); clear hb K1 B1 HH
      have k0 := K2.out.cell0; have k1 := K2.out.cell1; have k2 := K2.out.cell2; have k3 := K2.out.cell3; have kl := K2.out.lt
      go_wp2_with fail
      refine (HT.out _ B2.out).mono ?_
      rintro e w3 ⟨A3, rfl, hr, hb⟩
      have B3 := Lib.hid (B2.out.trans (hb.mono B2.out.size)); have H3 := Lib.hid hr; clear hb hr K2 B2 HT k0 k1 k2 k3 kl
      go_wp2_with fail
      go_ret2
      exact RmE.of HRS.out rfl rfl rfl H3.out B3.out
    · rw [decide_eq_false d] at HH
      have HRS : Hid (RoomIs r l z = ([], 3)) := Lib.hid (by unfold RoomIs; rw [if_pos c, if_neg d])
      clear c d HT
      go_enter Tryz.func18, Tryz.ntmps18
      go_wp2_with fail
      generalize World.alloc w _ = w0 at *
      refine (HR.out _ B0.out).mono ?_
      rintro e w1 ⟨rfl, hb⟩
      have B1 := Lib.hid (B0.out.trans (hb.mono B0.out.size)); clear hb K0 B0 HR k0 k1 k2 k3 kl
      go_wp2_with fail
      refine (HH.out _).mono ?_
      rintro e w2 ⟨rfl, hb⟩
      have B2 := Lib.hid (B1.out.trans (hb.mono B1.out.size)); clear hb B1 HH
      go_wp2_with fail
      go_ret2
      exact RmE.of HRS.out rfl rfl rfl (RRow.nil _ _) B2.out
  · rw [decide_eq_false c] at HR
    have HRS : Hid (RoomIs r l z = ([], 1)) := Lib.hid (by unfold RoomIs; rw [if_neg c])
    clear c HT HH
    go_enter Tryz.func18, Tryz.ntmps18
    go_wp2_with fail
    generalize World.alloc w _ = w0 at *
    refine (HR.out _ B0.out).mono ?_
    rintro e w1 ⟨rfl, hb⟩
    have B1 := Lib.hid (B0.out.trans (hb.mono B0.out.size)); clear hb K0 B0 HR k0 k1 k2 k3 kl
    go_wp2_with fail
    go_ret2
    exact RmE.of HRS.out rfl rfl rfl (RRow.nil _ _) B1.out
/-! ### the least height over an area -/
def Lw8 (ga gb : Nat) (r b : Rc) (W w' : World) : Prop := w'.cell? ⟨ga, 0, none⟩ = some (.int .i64 r.X0) ∧ w'.cell? ⟨ga, 1, none⟩ = some (.int .i64 r.Y0) ∧ w'.cell? ⟨ga, 2, none⟩ = some (.int .i64 r.X1) ∧ w'.cell? ⟨ga, 3, none⟩ = some (.int .i64 r.Y1) ∧ w'.cell? ⟨gb, 0, none⟩ = some (.int .i64 b.X0) ∧ w'.cell? ⟨gb, 1, none⟩ = some (.int .i64 b.Y0) ∧ w'.cell? ⟨gb, 2, none⟩ = some (.int .i64 b.X1) ∧ w'.cell? ⟨gb, 3, none⟩ = some (.int .i64 b.Y1) ∧ ga < w'.heap.size ∧ gb < w'.heap.size ∧ Hid (Below W.heap.size W w')
theorem Lw8.go {ga gb : Nat} {r b : Rc} {W w w' : World} (h : Lw8 ga gb r b W w) (hb : Below w.heap.size w w') : Lw8 ga gb r b W w' := by
  obtain ⟨c0, c1, c2, c3, d0, d1, d2, d3, l1, l2, h5⟩ := h
  have wc := fun o => hb.cell (p := ⟨ga, o, none⟩) l1
  have wd := fun o => hb.cell (p := ⟨gb, o, none⟩) l2
  exact ⟨(wc _).trans c0, (wc _).trans c1, (wc _).trans c2, (wc _).trans c3, (wd _).trans d0, (wd _).trans d1, (wd _).trans d2, (wd _).trans d3, Nat.lt_of_lt_of_le l1 hb.size, Nat.lt_of_lt_of_le l2 hb.size, Lib.hid (h5.out.trans (hb.mono h5.out.size))⟩
theorem Lw8.drewN {ga gb : Nat} {r b : Rc} {W w : World} (h : Lw8 ga gb r b W w) (n : Nat) : Lw8 ga gb r b W (w.drewN n) := h.go (below_drewN (Below.refl _ _) n)
set_option maxHeartbeats 16000000 in
theorem klow_any (r : Rc) (A : Option Addr) (cap : Nat) (l : List Pl) (A2 : Option Addr) (c2 : Nat) (a : List Rc) (w : World) (hl : PlIn w A cap l) (ha : ArgOk r l) (hr : RIn w A2 c2 a) (hreg : RegP a) (hne : a ≠ []) :
    Calls Tryz.prog 65 #[.agg #[.int .i64 r.X0, .int .i64 r.Y0, .int .i64 r.X1, .int .i64 r.Y1], .slice A l.length cap, .slice A2 a.length c2] w (InIs (lowS r l a) w) := by
  have HGB := Lib.hid (fun w' (h : Below w.heap.size w w') => gbounds_any A2 c2 a w' (hr.below h))
  have hf := form_ok hreg.1
  have hb2 := bounds_is hf hne
  have hbo := ((bounds_of a).1 hb2).1
  rw [show boundsG a = boundsR a from if_pos hreg] at HGB
  have HE : Hid (lowS r l a = min (topH r l (boundsR a).1.X0 (boundsR a).1.Y0) (topH r l ((boundsR a).1.X1 - 1) ((boundsR a).1.Y1 - 1))) := Lib.hid rfl
  generalize boundsR a = bx at *
  obtain ⟨b, bb⟩ := bx
  simp only [] at hb2 hbo HE
  subst hb2
  obtain ⟨⟨b0, b1, b2⟩, b3, b4, b5⟩ := hbo
  have HT1 := Lib.hid (fun w' (h : Below w.heap.size w w') => ktop_any r A cap l b.X0 b.Y0 w' (hl.below h) ha ⟨by omega, by omega⟩)
  have HT2 := Lib.hid (fun w' (h : Below w.heap.size w w') => ktop_any r A cap l (b.X1 - 1) (b.Y1 - 1) w' (hl.below h) ha ⟨by omega, by omega⟩)
  have q0 : IntKind.i64.wrap (b.X1 - 1) = b.X1 - 1 := IntWalk.i64_in _ (by omega)
  have q1 : IntKind.i64.wrap (b.Y1 - 1) = b.Y1 - 1 := IntWalk.i64_in _ (by omega)
  generalize topH r l b.X0 b.Y0 = t1 at *
  generalize topH r l (b.X1 - 1) (b.Y1 - 1) = t2 at *
  obtain ⟨xm, hxm⟩ : ∃ xm, b.X1 - 1 = xm := ⟨_, rfl⟩
  obtain ⟨ym, hym⟩ : ∃ ym, b.Y1 - 1 = ym := ⟨_, rfl⟩
  rw [hxm, hym] at HT2
  replace q0 := q0.trans hxm
  replace q1 := q1.trans hym
  clear hxm hym hl ha hr hreg hne hf b0 b1 b2 b3 b4 b5
  have B0 : Hid (Below w.heap.size w (w.alloc (.cells #[.int .i64 r.X0, .int .i64 r.Y0, .int .i64 r.X1, .int .i64 r.Y1] 33))) := Lib.hid (by (repeat' first | exact Below.refl _ _ | assumption | (apply below_drewN) | (refine Below.setCell ?_ (by (try simp); (try omega)) _) | (refine Below.alloc ?_ (by (try simp); (try omega)) _) | (refine Below.trans ?_ (Below.mono (Hid.out (by assumption)) (by (try simp); (try omega))))))
  have K0 : Hid (RcAt (w.alloc (.cells #[.int .i64 r.X0, .int .i64 r.Y0, .int .i64 r.X1, .int .i64 r.Y1] 33)) w.heap.size r) := Lib.hid (RcAt.new w r _ rfl)
  have kl := K0.out.lt
  go_enter Tryz.func65, Tryz.ntmps65
  go_wp2_with fail
  generalize World.alloc w _ = w0 at *
  refine (HGB.out _ B0.out).mono ?_
  rintro e w1 ⟨rfl, hb⟩
  have B1 := Lib.hid (B0.out.trans (hb.mono B0.out.size)); have K1 := Lib.hid (K0.out.below hb kl); clear hb K0 B0 HGB kl
  have ba := (Below.refl w1.heap.size w1).alloc (Nat.le_refl _) (.cells #[.int .i64 b.X0, .int .i64 b.Y0, .int .i64 b.X1, .int .i64 b.Y1] 33)
  have K2 := Lib.hid (K1.out.below ba K1.out.lt)
  have N2 := Lib.hid (RcAt.new w1 b _ rfl)
  have B2 := Lib.hid (B1.out.trans (ba.mono B1.out.size)); clear ba K1 B1
  go_wp2_with fail
  generalize World.alloc w1 _ = w2 at *
  generalize w1.heap.size = gb at *
  have E2 : Hid (Lw8 w.heap.size gb r b w w2) := Lib.hid ⟨K2.out.cell0, K2.out.cell1, K2.out.cell2, K2.out.cell3, N2.out.cell0, N2.out.cell1, N2.out.cell2, N2.out.cell3, K2.out.lt, N2.out.lt, B2⟩
  clear K2 N2 B2
  go_region_held3 (fun w' => w'.cell? ⟨w.heap.size, 0, none⟩ = some (.int .i64 r.X0) ∧ w'.cell? ⟨w.heap.size, 1, none⟩ = some (.int .i64 r.Y0) ∧ w'.cell? ⟨w.heap.size, 2, none⟩ = some (.int .i64 r.X1) ∧ w'.cell? ⟨w.heap.size, 3, none⟩ = some (.int .i64 r.Y1) ∧ w'.cell? ⟨gb, 0, none⟩ = some (.int .i64 b.X0) ∧ w'.cell? ⟨gb, 1, none⟩ = some (.int .i64 b.Y0) ∧ w'.cell? ⟨gb, 2, none⟩ = some (.int .i64 b.X1) ∧ w'.cell? ⟨gb, 3, none⟩ = some (.int .i64 b.Y1) ∧ w.heap.size < w'.heap.size ∧ gb < w'.heap.size ∧ Hid (Below w.heap.size w w'))
    (first | exact E2.out | exact Lw8.drewN E2.out 1 | exact Lw8.go ‹_› ‹_› | assumption)
    (first
      | (go_at_call 78; (with_reducible refine Calls.mono (HT1.out _ ?_) ?_); (exact (show Lw8 w.heap.size gb r b w _ from (by first | assumption | exact Lw8.drewN E2.out 1)).2.2.2.2.2.2.2.2.2.2.out); rintro e w' ⟨rfl, hb⟩)
      | (go_at_call 78; (with_reducible refine Calls.mono (HT2.out _ ?_) ?_); (exact (show Lw8 w.heap.size gb r b w _ from (by first | assumption | exact Lw8.drewN E2.out 1)).2.2.2.2.2.2.2.2.2.2.out); rintro e w' ⟨rfl, hb⟩)
      | fail)
  all_goals
    have E3 : Lw8 w.heap.size gb r b w w' := by assumption
    have HB := E3.2.2.2.2.2.2.2.2.2.2
    clear E3
    go_wp2_with fail
    go_ret
    exact InIs.of HE.out.symm HB.out
end Go.Proofs.YtppomhgknhmceaaGreat
