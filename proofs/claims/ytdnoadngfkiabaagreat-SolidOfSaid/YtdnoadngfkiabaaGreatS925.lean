/-
  Contracts of the reference of layer 6 (4): edges.
-/
import Derived.Test.YtdnoadngfkiabaaGreatS920
import Derived.BigQuiet
import Derived.Deep.AppendLies
import Derived.Deep.RegionHeld3
set_option linter.unusedVariables false
set_option maxRecDepth 100000
namespace Go.Proofs.YtdnoadngfkiabaaGreat
open Go.RowKit

theorem OwnI.widen {v : Value} {l : List Int} {w w1 w2 : World} (h : OwnI v l w1 w2) (hb : Below w.heap.size w w1) : OwnI v l w w2 := by
  refine ⟨?_, hb.trans (h.bel.mono hb.size)⟩
  obtain ⟨h1, h2⟩ := h.own
  refine ⟨h1, ?_⟩
  rcases h2 with h2 | ⟨g, cap, cur, h3, hB, h4⟩
  · exact Or.inl h2
  · exact Or.inr ⟨g, cap, cur, h3, Nat.le_trans hb.size hB, h4⟩
theorem vsides_next (l : List Rc) (k : Nat) (h : k < l.length) : sides (l.take (k + 1)) = sides (l.take k) ++ [l[k].X0, l[k].X1] := by
  rw [List.take_succ_eq_append_getElem h]; unfold sides; rw [List.flatMap_append]; rfl
theorem vsides_len (l : List Rc) : (sides l).length = 2 * l.length := by
  induction l with
  | nil => rfl
  | cons r l ih => have e : sides (r :: l) = r.X0 :: r.X1 :: sides l := rfl; rw [e, List.length_cons, List.length_cons, ih, List.length_cons]; omega
theorem icells_two (l : List Int) (x y : Int) : icells (l ++ [x, y]) = icells l ++ [.int .i64 x, .int .i64 y] := by simp [icells]
/-- what the region of a round reads. -/
def R2 (b p q : Nat) (xa xb : Int) (w : World) : Prop := w.cell? ⟨b, p, none⟩ = some (.int .i64 xa) ∧ w.cell? ⟨b, q, none⟩ = some (.int .i64 xb) ∧ b < w.heap.size
theorem R2.go {b p q : Nat} {xa xb : Int} {w w' : World} (h : R2 b p q xa xb w) (hb : Below w.heap.size w w') : R2 b p q xa xb w' := by
  obtain ⟨h0, h1, l0⟩ := h
  exact ⟨(hb.cell (p := ⟨b, p, none⟩) l0).trans h0, (hb.cell (p := ⟨b, q, none⟩) l0).trans h1, Nat.lt_of_lt_of_le l0 hb.size⟩
theorem R2.drewN {b p q : Nat} {xa xb : Int} {w : World} (h : R2 b p q xa xb w) (n : Nat) : R2 b p q xa xb (w.drewN n) := h.go (below_drewN (Below.refl _ _) n)
theorem R2.grow {b p q : Nat} {xa xb : Int} {w w' : World} {row : Option Nat} (h : R2 b p q xa xb w) (hg : w.grownBy w' row) (hn : ∀ g, row = some g → g ≠ b) : R2 b p q xa xb w' := by
  obtain ⟨h0, h1, l0⟩ := h
  have e0 : ∀ o, w'.cell? ⟨b, o, none⟩ = w.cell? ⟨b, o, none⟩ := fun o => World.cell?_of_block (hg.block b l0 (fun e => hn b e.symm rfl))
  exact ⟨(e0 _).trans h0, (e0 _).trans h1, Nat.lt_of_lt_of_le l0 hg.size⟩
theorem OwnI.grow2 {v v' : Value} {X X' : List Int} {w wr w' : World} (h : OwnI v X w wr) (ho : w'.ownsRow w.heap.size 3 1 v' X'.length (icells X')) (hg : wr.grownBy w' v.ownBlock) : OwnI v' X' w w' :=
  ⟨ho, Below.grown h.bel hg h.bel.size (fun k hk => (h.own.lt k hk).1)⟩
set_option maxHeartbeats 40000000 in
theorem vedges_any (A1 : Option Addr) (k1 : Nat) (A2 : Option Addr) (k2 : Nat) (a b : List Rc) (w : World) (h1 : RRow w A1 a) (h2 : RRow w A2 b) (ha : a.length ≤ 268435456) (hb : b.length ≤ 268435456) :
    Calls Tryz.prog 70 #[.slice A1 a.length k1, .slice A2 b.length k2] w fun e w' => ∃ v, e = .returned v ∧ OwnI v (sortS (sides a ++ sides b)) w w' := by
  obtain ⟨i0, hi9, hz0, hz1, hz2⟩ := info_parts infoInt
  have H1 := Lib.hid h1; clear h1
  have H2 := Lib.hid h2; clear h2
  have K0 : Hid (OwnI (.slice none 0 0) (sides (a.take 0)) w w) := Lib.hid ⟨World.ownsRow_nil _ _ _ _, Below.refl _ _⟩
  go_enter Tryz.func70, Tryz.ntmps70
  go_wp2
  go_loopw [5, 6] (fun v i wr => ∃ (k : Nat) (v0 : Value), k ≤ a.length ∧ i = .int .i64 k ∧ v0 = v ∧ Hid (OwnI v0 (sides (a.take k)) w wr)) (fun _ i _ => a.length - (intOf i).toNat)
  case atStart => exact ⟨0, _, Nat.zero_le _, rfl, rfl, K0⟩
  case round =>
    obtain ⟨k, v0, hk, rfl, rfl, HO⟩ := hrel
    by_cases hlt : k < a.length
    · obtain ⟨b1, o1, rfl, hb1, hv1⟩ := H1.out (by omega)
      obtain ⟨y0, _, y2, _⟩ := hv1 k hlt
      clear hv1
      have j0 : (0 : Int) ≤ (k : Int) := by omega
      have j1 : (k : Int) < (a.length : Int) := by omega
      have hnx : sides (a.take (k + 1)) = sides (a.take k) ++ [a[k].X0, a[k].X1] := by rw [vsides_next a k hlt]
      have hln : (sides (a.take k)).length ≤ 4294967296 := by
        rw [vsides_len]; have := List.length_take_le k a; omega
      obtain ⟨r, hr⟩ : ∃ r, r = a[k] := ⟨_, rfl⟩
      rw [← hr] at y0 y2 hnx
      clear hr
      have HNX := Lib.hid hnx; clear hnx
      obtain ⟨X, hX⟩ : ∃ X, X = sides (a.take k) := ⟨_, rfl⟩
      rw [← hX] at HO HNX hln
      clear hX
      obtain ⟨xa, hxa⟩ : ∃ xa, xa = r.X0 := ⟨_, rfl⟩
      obtain ⟨xb, hxb⟩ : ∃ xb, xb = r.X1 := ⟨_, rfl⟩
      rw [← hxa] at y0 HNX; rw [← hxb] at y2 HNX
      clear hxa hxb
      have HR : Hid (R2 b1 (o1 + k * 4) (o1 + k * 4 + 2) xa xb wr) := Lib.hid ⟨(HO.out.bel.cell (p := ⟨b1, o1 + k * 4, none⟩) hb1).trans y0, (HO.out.bel.cell (p := ⟨b1, o1 + k * 4 + 2, none⟩) hb1).trans y2, Nat.lt_of_lt_of_le hb1 HO.out.bel.size⟩
      have hb2 : Below wr.heap.size wr (wr.drew.alloc (.cells #[.int .i64 xa, .int .i64 xb] 3)) := (below_drewN (Below.refl _ _) 1).alloc (Nat.le_refl _) _
      have HO2 := Lib.hid (HO.out.below hb2)
      have HOWN := Lib.hid HO2.out.own
      have HSZ := Lib.hid HO2.out.bel.size
      have HAP : Hid (∀ g, v0.ownBlock = some g → g ≠ b1) := Lib.hid (fun g hg => by have := (HO.out.own.lt g hg).1; omega)
      have HGROW : Hid (∀ v6 w6, w6.ownsRow w.heap.size 3 1 v6 (X.length + 2) (icells X ++ [.int .i64 xa, .int .i64 xb]) → (wr.drew.alloc (.cells #[.int .i64 xa, .int .i64 xb] 3)).grownBy w6 v0.ownBlock → OwnI v6 (sides (a.take (k + 1))) w w6) := Lib.hid (fun v6 w6 h1 h2 => by
        rw [HNX.out]
        refine HO2.out.grow2 ?_ h2
        rw [icells_two, List.length_append]; exact h1)
      clear hb2 HO2 HO y0 y2
      go_wp2_with fail
      refine wp_region_held_drew (S := fun w' => w'.cell? ⟨b1, o1 + k * 4, none⟩ = some (.int .i64 xa) ∧ w'.cell? ⟨b1, o1 + k * 4 + 2, none⟩ = some (.int .i64 xb) ∧ b1 < w'.heap.size) (by kernel_rfl) ?_ (fun hHeld => ?_)
      · exact R2.drewN HR.out 1
      refine wpAnyH_take (i := 0) (oi := { dst := some 14, op := Go.Op.move (Go.Operand.tmp 5), type := 51, pos := "ref.go:35", after := #[], guard := none }) (v := ?_) rfl (by kernel_rfl) (by kernel_rfl) (by kernel_rfl) (fun _ _ _ h => h) (Or.inl ⟨by rfl, ?_⟩) (by assumption) ?_
      rotate_left
      · (intro w hSw; (try dsimp only at hSw); go_simp); try with_reducible rfl
      try simp only [Act.put, List.setIfInBounds_toArray, List.set_cons_zero, List.set_cons_succ]
      refine wpAnyH_take (i := 1) (oi := { dst := some 15, op := Go.Op.move (Go.Operand.tmp 0), type := 37, pos := "ref.go:35", after := #[], guard := none }) (v := ?_) rfl (by kernel_rfl) (by kernel_rfl) (by kernel_rfl) (fun _ _ _ h => h) (Or.inl ⟨by rfl, ?_⟩) (by assumption) ?_
      rotate_left
      · (intro w hSw; (try dsimp only at hSw); go_simp); try with_reducible rfl
      try simp only [Act.put, List.setIfInBounds_toArray, List.set_cons_zero, List.set_cons_succ]
      refine wpAnyH_take (i := 2) (oi := { dst := some 16, op := Go.Op.move (Go.Operand.tmp 6), type := 3, pos := "ref.go:35", after := #[], guard := none }) (v := ?_) rfl (by kernel_rfl) (by kernel_rfl) (by kernel_rfl) (fun _ _ _ h => h) (Or.inl ⟨by rfl, ?_⟩) (by assumption) ?_
      rotate_left
      · (intro w hSw; (try dsimp only at hSw); go_simp); try with_reducible rfl
      try simp only [Act.put, List.setIfInBounds_toArray, List.set_cons_zero, List.set_cons_succ]
      refine wpAnyH_take (i := 3) (oi := { dst := some 17, op := Go.Op.indexAddr 37 (Go.Operand.tmp 15) (Go.Operand.tmp 16), type := 0, pos := "ref.go:35", after := #[{ on := 1, ground := Go.Ground.data }, { on := 2, ground := Go.Ground.data }], guard := none }) (v := ?_) rfl (by kernel_rfl) (by kernel_rfl) (by kernel_rfl) (fun _ _ _ h => h) (Or.inl ⟨by rfl, ?_⟩) (by assumption) ?_
      rotate_left
      · (intro w hSw; (try dsimp only at hSw); go_simp); try with_reducible rfl
      try simp only [Act.put, List.setIfInBounds_toArray, List.set_cons_zero, List.set_cons_succ]
      refine wpAnyH_take (i := 4) (oi := { dst := some 18, op := Go.Op.fieldAddr 33 (Go.Operand.tmp 17) 0, type := 0, pos := "ref.go:35", after := #[{ on := 3, ground := Go.Ground.data }], guard := none }) (v := ?_) rfl (by kernel_rfl) (by kernel_rfl) (by kernel_rfl) (fun _ _ _ h => h) (Or.inl ⟨by rfl, ?_⟩) (by assumption) ?_
      rotate_left
      · (intro w hSw; (try dsimp only at hSw); go_simp); try with_reducible rfl
      try simp only [Act.put, List.setIfInBounds_toArray, List.set_cons_zero, List.set_cons_succ]
      refine wpAnyH_take (i := 5) (oi := { dst := some 19, op := Go.Op.load 3 (Go.Operand.tmp 18), type := 3, pos := "ref.go:35", after := #[{ on := 4, ground := Go.Ground.data }], guard := none }) (v := ?_) rfl (by kernel_rfl) (by kernel_rfl) (by kernel_rfl) (fun _ _ _ h => h) (Or.inl ⟨by rfl, ?_⟩) (by assumption) ?_
      rotate_left
      · (intro w hSw; (try dsimp only at hSw); go_simp); try with_reducible rfl
      try simp only [Act.put, List.setIfInBounds_toArray, List.set_cons_zero, List.set_cons_succ]
      refine wpAnyH_take (i := 6) (oi := { dst := some 20, op := Go.Op.move (Go.Operand.tmp 0), type := 37, pos := "ref.go:35", after := #[], guard := none }) (v := ?_) rfl (by kernel_rfl) (by kernel_rfl) (by kernel_rfl) (fun _ _ _ h => h) (Or.inl ⟨by rfl, ?_⟩) (by assumption) ?_
      rotate_left
      · (intro w hSw; (try dsimp only at hSw); go_simp); try with_reducible rfl
      try simp only [Act.put, List.setIfInBounds_toArray, List.set_cons_zero, List.set_cons_succ]
      refine wpAnyH_take (i := 7) (oi := { dst := some 21, op := Go.Op.move (Go.Operand.tmp 6), type := 3, pos := "ref.go:35", after := #[], guard := none }) (v := ?_) rfl (by kernel_rfl) (by kernel_rfl) (by kernel_rfl) (fun _ _ _ h => h) (Or.inl ⟨by rfl, ?_⟩) (by assumption) ?_
      rotate_left
      · (intro w hSw; (try dsimp only at hSw); go_simp); try with_reducible rfl
      try simp only [Act.put, List.setIfInBounds_toArray, List.set_cons_zero, List.set_cons_succ]
      refine wpAnyH_take (i := 8) (oi := { dst := some 22, op := Go.Op.indexAddr 37 (Go.Operand.tmp 20) (Go.Operand.tmp 21), type := 0, pos := "ref.go:35", after := #[{ on := 6, ground := Go.Ground.data }, { on := 7, ground := Go.Ground.data }], guard := none }) (v := ?_) rfl (by kernel_rfl) (by kernel_rfl) (by kernel_rfl) (fun _ _ _ h => h) (Or.inl ⟨by rfl, ?_⟩) (by assumption) ?_
      rotate_left
      · (intro w hSw; (try dsimp only at hSw); go_simp); try with_reducible rfl
      try simp only [Act.put, List.setIfInBounds_toArray, List.set_cons_zero, List.set_cons_succ]
      refine wpAnyH_take (i := 9) (oi := { dst := some 23, op := Go.Op.fieldAddr 33 (Go.Operand.tmp 22) 2, type := 0, pos := "ref.go:35", after := #[{ on := 8, ground := Go.Ground.data }], guard := none }) (v := ?_) rfl (by kernel_rfl) (by kernel_rfl) (by kernel_rfl) (fun _ _ _ h => h) (Or.inl ⟨by rfl, ?_⟩) (by assumption) ?_
      rotate_left
      · (intro w hSw; (try dsimp only at hSw); go_simp); try with_reducible rfl
      try simp only [Act.put, List.setIfInBounds_toArray, List.set_cons_zero, List.set_cons_succ]
      refine wpAnyH_take (i := 10) (oi := { dst := some 24, op := Go.Op.load 3 (Go.Operand.tmp 23), type := 3, pos := "ref.go:35", after := #[{ on := 9, ground := Go.Ground.data }], guard := none }) (v := ?_) rfl (by kernel_rfl) (by kernel_rfl) (by kernel_rfl) (fun _ _ _ h => h) (Or.inl ⟨by rfl, ?_⟩) (by assumption) ?_
      rotate_left
      · (intro w hSw; (try dsimp only at hSw); go_simp); try with_reducible rfl
      try simp only [Act.put, List.setIfInBounds_toArray, List.set_cons_zero, List.set_cons_succ]
      refine wpAnyH_ready (rs := [11]) (by kernel_rfl) (by simp) ?_
      refine AllReadyH.cons (o := { dst := some 25, op := Go.Op.buildSlice 51 2 #[(0, Go.Operand.tmp 19), (1, Go.Operand.tmp 24)], type := 51, pos := "ref.go:35", after := #[{ on := 5, ground := Go.Ground.data }, { on := 10, ground := Go.Ground.data }], guard := none }) rfl (fun Kx hKx => ?_) AllReadyH.nil
      go_simp
      refine hKx.out _ _ (R2.go ‹_› ((Below.refl _ _).alloc (Nat.le_refl _) _)) (fun hHeld2 => ?_)
      clear hKx Kx hHeld
      have hHeld := hHeld2; clear hHeld2
      try simp only [Act.put, List.setIfInBounds_toArray, List.set_cons_zero, List.set_cons_succ]
      refine wpAnyH_ready (rs := [12]) (by kernel_rfl) (by simp) ?_
      refine AllReadyH.cons (o := { dst := some 26, op := Go.Op.call { callee := Go.Callee.builtin Go.Builtin.append, args := #[Go.Operand.tmp 14, Go.Operand.tmp 25], argTypes := #[51, 51] }, type := 51, pos := "ref.go:35", after := #[{ on := 0, ground := Go.Ground.data }, { on := 11, ground := Go.Ground.data }], guard := none }) rfl (fun Kx hKx => ?_) AllReadyH.nil
      try simp only [Act.put, List.setIfInBounds_toArray, List.set_cons_zero, List.set_cons_succ]
      refine wp_append_own _ (Operand.tmp 14) (Operand.tmp 25) 51 rfl w.heap.size 3 i0 (.int .i64 0) 1 8 Tryz.underlying51 hi9 hz0 hz1 hz2 rfl (by decide) v0 X.length (icells X) rfl HOWN.out ⟨wr.drew.heap.size, 0, none⟩ 2 2 [.int .i64 xa, .int .i64 xb] rfl rfl ?d1 ?d2 ?d3 ?d4 ?d5 ?_
      case d1 => exact World.news_of_block (cs := #[.int .i64 xa, .int .i64 xb]) (t := 3) (fr := (0, 0)) (heap_alloc_new wr.drew _)
      case d2 => intro u hu; simp only [List.mem_cons, List.not_mem_nil, or_false] at hu; rcases hu with rfl | rfl <;> rfl
      case d3 => unfold maxLen; omega
      case d4 => omega
      case d5 => exact HSZ.out
      intro v6 w6 hown6 hgr6 _
      have HW6 := Lib.hid (HGROW.out v6 w6 hown6 hgr6)
      refine hKx.out _ _ (R2.grow ‹_› hgr6 HAP.out) (fun hHeld2 => ?_)
      clear hKx Kx hHeld hown6 hgr6
      have hHeld := hHeld2; clear hHeld2
      try simp only [Act.put, List.setIfInBounds_toArray, List.set_cons_zero, List.set_cons_succ]
      refine wpAnyH_take (i := 13) (oi := { dst := some 5, op := Go.Op.assign (Go.Operand.tmp 26), type := 51, pos := "ref.go:35", after := #[{ on := 12, ground := Go.Ground.data }, { on := 12, ground := Go.Ground.chain }, { on := 0, ground := Go.Ground.phase }, { on := 1, ground := Go.Ground.phase }, { on := 2, ground := Go.Ground.phase }, { on := 3, ground := Go.Ground.phase }, { on := 4, ground := Go.Ground.phase }, { on := 5, ground := Go.Ground.phase }, { on := 6, ground := Go.Ground.phase }, { on := 7, ground := Go.Ground.phase }, { on := 8, ground := Go.Ground.phase }, { on := 9, ground := Go.Ground.phase }, { on := 10, ground := Go.Ground.phase }, { on := 11, ground := Go.Ground.phase }, { on := 12, ground := Go.Ground.phase }], guard := none }) (v := ?_) rfl (by kernel_rfl) (by kernel_rfl) (by kernel_rfl) (fun _ _ _ h => h) (Or.inl ⟨by rfl, ?_⟩) (by assumption) ?_
      rotate_left
      · (intro w hSw; (try dsimp only at hSw); go_simp); try with_reducible rfl
      try simp only [Act.put, List.setIfInBounds_toArray, List.set_cons_zero, List.set_cons_succ]
      refine wpAnyH_done (by kernel_rfl) ?_ _
      go_wp2_with fail
      go_roundw
      case rel => exact ⟨k + 1, v6, by omega, by go_num, rfl, HW6⟩
      case measure => simp [intOf]; omega
    · obtain rfl : k = a.length := by omega
      rw [List.take_length] at HO
      have K1 : Hid (OwnI v0 (sides a ++ sides (b.take 0)) w wr) := Lib.hid (by rw [show sides (b.take 0) = [] from rfl, List.append_nil]; exact HO.out)
      clear HO
      go_wp2_with fail
      go_loopw [5, 7] (fun v i wr => ∃ (k : Nat) (v0 : Value), k ≤ b.length ∧ i = .int .i64 k ∧ v0 = v ∧ Hid (OwnI v0 (sides a ++ sides (b.take k)) w wr)) (fun _ i _ => b.length - (intOf i).toNat)
      case atStart => exact ⟨0, _, Nat.zero_le _, rfl, rfl, K1⟩
      case round =>
        obtain ⟨k, v0, hk, rfl, rfl, HO⟩ := hrel
        by_cases hlt : k < b.length
        · obtain ⟨b1, o1, rfl, hb1, hv1⟩ := H2.out (by omega)
          obtain ⟨y0, _, y2, _⟩ := hv1 k hlt
          clear hv1
          have j0 : (0 : Int) ≤ (k : Int) := by omega
          have j1 : (k : Int) < (b.length : Int) := by omega
          have hnx : sides a ++ sides (b.take (k + 1)) = sides a ++ sides (b.take k) ++ [b[k].X0, b[k].X1] := by rw [vsides_next b k hlt, ← List.append_assoc]
          have hln : (sides a ++ sides (b.take k)).length ≤ 4294967296 := by
            rw [List.length_append, vsides_len, vsides_len]; have := List.length_take_le k b; omega
          obtain ⟨r, hr⟩ : ∃ r, r = b[k] := ⟨_, rfl⟩
          rw [← hr] at y0 y2 hnx
          clear hr
          have HNX := Lib.hid hnx; clear hnx
          obtain ⟨X, hX⟩ : ∃ X, X = sides a ++ sides (b.take k) := ⟨_, rfl⟩
          rw [← hX] at HO HNX hln
          clear hX
          obtain ⟨xa, hxa⟩ : ∃ xa, xa = r.X0 := ⟨_, rfl⟩
          obtain ⟨xb, hxb⟩ : ∃ xb, xb = r.X1 := ⟨_, rfl⟩
          rw [← hxa] at y0 HNX; rw [← hxb] at y2 HNX
          clear hxa hxb
          have HR : Hid (R2 b1 (o1 + k * 4) (o1 + k * 4 + 2) xa xb wr) := Lib.hid ⟨(HO.out.bel.cell (p := ⟨b1, o1 + k * 4, none⟩) hb1).trans y0, (HO.out.bel.cell (p := ⟨b1, o1 + k * 4 + 2, none⟩) hb1).trans y2, Nat.lt_of_lt_of_le hb1 HO.out.bel.size⟩
          have hb2 : Below wr.heap.size wr (wr.drew.alloc (.cells #[.int .i64 xa, .int .i64 xb] 3)) := (below_drewN (Below.refl _ _) 1).alloc (Nat.le_refl _) _
          have HO2 := Lib.hid (HO.out.below hb2)
          have HOWN := Lib.hid HO2.out.own
          have HSZ := Lib.hid HO2.out.bel.size
          have HAP : Hid (∀ g, v0.ownBlock = some g → g ≠ b1) := Lib.hid (fun g hg => by have := (HO.out.own.lt g hg).1; omega)
          have HGROW : Hid (∀ v6 w6, w6.ownsRow w.heap.size 3 1 v6 (X.length + 2) (icells X ++ [.int .i64 xa, .int .i64 xb]) → (wr.drew.alloc (.cells #[.int .i64 xa, .int .i64 xb] 3)).grownBy w6 v0.ownBlock → OwnI v6 (sides a ++ sides (b.take (k + 1))) w w6) := Lib.hid (fun v6 w6 h1 h2 => by
            rw [HNX.out]
            refine HO2.out.grow2 ?_ h2
            rw [icells_two, List.length_append]; exact h1)
          clear hb2 HO2 HO y0 y2
          go_wp2_with fail
          refine wp_region_held_drew (S := fun w' => w'.cell? ⟨b1, o1 + k * 4, none⟩ = some (.int .i64 xa) ∧ w'.cell? ⟨b1, o1 + k * 4 + 2, none⟩ = some (.int .i64 xb) ∧ b1 < w'.heap.size) (by kernel_rfl) ?_ (fun hHeld => ?_)
          · exact R2.drewN HR.out 1
          refine wpAnyH_take (i := 0) (oi := { dst := some 33, op := Go.Op.move (Go.Operand.tmp 5), type := 51, pos := "ref.go:38", after := #[], guard := none }) (v := ?_) rfl (by kernel_rfl) (by kernel_rfl) (by kernel_rfl) (fun _ _ _ h => h) (Or.inl ⟨by rfl, ?_⟩) (by assumption) ?_
          rotate_left
          · (intro w hSw; (try dsimp only at hSw); go_simp); try with_reducible rfl
          try simp only [Act.put, List.setIfInBounds_toArray, List.set_cons_zero, List.set_cons_succ]
          refine wpAnyH_take (i := 1) (oi := { dst := some 34, op := Go.Op.move (Go.Operand.tmp 1), type := 37, pos := "ref.go:38", after := #[], guard := none }) (v := ?_) rfl (by kernel_rfl) (by kernel_rfl) (by kernel_rfl) (fun _ _ _ h => h) (Or.inl ⟨by rfl, ?_⟩) (by assumption) ?_
          rotate_left
          · (intro w hSw; (try dsimp only at hSw); go_simp); try with_reducible rfl
          try simp only [Act.put, List.setIfInBounds_toArray, List.set_cons_zero, List.set_cons_succ]
          refine wpAnyH_take (i := 2) (oi := { dst := some 35, op := Go.Op.move (Go.Operand.tmp 7), type := 3, pos := "ref.go:38", after := #[], guard := none }) (v := ?_) rfl (by kernel_rfl) (by kernel_rfl) (by kernel_rfl) (fun _ _ _ h => h) (Or.inl ⟨by rfl, ?_⟩) (by assumption) ?_
          rotate_left
          · (intro w hSw; (try dsimp only at hSw); go_simp); try with_reducible rfl
          try simp only [Act.put, List.setIfInBounds_toArray, List.set_cons_zero, List.set_cons_succ]
          refine wpAnyH_take (i := 3) (oi := { dst := some 36, op := Go.Op.indexAddr 37 (Go.Operand.tmp 34) (Go.Operand.tmp 35), type := 0, pos := "ref.go:38", after := #[{ on := 1, ground := Go.Ground.data }, { on := 2, ground := Go.Ground.data }], guard := none }) (v := ?_) rfl (by kernel_rfl) (by kernel_rfl) (by kernel_rfl) (fun _ _ _ h => h) (Or.inl ⟨by rfl, ?_⟩) (by assumption) ?_
          rotate_left
          · (intro w hSw; (try dsimp only at hSw); go_simp); try with_reducible rfl
          try simp only [Act.put, List.setIfInBounds_toArray, List.set_cons_zero, List.set_cons_succ]
          refine wpAnyH_take (i := 4) (oi := { dst := some 37, op := Go.Op.fieldAddr 33 (Go.Operand.tmp 36) 0, type := 0, pos := "ref.go:38", after := #[{ on := 3, ground := Go.Ground.data }], guard := none }) (v := ?_) rfl (by kernel_rfl) (by kernel_rfl) (by kernel_rfl) (fun _ _ _ h => h) (Or.inl ⟨by rfl, ?_⟩) (by assumption) ?_
          rotate_left
          · (intro w hSw; (try dsimp only at hSw); go_simp); try with_reducible rfl
          try simp only [Act.put, List.setIfInBounds_toArray, List.set_cons_zero, List.set_cons_succ]
          refine wpAnyH_take (i := 5) (oi := { dst := some 38, op := Go.Op.load 3 (Go.Operand.tmp 37), type := 3, pos := "ref.go:38", after := #[{ on := 4, ground := Go.Ground.data }], guard := none }) (v := ?_) rfl (by kernel_rfl) (by kernel_rfl) (by kernel_rfl) (fun _ _ _ h => h) (Or.inl ⟨by rfl, ?_⟩) (by assumption) ?_
          rotate_left
          · (intro w hSw; (try dsimp only at hSw); go_simp); try with_reducible rfl
          try simp only [Act.put, List.setIfInBounds_toArray, List.set_cons_zero, List.set_cons_succ]
          refine wpAnyH_take (i := 6) (oi := { dst := some 39, op := Go.Op.move (Go.Operand.tmp 1), type := 37, pos := "ref.go:38", after := #[], guard := none }) (v := ?_) rfl (by kernel_rfl) (by kernel_rfl) (by kernel_rfl) (fun _ _ _ h => h) (Or.inl ⟨by rfl, ?_⟩) (by assumption) ?_
          rotate_left
          · (intro w hSw; (try dsimp only at hSw); go_simp); try with_reducible rfl
          try simp only [Act.put, List.setIfInBounds_toArray, List.set_cons_zero, List.set_cons_succ]
          refine wpAnyH_take (i := 7) (oi := { dst := some 40, op := Go.Op.move (Go.Operand.tmp 7), type := 3, pos := "ref.go:38", after := #[], guard := none }) (v := ?_) rfl (by kernel_rfl) (by kernel_rfl) (by kernel_rfl) (fun _ _ _ h => h) (Or.inl ⟨by rfl, ?_⟩) (by assumption) ?_
          rotate_left
          · (intro w hSw; (try dsimp only at hSw); go_simp); try with_reducible rfl
          try simp only [Act.put, List.setIfInBounds_toArray, List.set_cons_zero, List.set_cons_succ]
          refine wpAnyH_take (i := 8) (oi := { dst := some 41, op := Go.Op.indexAddr 37 (Go.Operand.tmp 39) (Go.Operand.tmp 40), type := 0, pos := "ref.go:38", after := #[{ on := 6, ground := Go.Ground.data }, { on := 7, ground := Go.Ground.data }], guard := none }) (v := ?_) rfl (by kernel_rfl) (by kernel_rfl) (by kernel_rfl) (fun _ _ _ h => h) (Or.inl ⟨by rfl, ?_⟩) (by assumption) ?_
          rotate_left
          · (intro w hSw; (try dsimp only at hSw); go_simp); try with_reducible rfl
          try simp only [Act.put, List.setIfInBounds_toArray, List.set_cons_zero, List.set_cons_succ]
          refine wpAnyH_take (i := 9) (oi := { dst := some 42, op := Go.Op.fieldAddr 33 (Go.Operand.tmp 41) 2, type := 0, pos := "ref.go:38", after := #[{ on := 8, ground := Go.Ground.data }], guard := none }) (v := ?_) rfl (by kernel_rfl) (by kernel_rfl) (by kernel_rfl) (fun _ _ _ h => h) (Or.inl ⟨by rfl, ?_⟩) (by assumption) ?_
          rotate_left
          · (intro w hSw; (try dsimp only at hSw); go_simp); try with_reducible rfl
          try simp only [Act.put, List.setIfInBounds_toArray, List.set_cons_zero, List.set_cons_succ]
          refine wpAnyH_take (i := 10) (oi := { dst := some 43, op := Go.Op.load 3 (Go.Operand.tmp 42), type := 3, pos := "ref.go:38", after := #[{ on := 9, ground := Go.Ground.data }], guard := none }) (v := ?_) rfl (by kernel_rfl) (by kernel_rfl) (by kernel_rfl) (fun _ _ _ h => h) (Or.inl ⟨by rfl, ?_⟩) (by assumption) ?_
          rotate_left
          · (intro w hSw; (try dsimp only at hSw); go_simp); try with_reducible rfl
          try simp only [Act.put, List.setIfInBounds_toArray, List.set_cons_zero, List.set_cons_succ]
          refine wpAnyH_ready (rs := [11]) (by kernel_rfl) (by simp) ?_
          refine AllReadyH.cons (o := { dst := some 44, op := Go.Op.buildSlice 51 2 #[(0, Go.Operand.tmp 38), (1, Go.Operand.tmp 43)], type := 51, pos := "ref.go:38", after := #[{ on := 5, ground := Go.Ground.data }, { on := 10, ground := Go.Ground.data }], guard := none }) rfl (fun Kx hKx => ?_) AllReadyH.nil
          go_simp
          refine hKx.out _ _ (R2.go ‹_› ((Below.refl _ _).alloc (Nat.le_refl _) _)) (fun hHeld2 => ?_)
          clear hKx Kx hHeld
          have hHeld := hHeld2; clear hHeld2
          try simp only [Act.put, List.setIfInBounds_toArray, List.set_cons_zero, List.set_cons_succ]
          refine wpAnyH_ready (rs := [12]) (by kernel_rfl) (by simp) ?_
          refine AllReadyH.cons (o := { dst := some 45, op := Go.Op.call { callee := Go.Callee.builtin Go.Builtin.append, args := #[Go.Operand.tmp 33, Go.Operand.tmp 44], argTypes := #[51, 51] }, type := 51, pos := "ref.go:38", after := #[{ on := 0, ground := Go.Ground.data }, { on := 11, ground := Go.Ground.data }], guard := none }) rfl (fun Kx hKx => ?_) AllReadyH.nil
          try simp only [Act.put, List.setIfInBounds_toArray, List.set_cons_zero, List.set_cons_succ]
          refine wp_append_own _ (Operand.tmp 33) (Operand.tmp 44) 51 rfl w.heap.size 3 i0 (.int .i64 0) 1 8 Tryz.underlying51 hi9 hz0 hz1 hz2 rfl (by decide) v0 X.length (icells X) rfl HOWN.out ⟨wr.drew.heap.size, 0, none⟩ 2 2 [.int .i64 xa, .int .i64 xb] rfl rfl ?d1 ?d2 ?d3 ?d4 ?d5 ?_
          case d1 => exact World.news_of_block (cs := #[.int .i64 xa, .int .i64 xb]) (t := 3) (fr := (0, 0)) (heap_alloc_new wr.drew _)
          case d2 => intro u hu; simp only [List.mem_cons, List.not_mem_nil, or_false] at hu; rcases hu with rfl | rfl <;> rfl
          case d3 => unfold maxLen; omega
          case d4 => omega
          case d5 => exact HSZ.out
          intro v6 w6 hown6 hgr6 _
          have HW6 := Lib.hid (HGROW.out v6 w6 hown6 hgr6)
          refine hKx.out _ _ (R2.grow ‹_› hgr6 HAP.out) (fun hHeld2 => ?_)
          clear hKx Kx hHeld hown6 hgr6
          have hHeld := hHeld2; clear hHeld2
          try simp only [Act.put, List.setIfInBounds_toArray, List.set_cons_zero, List.set_cons_succ]
          refine wpAnyH_take (i := 13) (oi := { dst := some 5, op := Go.Op.assign (Go.Operand.tmp 45), type := 51, pos := "ref.go:38", after := #[{ on := 12, ground := Go.Ground.data }, { on := 12, ground := Go.Ground.chain }, { on := 0, ground := Go.Ground.phase }, { on := 1, ground := Go.Ground.phase }, { on := 2, ground := Go.Ground.phase }, { on := 3, ground := Go.Ground.phase }, { on := 4, ground := Go.Ground.phase }, { on := 5, ground := Go.Ground.phase }, { on := 6, ground := Go.Ground.phase }, { on := 7, ground := Go.Ground.phase }, { on := 8, ground := Go.Ground.phase }, { on := 9, ground := Go.Ground.phase }, { on := 10, ground := Go.Ground.phase }, { on := 11, ground := Go.Ground.phase }, { on := 12, ground := Go.Ground.phase }], guard := none }) (v := ?_) rfl (by kernel_rfl) (by kernel_rfl) (by kernel_rfl) (fun _ _ _ h => h) (Or.inl ⟨by rfl, ?_⟩) (by assumption) ?_
          rotate_left
          · (intro w hSw; (try dsimp only at hSw); go_simp); try with_reducible rfl
          try simp only [Act.put, List.setIfInBounds_toArray, List.set_cons_zero, List.set_cons_succ]
          refine wpAnyH_done (by kernel_rfl) ?_ _
          go_wp2_with fail
          go_roundw
          case rel => exact ⟨k + 1, v6, by omega, by go_num, rfl, HW6⟩
          case measure => simp [intOf]; omega
        · obtain rfl : k = b.length := by omega
          rw [List.take_length] at HO
          obtain ⟨X, hX⟩ : ∃ X, X = sides a ++ sides b := ⟨_, rfl⟩
          rw [← hX] at HO
          have hsz : X.length ≤ 1073741824 := by rw [hX, List.length_append, vsides_len, vsides_len]; omega
          have HXX := Lib.hid hX; clear hX
          obtain ⟨A', cap', rfl, hA'⟩ := IRow.of_own HO.out.own
          have HS := Lib.hid (vsorted_any A' cap' X wr hA' hsz)
          have HBE := Lib.hid HO.out.bel
          clear hA' HO
          go_wp2_with fail
          refine HS.out.mono ?_
          rintro e1 w9 ⟨v9, rfl, h9⟩
          have H9 := Lib.hid (h9.widen HBE.out); clear h9
          go_wp2_with fail
          go_ret
          exact ⟨_, rfl, by rw [← HXX.out]; exact H9.out⟩
end Go.Proofs.YtdnoadngfkiabaaGreat
