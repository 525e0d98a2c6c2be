/-
  Contracts of the reference of layer 9: Boxes.
-/
import Derived.Test.YtdnoadngfkiabaaGreatS924
import Derived.Test.YtdnoadngfkiabaaGreatS931
import Derived.Deep.AppendLies
set_option linter.unusedVariables false
set_option maxRecDepth 100000
namespace Go.Proofs.YtdnoadngfkiabaaGreat
open Go.RowKit

/-- what the region of a round reads: a slab in one row, a rectangle in another one. -/
def Rb9 (b o : Nat) (u : Sl) (A : Option Addr) (n c b2 o2 : Nat) (r : Rc) (w : World) : Prop := w.cell? ⟨b, o, none⟩ = some (.int .i64 u.z0) ∧ w.cell? ⟨b, o + 1, none⟩ = some (.int .i64 u.z1) ∧ w.cell? ⟨b, o + 2, none⟩ = some (.slice A n c) ∧ w.cell? ⟨b2, o2, none⟩ = some (.int .i64 r.X0) ∧ w.cell? ⟨b2, o2 + 1, none⟩ = some (.int .i64 r.Y0) ∧ w.cell? ⟨b2, o2 + 2, none⟩ = some (.int .i64 r.X1) ∧ w.cell? ⟨b2, o2 + 3, none⟩ = some (.int .i64 r.Y1) ∧ b < w.heap.size ∧ b2 < w.heap.size
theorem Rb9.go {b o : Nat} {u : Sl} {A : Option Addr} {n c b2 o2 : Nat} {r : Rc} {w w' : World} (h : Rb9 b o u A n c b2 o2 r w) (hb : Below w.heap.size w w') : Rb9 b o u A n c b2 o2 r w' := by
  obtain ⟨h0, h1, h2, h3, h4, h5, h6, l0, l1⟩ := h
  have c0 := fun i => hb.cell (p := ⟨b, i, none⟩) l0
  have c1 := fun i => hb.cell (p := ⟨b2, i, none⟩) l1
  exact ⟨(c0 _).trans h0, (c0 _).trans h1, (c0 _).trans h2, (c1 _).trans h3, (c1 _).trans h4, (c1 _).trans h5, (c1 _).trans h6, Nat.lt_of_lt_of_le l0 hb.size, Nat.lt_of_lt_of_le l1 hb.size⟩
theorem Rb9.drewN {b o : Nat} {u : Sl} {A : Option Addr} {n c b2 o2 : Nat} {r : Rc} {w : World} (h : Rb9 b o u A n c b2 o2 r w) (k : Nat) : Rb9 b o u A n c b2 o2 r (w.drewN k) := h.go (below_drewN (Below.refl _ _) k)
theorem Rb9.grow {b o : Nat} {u : Sl} {A : Option Addr} {n c b2 o2 : Nat} {r : Rc} {w w' : World} {row : Option Nat} (h : Rb9 b o u A n c b2 o2 r w) (hg : w.grownBy w' row) (hn : ∀ g, row = some g → g ≠ b ∧ g ≠ b2) : Rb9 b o u A n c b2 o2 r w' := by
  obtain ⟨h0, h1, h2, h3, h4, h5, h6, l0, l1⟩ := h
  have c0 : ∀ i, w'.cell? ⟨b, i, none⟩ = w.cell? ⟨b, i, none⟩ := fun i => World.cell?_of_block (hg.block b l0 (fun e => (hn b e.symm).1 rfl))
  have c1 : ∀ i, w'.cell? ⟨b2, i, none⟩ = w.cell? ⟨b2, i, none⟩ := fun i => World.cell?_of_block (hg.block b2 l1 (fun e => (hn b2 e.symm).2 rfl))
  exact ⟨(c0 _).trans h0, (c0 _).trans h1, (c0 _).trans h2, (c1 _).trans h3, (c1 _).trans h4, (c1 _).trans h5, (c1 _).trans h6, Nat.lt_of_lt_of_le l0 hg.size, Nat.lt_of_lt_of_le l1 hg.size⟩
theorem QW.go {v : Value} {F : List Bx} {w wr w' : World} (h : QW v F w wr) (hb : Below wr.heap.size wr w') : QW v F w w' := ⟨own_go h.own hb, h.bel.trans (hb.mono h.bel.size)⟩
set_option maxHeartbeats 40000000 in
theorem dboxes_yes {A : Option Addr} {cap : Nat} {S : List Sl} {w : World} (h : SIn w A cap S) (hs : SolP S) : Calls Tryz.prog 32 #[.slice A S.length cap] w (BxRes (boxesS S) w) := by
  have HR := Lib.hid (dright_yes h hs)
  have H1 := Lib.hid h.row
  have HS := Lib.hid hs
  have hlen := hs.len
  clear h hs
  obtain ⟨i0, hi9, hz0, hz1, hz2⟩ := info_parts infoBox
  go_enter Tryz.func32, Tryz.ntmps32
  go_wp2_with fail
  refine HR.out.mono ?_
  rintro e1 w1 ⟨rfl, hb1⟩
  have I0 : Hid (QW (.slice none 0 0) (boxesS (S.take 0)) w w1) := Lib.hid ⟨World.ownsRow_nil _ _ _ _, hb1⟩
  clear hb1 HR
  go_wp2_with fail
  go_loopw [3, 4] (fun v i wr => ∃ (k : Nat) (v0 : Value), k ≤ S.length ∧ i = .int .i64 k ∧ v0 = v ∧ Hid (QW v0 (boxesS (S.take k)) w wr)) (fun _ i _ => S.length - (intOf i).toNat)
  case atStart => exact ⟨0, _, Nat.zero_le _, rfl, rfl, I0⟩
  case round =>
    clear I0
    obtain ⟨k, v, hk, rfl, rfl, HI⟩ := hrel
    by_cases hlt : k < S.length
    · obtain ⟨b1, o1, rfl, hb1, hv1⟩ := H1.out (by omega)
      obtain ⟨x0, x1, Aj, cj, x2, hr⟩ := hv1 k hlt
      have HN := Lib.hid (boxesS_next S k hlt)
      have hPl : (boxesS (S.take k)).length ≤ 80 * 200 := by
        have := boxesS_len (S := S.take k) (fun s hm => HS.out.rects s (List.mem_of_mem_take hm))
        have h2 : (S.take k).length ≤ 80 := by rw [List.length_take]; omega
        have h3 := Nat.mul_le_mul_right 200 h2
        omega
      have n0 : (0 : Int) ≤ (k : Int) := by omega
      have n1 : (k : Int) < (S.length : Int) := by omega
      have hul := HS.out.rects _ (List.getElem_mem hlt)
      obtain ⟨u, hu⟩ : ∃ u, u = S[k] := ⟨_, rfl⟩
      rw [← hu] at x0 x1 x2 hr HN hul
      clear hu hv1
      generalize boxesS (S.take k) = P at *
      have X0 := Lib.hid x0; have X1 := Lib.hid x1; have X2 := Lib.hid x2
      have HRR := Lib.hid hr
      clear x0 x1 x2 hr
      have HHB := Lib.hid hb1
      have hbl : (boxL u).length = u.ar.length := by simp [boxL]
      have HBL := Lib.hid hbl; clear hbl
      have B1 : Hid (QW v (P ++ (boxL u).take 0) w wr) := Lib.hid (by rw [List.take_zero, List.append_nil]; exact HI.out)
      clear HI
      go_wp2_with fail
      go_loopw [3, 5] (fun v i w2 => ∃ (j : Nat) (v0 : Value), j ≤ u.ar.length ∧ i = .int .i64 j ∧ v0 = v ∧ Hid (QW v0 (P ++ (boxL u).take j) w w2)) (fun _ i _ => u.ar.length - (intOf i).toNat)
      case atStart => exact ⟨0, _, Nat.zero_le _, rfl, rfl, B1⟩
      case round =>
        clear B1
        obtain ⟨j, v, hj, rfl, rfl, HI⟩ := hrel
        have y2 := (HI.out.bel.cell (p := ⟨b1, o1 + k * 3 + 2, none⟩) hb1).trans X2.out
        have hbw : b1 < wr.heap.size := Nat.lt_of_lt_of_le hb1 HI.out.bel.size
        by_cases hjt : j < u.ar.length
        · obtain ⟨b2, o2, rfl, hb2, hv2⟩ := HRR.out.row (by omega)
          obtain ⟨q0, q1, q2, q3⟩ := hv2 j hjt
          have wc := fun o => HI.out.bel.cell (p := ⟨b2, o, none⟩) hb2
          have wd := fun o => HI.out.bel.cell (p := ⟨b1, o, none⟩) hb1
          have HNJ : Hid ((boxL u).take (j + 1) = (boxL u).take j ++ [⟨u.ar[j], u.z0, u.z1⟩]) := Lib.hid (by rw [List.take_succ_eq_append_getElem (by rw [HBL.out]; omega)]; simp [boxL])
          obtain ⟨r, hr⟩ : ∃ r, r = u.ar[j] := ⟨_, rfl⟩
          rw [← hr] at q0 q1 q2 q3 HNJ
          clear hr hv2
          have E1 : Hid (Rb9 b1 (o1 + k * 3) u (some ⟨b2, o2, none⟩) u.ar.length cj b2 (o2 + j * 4) r wr) := Lib.hid ⟨(wd _).trans X0.out, (wd _).trans X1.out, (wd _).trans X2.out, (wc _).trans q0, (wc _).trans q1, (wc _).trans q2, (wc _).trans q3, hbw, Nat.lt_of_lt_of_le hb2 HI.out.bel.size⟩
          have HAP : Hid (∀ g, v.ownBlock = some g → g ≠ b1 ∧ g ≠ b2) := Lib.hid (fun g hg => by have := (HI.out.own.lt g hg).1; omega)
          clear wc wd q0 q1 q2 q3 hb2
          have j0 : (0 : Int) ≤ (j : Int) := by omega
          have j1 : (j : Int) < (u.ar.length : Int) := by omega
          have hFl : (P ++ (boxL u).take j).length ≤ 17000 := by rw [List.length_append, List.length_take]; omega
          obtain ⟨F, hF⟩ : ∃ F, F = P ++ (boxL u).take j := ⟨_, rfl⟩
          have HN2 : Hid (P ++ (boxL u).take (j + 1) = F ++ [⟨r, u.z0, u.z1⟩]) := Lib.hid (by rw [HNJ.out, hF, List.append_assoc])
          rw [← hF] at HI hFl
          clear hF HNJ
          have hb3 : Below wr.heap.size wr (wr.drew.alloc (.cells #[.int .i64 r.X0, .int .i64 r.Y0, .int .i64 r.X1, .int .i64 r.Y1, .int .i64 u.z0, .int .i64 u.z1] 35)) := (below_drewN (Below.refl _ _) 1).alloc (Nat.le_refl _) _
          have HI2 := Lib.hid (HI.out.go hb3)
          have HOWN := Lib.hid HI2.out.own
          have HSZ := Lib.hid HI2.out.bel.size
          have HGROW : Hid (∀ v6 w6, w6.ownsRow w.heap.size 35 6 v6 (F.length + 1) (bxcells F ++ [.int .i64 r.X0, .int .i64 r.Y0, .int .i64 r.X1, .int .i64 r.Y1, .int .i64 u.z0, .int .i64 u.z1]) → (wr.drew.alloc (.cells #[.int .i64 r.X0, .int .i64 r.Y0, .int .i64 r.X1, .int .i64 r.Y1, .int .i64 u.z0, .int .i64 u.z1] 35)).grownBy w6 v.ownBlock → QW v6 (P ++ (boxL u).take (j + 1)) w w6) := Lib.hid (fun v6 w6 h1 h2 => ⟨by rw [HN2.out, bxcells_append, List.length_append]; exact h1, Below.grown HI2.out.bel h2 HI2.out.bel.size (fun k hk => (HI2.out.own.lt k hk).1)⟩)
          obtain ⟨t0, t1, t2, t3, t4, t5, t6, t7, t8⟩ := E1.out
          clear hb3 HI2 HI HN2 y2 hbw
          go_wp2_with fail
          refine wp_region_held_drew (S := fun w' => w'.cell? ⟨b1, o1 + k * 3, none⟩ = some (.int .i64 u.z0) ∧ w'.cell? ⟨b1, o1 + k * 3 + 1, none⟩ = some (.int .i64 u.z1) ∧ w'.cell? ⟨b1, o1 + k * 3 + 2, none⟩ = some (.slice (some ⟨b2, o2, none⟩) u.ar.length cj) ∧ w'.cell? ⟨b2, o2 + j * 4, none⟩ = some (.int .i64 r.X0) ∧ w'.cell? ⟨b2, o2 + j * 4 + 1, none⟩ = some (.int .i64 r.Y0) ∧ w'.cell? ⟨b2, o2 + j * 4 + 2, none⟩ = some (.int .i64 r.X1) ∧ w'.cell? ⟨b2, o2 + j * 4 + 3, none⟩ = some (.int .i64 r.Y1) ∧ b1 < w'.heap.size ∧ b2 < w'.heap.size) (by kernel_rfl) ?_ (fun hHeld => ?_)
          · exact Rb9.drewN E1.out 1
          refine wpAnyH_take (i := 0) (oi := { dst := some 25, op := Go.Op.move (Go.Operand.tmp 3), type := 26, pos := "ref.go:175", after := #[], guard := none }) (v := ?_) rfl (by kernel_rfl) (by kernel_rfl) (by kernel_rfl) (fun _ _ _ h => h) (Or.inl ⟨by rfl, ?_⟩) (by assumption) ?_
          rotate_left
          · (intro w hSw; (try dsimp only at hSw); go_simp); try with_reducible rfl
          try simp only [Act.put, List.setIfInBounds_toArray, List.set_cons_zero, List.set_cons_succ]
          refine wpAnyH_take (i := 1) (oi := { dst := some 26, op := Go.Op.move (Go.Operand.tmp 0), type := 22, pos := "ref.go:175", after := #[], guard := none }) (v := ?_) rfl (by kernel_rfl) (by kernel_rfl) (by kernel_rfl) (fun _ _ _ h => h) (Or.inl ⟨by rfl, ?_⟩) (by assumption) ?_
          rotate_left
          · (intro w hSw; (try dsimp only at hSw); go_simp); try with_reducible rfl
          try simp only [Act.put, List.setIfInBounds_toArray, List.set_cons_zero, List.set_cons_succ]
          refine wpAnyH_take (i := 2) (oi := { dst := some 27, op := Go.Op.move (Go.Operand.tmp 4), type := 3, pos := "ref.go:175", after := #[], guard := none }) (v := ?_) rfl (by kernel_rfl) (by kernel_rfl) (by kernel_rfl) (fun _ _ _ h => h) (Or.inl ⟨by rfl, ?_⟩) (by assumption) ?_
          rotate_left
          · (intro w hSw; (try dsimp only at hSw); go_simp); try with_reducible rfl
          try simp only [Act.put, List.setIfInBounds_toArray, List.set_cons_zero, List.set_cons_succ]
          refine wpAnyH_take (i := 3) (oi := { dst := some 28, op := Go.Op.indexAddr 22 (Go.Operand.tmp 26) (Go.Operand.tmp 27), type := 0, pos := "ref.go:175", after := #[{ on := 1, ground := Go.Ground.data }, { on := 2, ground := Go.Ground.data }], guard := none }) (v := ?_) rfl (by kernel_rfl) (by kernel_rfl) (by kernel_rfl) (fun _ _ _ h => h) (Or.inl ⟨by rfl, ?_⟩) (by assumption) ?_
          rotate_left
          · (intro w hSw; (try dsimp only at hSw); go_simp); try with_reducible rfl
          try simp only [Act.put, List.setIfInBounds_toArray, List.set_cons_zero, List.set_cons_succ]
          refine wpAnyH_take (i := 4) (oi := { dst := some 29, op := Go.Op.fieldAddr 40 (Go.Operand.tmp 28) 2, type := 0, pos := "ref.go:175", after := #[{ on := 3, ground := Go.Ground.data }], guard := none }) (v := ?_) rfl (by kernel_rfl) (by kernel_rfl) (by kernel_rfl) (fun _ _ _ h => h) (Or.inl ⟨by rfl, ?_⟩) (by assumption) ?_
          rotate_left
          · (intro w hSw; (try dsimp only at hSw); go_simp); try with_reducible rfl
          try simp only [Act.put, List.setIfInBounds_toArray, List.set_cons_zero, List.set_cons_succ]
          refine wpAnyH_take (i := 5) (oi := { dst := some 30, op := Go.Op.load 37 (Go.Operand.tmp 29), type := 37, pos := "ref.go:175", after := #[{ on := 4, ground := Go.Ground.data }], guard := none }) (v := ?_) rfl (by kernel_rfl) (by kernel_rfl) (by kernel_rfl) (fun _ _ _ h => h) (Or.inl ⟨by rfl, ?_⟩) (by assumption) ?_
          rotate_left
          · (intro w hSw; (try dsimp only at hSw); go_simp); try with_reducible rfl
          try simp only [Act.put, List.setIfInBounds_toArray, List.set_cons_zero, List.set_cons_succ]
          refine wpAnyH_take (i := 6) (oi := { dst := some 31, op := Go.Op.move (Go.Operand.tmp 5), type := 3, pos := "ref.go:175", after := #[], guard := none }) (v := ?_) rfl (by kernel_rfl) (by kernel_rfl) (by kernel_rfl) (fun _ _ _ h => h) (Or.inl ⟨by rfl, ?_⟩) (by assumption) ?_
          rotate_left
          · (intro w hSw; (try dsimp only at hSw); go_simp); try with_reducible rfl
          try simp only [Act.put, List.setIfInBounds_toArray, List.set_cons_zero, List.set_cons_succ]
          refine wpAnyH_take (i := 7) (oi := { dst := some 32, op := Go.Op.indexAddr 37 (Go.Operand.tmp 30) (Go.Operand.tmp 31), type := 0, pos := "ref.go:175", after := #[{ on := 5, ground := Go.Ground.data }, { on := 6, ground := Go.Ground.data }], guard := none }) (v := ?_) rfl (by kernel_rfl) (by kernel_rfl) (by kernel_rfl) (fun _ _ _ h => h) (Or.inl ⟨by rfl, ?_⟩) (by assumption) ?_
          rotate_left
          · (intro w hSw; (try dsimp only at hSw); go_simp); try with_reducible rfl
          try simp only [Act.put, List.setIfInBounds_toArray, List.set_cons_zero, List.set_cons_succ]
          refine wpAnyH_take (i := 8) (oi := { dst := some 33, op := Go.Op.load 33 (Go.Operand.tmp 32), type := 33, pos := "ref.go:175", after := #[{ on := 7, ground := Go.Ground.data }], guard := none }) (v := ?_) rfl (by kernel_rfl) (by kernel_rfl) (by kernel_rfl) (fun _ _ _ h => h) (Or.inl ⟨by rfl, ?_⟩) (by assumption) ?_
          rotate_left
          · (intro w hSw; (try dsimp only at hSw); go_simp); try with_reducible rfl
          try simp only [Act.put, List.setIfInBounds_toArray, List.set_cons_zero, List.set_cons_succ]
          refine wpAnyH_take (i := 9) (oi := { dst := some 34, op := Go.Op.move (Go.Operand.tmp 0), type := 22, pos := "ref.go:175", after := #[], guard := none }) (v := ?_) rfl (by kernel_rfl) (by kernel_rfl) (by kernel_rfl) (fun _ _ _ h => h) (Or.inl ⟨by rfl, ?_⟩) (by assumption) ?_
          rotate_left
          · (intro w hSw; (try dsimp only at hSw); go_simp); try with_reducible rfl
          try simp only [Act.put, List.setIfInBounds_toArray, List.set_cons_zero, List.set_cons_succ]
          refine wpAnyH_take (i := 10) (oi := { dst := some 35, op := Go.Op.move (Go.Operand.tmp 4), type := 3, pos := "ref.go:175", after := #[], guard := none }) (v := ?_) rfl (by kernel_rfl) (by kernel_rfl) (by kernel_rfl) (fun _ _ _ h => h) (Or.inl ⟨by rfl, ?_⟩) (by assumption) ?_
          rotate_left
          · (intro w hSw; (try dsimp only at hSw); go_simp); try with_reducible rfl
          try simp only [Act.put, List.setIfInBounds_toArray, List.set_cons_zero, List.set_cons_succ]
          refine wpAnyH_take (i := 11) (oi := { dst := some 36, op := Go.Op.indexAddr 22 (Go.Operand.tmp 34) (Go.Operand.tmp 35), type := 0, pos := "ref.go:175", after := #[{ on := 9, ground := Go.Ground.data }, { on := 10, ground := Go.Ground.data }], guard := none }) (v := ?_) rfl (by kernel_rfl) (by kernel_rfl) (by kernel_rfl) (fun _ _ _ h => h) (Or.inl ⟨by rfl, ?_⟩) (by assumption) ?_
          rotate_left
          · (intro w hSw; (try dsimp only at hSw); go_simp); try with_reducible rfl
          try simp only [Act.put, List.setIfInBounds_toArray, List.set_cons_zero, List.set_cons_succ]
          refine wpAnyH_take (i := 12) (oi := { dst := some 37, op := Go.Op.fieldAddr 40 (Go.Operand.tmp 36) 0, type := 0, pos := "ref.go:175", after := #[{ on := 11, ground := Go.Ground.data }], guard := none }) (v := ?_) rfl (by kernel_rfl) (by kernel_rfl) (by kernel_rfl) (fun _ _ _ h => h) (Or.inl ⟨by rfl, ?_⟩) (by assumption) ?_
          rotate_left
          · (intro w hSw; (try dsimp only at hSw); go_simp); try with_reducible rfl
          try simp only [Act.put, List.setIfInBounds_toArray, List.set_cons_zero, List.set_cons_succ]
          refine wpAnyH_take (i := 13) (oi := { dst := some 38, op := Go.Op.load 3 (Go.Operand.tmp 37), type := 3, pos := "ref.go:175", after := #[{ on := 12, ground := Go.Ground.data }], guard := none }) (v := ?_) rfl (by kernel_rfl) (by kernel_rfl) (by kernel_rfl) (fun _ _ _ h => h) (Or.inl ⟨by rfl, ?_⟩) (by assumption) ?_
          rotate_left
          · (intro w hSw; (try dsimp only at hSw); go_simp); try with_reducible rfl
          try simp only [Act.put, List.setIfInBounds_toArray, List.set_cons_zero, List.set_cons_succ]
          refine wpAnyH_take (i := 14) (oi := { dst := some 39, op := Go.Op.move (Go.Operand.tmp 0), type := 22, pos := "ref.go:175", after := #[], guard := none }) (v := ?_) rfl (by kernel_rfl) (by kernel_rfl) (by kernel_rfl) (fun _ _ _ h => h) (Or.inl ⟨by rfl, ?_⟩) (by assumption) ?_
          rotate_left
          · (intro w hSw; (try dsimp only at hSw); go_simp); try with_reducible rfl
          try simp only [Act.put, List.setIfInBounds_toArray, List.set_cons_zero, List.set_cons_succ]
          refine wpAnyH_take (i := 15) (oi := { dst := some 40, op := Go.Op.move (Go.Operand.tmp 4), type := 3, pos := "ref.go:175", after := #[], guard := none }) (v := ?_) rfl (by kernel_rfl) (by kernel_rfl) (by kernel_rfl) (fun _ _ _ h => h) (Or.inl ⟨by rfl, ?_⟩) (by assumption) ?_
          rotate_left
          · (intro w hSw; (try dsimp only at hSw); go_simp); try with_reducible rfl
          try simp only [Act.put, List.setIfInBounds_toArray, List.set_cons_zero, List.set_cons_succ]
          refine wpAnyH_take (i := 16) (oi := { dst := some 41, op := Go.Op.indexAddr 22 (Go.Operand.tmp 39) (Go.Operand.tmp 40), type := 0, pos := "ref.go:175", after := #[{ on := 14, ground := Go.Ground.data }, { on := 15, ground := Go.Ground.data }], guard := none }) (v := ?_) rfl (by kernel_rfl) (by kernel_rfl) (by kernel_rfl) (fun _ _ _ h => h) (Or.inl ⟨by rfl, ?_⟩) (by assumption) ?_
          rotate_left
          · (intro w hSw; (try dsimp only at hSw); go_simp); try with_reducible rfl
          try simp only [Act.put, List.setIfInBounds_toArray, List.set_cons_zero, List.set_cons_succ]
          refine wpAnyH_take (i := 17) (oi := { dst := some 42, op := Go.Op.fieldAddr 40 (Go.Operand.tmp 41) 1, type := 0, pos := "ref.go:175", after := #[{ on := 16, ground := Go.Ground.data }], guard := none }) (v := ?_) rfl (by kernel_rfl) (by kernel_rfl) (by kernel_rfl) (fun _ _ _ h => h) (Or.inl ⟨by rfl, ?_⟩) (by assumption) ?_
          rotate_left
          · (intro w hSw; (try dsimp only at hSw); go_simp); try with_reducible rfl
          try simp only [Act.put, List.setIfInBounds_toArray, List.set_cons_zero, List.set_cons_succ]
          refine wpAnyH_take (i := 18) (oi := { dst := some 43, op := Go.Op.load 3 (Go.Operand.tmp 42), type := 3, pos := "ref.go:175", after := #[{ on := 17, ground := Go.Ground.data }], guard := none }) (v := ?_) rfl (by kernel_rfl) (by kernel_rfl) (by kernel_rfl) (fun _ _ _ h => h) (Or.inl ⟨by rfl, ?_⟩) (by assumption) ?_
          rotate_left
          · (intro w hSw; (try dsimp only at hSw); go_simp); try with_reducible rfl
          try simp only [Act.put, List.setIfInBounds_toArray, List.set_cons_zero, List.set_cons_succ]
          refine wpAnyH_take (i := 19) (oi := { dst := some 44, op := Go.Op.build 35 #[(0, Go.Operand.tmp 33), (1, Go.Operand.tmp 38), (2, Go.Operand.tmp 43)], type := 35, pos := "ref.go:175", after := #[{ on := 8, ground := Go.Ground.data }, { on := 13, ground := Go.Ground.data }, { on := 18, ground := Go.Ground.data }], guard := none }) (v := ?_) rfl (by kernel_rfl) (by kernel_rfl) (by kernel_rfl) (fun _ _ _ h => h) (Or.inl ⟨by rfl, ?_⟩) (by assumption) ?_
          rotate_left
          · (intro w hSw; (try dsimp only at hSw); go_simp); try with_reducible rfl
          try simp only [Act.put, List.setIfInBounds_toArray, List.set_cons_zero, List.set_cons_succ]
          refine wpAnyH_ready (rs := [20]) (by kernel_rfl) (by simp) ?_
          refine AllReadyH.cons (o := { dst := some 45, op := Go.Op.buildSlice 26 1 #[(0, Go.Operand.tmp 44)], type := 26, pos := "ref.go:175", after := #[{ on := 19, ground := Go.Ground.data }], guard := none }) rfl (fun Kx hKx => ?_) AllReadyH.nil
          go_simp
          refine hKx.out _ _ (Rb9.go ‹_› ((Below.refl _ _).alloc (Nat.le_refl _) _)) (fun hHeld2 => ?_)
          clear hKx Kx hHeld
          have hHeld := hHeld2; clear hHeld2
          try simp only [Act.put, List.setIfInBounds_toArray, List.set_cons_zero, List.set_cons_succ]
          refine wpAnyH_ready (rs := [21]) (by kernel_rfl) (by simp) ?_
          refine AllReadyH.cons (o := { dst := some 46, op := Go.Op.call { callee := Go.Callee.builtin Go.Builtin.append, args := #[Go.Operand.tmp 25, Go.Operand.tmp 45], argTypes := #[26, 26] }, type := 26, pos := "ref.go:175", after := #[{ on := 0, ground := Go.Ground.data }, { on := 20, ground := Go.Ground.data }], guard := none }) rfl (fun Kx hKx => ?_) AllReadyH.nil
          try simp only [Act.put, List.setIfInBounds_toArray, List.set_cons_zero, List.set_cons_succ]
          refine wp_append_own _ (Operand.tmp 25) (Operand.tmp 45) 26 rfl w.heap.size 35 i0 (.agg #[.int .i64 0, .int .i64 0, .int .i64 0, .int .i64 0, .int .i64 0, .int .i64 0]) 6 48 Tryz.underlying26 hi9 hz0 hz1 hz2 rfl (by decide) v F.length (bxcells F) rfl HOWN.out ⟨wr.drew.heap.size, 0, none⟩ 1 1 [.int .i64 r.X0, .int .i64 r.Y0, .int .i64 r.X1, .int .i64 r.Y1, .int .i64 u.z0, .int .i64 u.z1] rfl rfl ?d1 ?d2 ?d3 ?d4 ?d5 ?_
          case d1 => exact World.news_of_block (cs := #[.int .i64 r.X0, .int .i64 r.Y0, .int .i64 r.X1, .int .i64 r.Y1, .int .i64 u.z0, .int .i64 u.z1]) (t := 35) (fr := (0, 0)) (heap_alloc_new wr.drew _)
          case d2 => intro u hu; simp only [List.mem_cons, List.not_mem_nil, or_false] at hu; rcases hu with rfl | rfl | rfl | rfl | rfl | rfl <;> rfl
          case d3 => unfold maxLen; omega
          case d4 => omega
          case d5 => exact HSZ.out
          intro v6 w6 hown6 hgr6 _
          have HW6 := Lib.hid (HGROW.out v6 w6 hown6 hgr6)
          refine hKx.out _ _ (Rb9.grow ‹_› hgr6 HAP.out) (fun hHeld2 => ?_)
          clear hKx Kx hHeld hown6 hgr6
          have hHeld := hHeld2; clear hHeld2
          try simp only [Act.put, List.setIfInBounds_toArray, List.set_cons_zero, List.set_cons_succ]
          refine wpAnyH_take (i := 22) (oi := { dst := some 3, op := Go.Op.assign (Go.Operand.tmp 46), type := 26, pos := "ref.go:175", after := #[{ on := 21, ground := Go.Ground.data }, { on := 21, ground := Go.Ground.chain }, { on := 0, ground := Go.Ground.phase }, { on := 1, ground := Go.Ground.phase }, { on := 2, ground := Go.Ground.phase }, { on := 3, ground := Go.Ground.phase }, { on := 4, ground := Go.Ground.phase }, { on := 5, ground := Go.Ground.phase }, { on := 6, ground := Go.Ground.phase }, { on := 7, ground := Go.Ground.phase }, { on := 8, ground := Go.Ground.phase }, { on := 9, ground := Go.Ground.phase }, { on := 10, ground := Go.Ground.phase }, { on := 11, ground := Go.Ground.phase }, { on := 12, ground := Go.Ground.phase }, { on := 13, ground := Go.Ground.phase }, { on := 14, ground := Go.Ground.phase }, { on := 15, ground := Go.Ground.phase }, { on := 16, ground := Go.Ground.phase }, { on := 17, ground := Go.Ground.phase }, { on := 18, ground := Go.Ground.phase }, { on := 19, ground := Go.Ground.phase }, { on := 20, ground := Go.Ground.phase }, { on := 21, ground := Go.Ground.phase }], guard := none }) (v := ?_) rfl (by kernel_rfl) (by kernel_rfl) (by kernel_rfl) (fun _ _ _ h => h) (Or.inl ⟨by rfl, ?_⟩) (by assumption) ?_
          rotate_left
          · (intro w hSw; (try dsimp only at hSw); go_simp); try with_reducible rfl
          try simp only [Act.put, List.setIfInBounds_toArray, List.set_cons_zero, List.set_cons_succ]
          refine wpAnyH_done (by kernel_rfl) ?_ _
          go_wp2_with fail
          go_roundw
          case rel => exact ⟨j + 1, v6, by omega, by go_num, rfl, HW6⟩
          case measure => simp [intOf]; omega
        · obtain rfl : j = u.ar.length := by omega
          have HX : Hid (QW v (boxesS (S.take (k + 1))) w wr) := Lib.hid (by
            have := HI.out
            rw [List.take_of_length_le (by rw [HBL.out]; omega)] at this
            rw [HN.out]; exact this)
          clear HI HN
          go_wp2_with fail
          go_roundw
          case rel => exact ⟨k + 1, _, by omega, by go_num, rfl, HX⟩
          case measure => simp [intOf]; omega
    · obtain rfl : k = S.length := by omega
      have FIN : Hid (BxRes (boxesS S) w (.returned v) wr) := Lib.hid (by
        have := HI.out
        rw [List.take_length] at this
        exact ⟨v, rfl, this.own, this.bel⟩)
      clear HI
      go_wp2_with fail
      go_ret
      exact FIN.out
theorem dboxes_no {A : Option Addr} {cap : Nat} {S : List Sl} {w : World} (h : SIn w A cap S) (hs : ¬ SolP S) : Calls Tryz.prog 32 #[.slice A S.length cap] w (BxRes [] w) := by
  have HR := Lib.hid (dright_no h hs)
  clear h hs
  go_enter Tryz.func32, Tryz.ntmps32
  go_wp2_with fail
  refine HR.out.mono ?_
  rintro e1 w1 ⟨rfl, hb1⟩
  have HB1 := Lib.hid hb1; clear hb1
  go_wp2_with fail
  go_ret
  exact ⟨_, rfl, World.ownsRow_nil _ _ _ _, HB1.out⟩
end Go.Proofs.YtdnoadngfkiabaaGreat
