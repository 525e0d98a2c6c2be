/-
  Contracts of the reference of layer 6 (11): moves, Shift.
-/
import Derived.Test.YtcnojedijimheaaXn
import Derived.Test.YtcnojedijimheaaIm
import Derived.Deep.AppendLies
import Derived.StillTailTactics
import Derived.BigQuiet
set_option linter.unusedVariables false
set_option maxRecDepth 100000
namespace Go.Proofs.Ytcnojedijimheaa
open Go.RowKit

def MovI (a b d : Int) : Prop := -1048576 ≤ d ∧ d ≤ 1048576 ∧ 0 ≤ a + d ∧ b + d ≤ 1048576
instance (a b d : Int) : Decidable (MovI a b d) := by unfold MovI; infer_instance
def MovR (r : Rc) (dx dy : Int) : Prop := MovI r.X0 r.X1 dx ∧ MovI r.Y0 r.Y1 dy
theorem stays_mov {a b d : Int} (h : Span a b) : staysB a b d = true ↔ MovI a b d := by
  unfold Span at h
  rw [staysB_iff]
  unfold MovI
  constructor
  · rintro ⟨h1, h2⟩; omega
  · rintro ⟨h1, h2, h3, h4⟩; omega
theorem shift_is {l : List Rc} (hr : RegP l) (dx dy : Int) : ((∀ r ∈ l, MovR r dx dy) → shiftG l dx dy = (l.map (mvR dx dy), 0)) ∧ (¬ (∀ r ∈ l, MovR r dx dy) → shiftG l dx dy = ([], 3)) := by
  have hok := form_ok hr.1
  obtain ⟨k1, k2⟩ := bounds_of l
  unfold shiftG
  rw [if_pos hr]
  cases hb : boundsR l with
  | mk b some =>
    rw [hb] at k1 k2
    cases some with
    | false =>
      have h0 : l = [] := by
        cases l with
        | nil => rfl
        | cons r l => exact absurd (hok r List.mem_cons_self) ((k2 rfl).2 r List.mem_cons_self)
      subst h0
      refine ⟨fun _ => by rw [if_neg (fun h => by cases h.1)], fun h => absurd (fun r hm => by cases hm) h⟩
    | true =>
      obtain ⟨ho, hin, ⟨r0, m0, o0, e0⟩, ⟨r1, m1, o1, e1⟩, ⟨r2, m2, o2, e2⟩, ⟨r3, m3, o3, e3⟩⟩ : ROk b ∧ (∀ r ∈ l, ROk r → InsideR r b) ∧ (∃ r ∈ l, ROk r ∧ r.X0 = b.X0) ∧ (∃ r ∈ l, ROk r ∧ r.X1 = b.X1) ∧ (∃ r ∈ l, ROk r ∧ r.Y0 = b.Y0) ∧ (∃ r ∈ l, ROk r ∧ r.Y1 = b.Y1) := k1 rfl
      show (_ → (if true = true ∧ ¬ (staysB b.X0 b.X1 dx = true ∧ staysB b.Y0 b.Y1 dy = true) then _ else _) = _) ∧ (_ → (if true = true ∧ ¬ (staysB b.X0 b.X1 dx = true ∧ staysB b.Y0 b.Y1 dy = true) then _ else _) = _)
      have key : (staysB b.X0 b.X1 dx = true ∧ staysB b.Y0 b.Y1 dy = true) ↔ ∀ r ∈ l, MovR r dx dy := by
        rw [stays_mov ho.1, stays_mov ho.2]
        constructor
        · rintro ⟨h1, h2⟩ r hm
          obtain ⟨_, _, c1, c2, c3, c4⟩ := hin r hm (hok r hm)
          unfold MovI at h1 h2
          refine ⟨?_, ?_⟩ <;> unfold MovI <;> omega
        · intro h
          have g0 := (h r0 m0).1; have g1 := (h r1 m1).1; have g2 := (h r2 m2).2; have g3 := (h r3 m3).2
          unfold MovI at *
          refine ⟨?_, ?_⟩ <;> omega
      refine ⟨fun h => by rw [if_neg (fun h2 => h2.2 (key.2 h))], fun h => by rw [if_pos ⟨rfl, fun h2 => h (key.1 h2)⟩]⟩
set_option maxHeartbeats 4000000 in
theorem vmoves_any (a b d : Int) (w : World) (ha : 0 ≤ a ∧ a ≤ 1048576) (hb : 0 ≤ b ∧ b ≤ 1048576) :
    Calls Try.prog 85 #[.int .i64 a, .int .i64 b, .int .i64 d] w fun e w' => e = .returned (.bool (decide (MovI a b d))) ∧ w' = w := by
  obtain ⟨ha, ha2⟩ := ha
  obtain ⟨hb, hb2⟩ := hb
  by_cases c0 : -1048576 ≤ d
  · have d0 : decide (-1048576 ≤ d) = true := decide_eq_true c0
    by_cases c1 : d ≤ 1048576
    · have d1 : decide (d ≤ 1048576) = true := decide_eq_true c1
      have q1 : IntKind.i64.wrap (a + d) = a + d := IntWalk.i64_in _ (by omega)
      have q2 : IntKind.i64.wrap (b + d) = b + d := IntWalk.i64_in _ (by omega)
      by_cases c2 : 0 ≤ a + d
      · have d2 : decide (0 ≤ a + d) = true := decide_eq_true c2
        by_cases c3 : b + d ≤ 1048576
        · have d3 : decide (b + d ≤ 1048576) = true := decide_eq_true c3
          rw [show decide (MovI a b d) = true from decide_eq_true ⟨c0, c1, c2, c3⟩]
          go_enter Try.func85, Try.ntmps85
          go_wp2
          go_ret
          exact ⟨rfl, rfl⟩
        · have d3 : decide (b + d ≤ 1048576) = false := decide_eq_false c3
          rw [show decide (MovI a b d) = false from decide_eq_false (fun h => c3 h.2.2.2)]
          go_enter Try.func85, Try.ntmps85
          go_wp2
          go_ret
          exact ⟨rfl, rfl⟩
      · have d2 : decide (0 ≤ a + d) = false := decide_eq_false c2
        rw [show decide (MovI a b d) = false from decide_eq_false (fun h => c2 h.2.2.1)]
        go_enter Try.func85, Try.ntmps85
        go_wp2
        go_ret
        exact ⟨rfl, rfl⟩
    · have d1 : decide (d ≤ 1048576) = false := decide_eq_false c1
      rw [show decide (MovI a b d) = false from decide_eq_false (fun h => c1 h.2.1)]
      go_enter Try.func85, Try.ntmps85
      go_wp2
      go_ret
      exact ⟨rfl, rfl⟩
  · have d0 : decide (-1048576 ≤ d) = false := decide_eq_false c0
    rw [show decide (MovI a b d) = false from decide_eq_false (fun h => c0 h.1)]
    go_enter Try.func85, Try.ntmps85
    go_wp2
    go_ret
    exact ⟨rfl, rfl⟩
theorem mv_next (l : List Rc) (dx dy : Int) (k : Nat) (h : k < l.length) : (l.take (k + 1)).map (mvR dx dy) = (l.take k).map (mvR dx dy) ++ [mvR dx dy l[k]] := by
  rw [List.take_succ_eq_append_getElem h, List.map_append]; rfl
/-- what a round's region reads. -/
def Q4 (b p : Nat) (u : Rc) (w : World) : Prop := w.cell? ⟨b, p, none⟩ = some (.int .i64 u.X0) ∧ w.cell? ⟨b, p + 1, none⟩ = some (.int .i64 u.Y0) ∧ w.cell? ⟨b, p + 2, none⟩ = some (.int .i64 u.X1) ∧ w.cell? ⟨b, p + 3, none⟩ = some (.int .i64 u.Y1) ∧ b < w.heap.size
theorem Q4.go {b p : Nat} {u : Rc} {w w' : World} (h : Q4 b p u w) (hb : Below w.heap.size w w') : Q4 b p u w' := by
  obtain ⟨x0, x1, x2, x3, l1⟩ := h
  have c := fun o => hb.cell (p := ⟨b, o, none⟩) l1
  exact ⟨(c _).trans x0, (c _).trans x1, (c _).trans x2, (c _).trans x3, Nat.lt_of_lt_of_le l1 hb.size⟩
theorem Q4.drewN {b p : Nat} {u : Rc} {w : World} (h : Q4 b p u w) (n : Nat) : Q4 b p u (w.drewN n) := h.go (below_drewN (Below.refl _ _) n)
theorem Q4.grow {b p : Nat} {u : Rc} {w w' : World} {row : Option Nat} (h : Q4 b p u w) (hg : w.grownBy w' row) (hn : ∀ g, row = some g → g ≠ b) : Q4 b p u w' := by
  obtain ⟨x0, x1, x2, x3, l1⟩ := h
  have c : ∀ o, w'.cell? ⟨b, o, none⟩ = w.cell? ⟨b, o, none⟩ := fun o => World.cell?_of_block (hg.block b l1 (fun e => hn b e.symm rfl))
  exact ⟨(c _).trans x0, (c _).trans x1, (c _).trans x2, (c _).trans x3, Nat.lt_of_lt_of_le l1 hg.size⟩
set_option maxHeartbeats 16000000 in
theorem vshift_yes (A : Option Addr) (cap : Nat) (l : List Rc) (dx dy : Int) (w : World) (hl : RIn w A cap l) (hr : RegP l) :
    Calls Try.prog 44 #[.slice A l.length cap, .int .i64 dx, .int .i64 dy] w (ResIs (shiftG l dx dy) w) := by
  have HR := Lib.hid (vRight_yes A cap l w hl.row hl.len hr)
  have HOK := Lib.hid (form_ok hr.1)
  have HL := Lib.hid hl
  have HSI := Lib.hid (shift_is hr dx dy)
  have hlen := hr.2
  obtain ⟨i0, hi9, hz0, hz1, hz2⟩ := info_parts infoRect
  obtain ⟨R, hR⟩ : ∃ R, R = shiftG l dx dy := ⟨_, rfl⟩
  rw [← hR] at HSI ⊢
  clear hl hr hR
  go_enter Try.func44, Try.ntmps44
  go_wp2_with fail
  refine HR.out.mono ?_
  rintro e1 w1 ⟨rfl, hb1⟩
  have K0 : Hid (OwnQ (.slice none 0 0) ((l.take 0).map (mvR dx dy)) w w1) := Lib.hid ⟨World.ownsRow_nil _ _ _ _, hb1⟩
  clear hb1
  go_wp2_with fail
  go_loopw [8, 9] (fun v i wr => ∃ (k : Nat) (v0 : Value), k ≤ l.length ∧ i = .int .i64 k ∧ v0 = v ∧ Hid (OwnQ v0 ((l.take k).map (mvR dx dy)) w wr) ∧ Hid (∀ j (h : j < l.length), j < k → MovR l[j] dx dy)) (fun _ i _ => l.length - (intOf i).toNat)
  case atStart => exact ⟨0, _, Nat.zero_le _, rfl, rfl, K0, Lib.hid (fun j h h1 => absurd h1 (Nat.not_lt_zero _))⟩
  case round =>
    clear K0
    obtain ⟨k, v0, hk, rfl, rfl, HS, HT⟩ := hrel
    by_cases hlt : k < l.length
    · obtain ⟨b1, o1, rfl, hb1, hv1⟩ := HL.out.row (by omega)
      obtain ⟨x0, x1, x2, x3⟩ := hv1 k hlt
      have X0 := Lib.hid x0; have X1 := Lib.hid x1; have X2 := Lib.hid x2; have X3 := Lib.hid x3; have HBL := Lib.hid hb1
      have wc := fun o => HS.out.bel.cell (p := ⟨b1, o, none⟩) hb1
      have x0 := (wc _).trans x0; have x1 := (wc _).trans x1; have x2 := (wc _).trans x2; have x3 := (wc _).trans x3
      clear hv1 wc hb1
      have j0 : (0 : Int) ≤ (k : Int) := by omega
      have j1 : (k : Int) < (l.length : Int) := by omega
      have NEXT := Lib.hid (mv_next l dx dy k hlt)
      have hml : ((l.take k).map (mvR dx dy)).length = k := by simp; omega
      have hok := HOK.out _ (List.getElem_mem hlt)
      have HTN : Hid (MovR l[k] dx dy → ∀ j (h : j < l.length), j < k + 1 → MovR l[j] dx dy) := Lib.hid (fun h24 j h h1 => by
        by_cases e : j < k
        · exact HT.out j h e
        · obtain rfl : j = k := by omega
          exact h24)
      have HNO : Hid (¬ MovR l[k] dx dy → R = ([], 3)) := Lib.hid (fun h => HSI.out.2 (fun h2 => h (h2 _ (List.getElem_mem hlt))))
      clear HT
      obtain ⟨u, hu⟩ : ∃ u, u = l[k] := ⟨_, rfl⟩
      rw [← hu] at x0 x1 x2 x3 X0 X1 X2 X3 NEXT hok HTN HNO
      clear hu
      obtain ⟨F, hF⟩ : ∃ F, F = (l.take k).map (mvR dx dy) := ⟨_, rfl⟩
      rw [← hF] at HS NEXT hml
      clear hF
      have HML := Lib.hid hml; clear hml
      obtain ⟨⟨a1, a2, a3⟩, a4, a5, a6⟩ := hok
      by_cases m1 : MovI u.X0 u.X1 dx
      · have dm1 : decide (MovI u.X0 u.X1 dx) = true := decide_eq_true m1
        by_cases m2 : MovI u.Y0 u.Y1 dy
        · have dm2 : decide (MovI u.Y0 u.Y1 dy) = true := decide_eq_true m2
          have HTK := Lib.hid (HTN.out ⟨m1, m2⟩)
          have q0 : IntKind.i64.wrap (u.X0 + dx) = u.X0 + dx := IntWalk.i64_in _ (by unfold MovI at m1; omega)
          have q1 : IntKind.i64.wrap (u.X1 + dx) = u.X1 + dx := IntWalk.i64_in _ (by unfold MovI at m1; omega)
          have q2 : IntKind.i64.wrap (u.Y0 + dy) = u.Y0 + dy := IntWalk.i64_in _ (by unfold MovI at m2; omega)
          have q3 : IntKind.i64.wrap (u.Y1 + dy) = u.Y1 + dy := IntWalk.i64_in _ (by unfold MovI at m2; omega)
          clear m1 m2 HTN HNO
          go_wp2_with fail
          go_quiet ((go_at_call 85; exact Calls.quiet_of_same (vmoves_any _ _ _ _ ⟨by omega, by omega⟩ ⟨by omega, by omega⟩)))
          go_wp2_with fail
          generalize hwx : World.drewN _ _ = wx
          have HSx : Hid (OwnQ v0 F w wx) := Lib.hid (by rw [← hwx]; exact HS.out.go (below_drewN (Below.refl _ _) _))
          clear hwx x0 x1 x2 x3 HS a1 a2 a3 a4 a5 a6 dm1 dm2
          have HSd : Hid (OwnQ v0 F w wx.drew) := Lib.hid (HSx.out.go (below_drewN (Below.refl _ _) 1))
          have wc := fun o => HSx.out.bel.cell (p := ⟨b1, o, none⟩) HBL.out
          have x0 := (wc _).trans X0.out; have x1 := (wc _).trans X1.out; have x2 := (wc _).trans X2.out; have x3 := (wc _).trans X3.out
          clear wc X0 X1 X2 X3
          have HQ4 : Hid (Q4 b1 (o1 + k * 4) u wx) := Lib.hid ⟨x0, x1, x2, x3, Nat.lt_of_lt_of_le HBL.out HSx.out.bel.size⟩
          have HS4 := Lib.hid (HSd.out.go ((Below.refl _ _).alloc (Nat.le_refl _) (.cells #[.int .i64 (u.X0 + dx), .int .i64 (u.Y0 + dy), .int .i64 (u.X1 + dx), .int .i64 (u.Y1 + dy)] 41)))
          have HOWN := Lib.hid HS4.out.own
          have HSZ := Lib.hid HS4.out.bel.size
          have HAP : Hid (∀ g, v0.ownBlock = some g → g ≠ b1) := Lib.hid (fun g hg e => by have h1 := (HSx.out.own.lt g hg).1; have h2 := HBL.out; omega)
          have HGROW : Hid (∀ v6 w6, w6.ownsRow w.heap.size 41 4 v6 (F.length + 1) (rcells F ++ [.int .i64 (u.X0 + dx), .int .i64 (u.Y0 + dy), .int .i64 (u.X1 + dx), .int .i64 (u.Y1 + dy)]) → (wx.drew.alloc (.cells #[.int .i64 (u.X0 + dx), .int .i64 (u.Y0 + dy), .int .i64 (u.X1 + dx), .int .i64 (u.Y1 + dy)] 41)).grownBy w6 v0.ownBlock → OwnQ v6 ((l.take (k + 1)).map (mvR dx dy)) w w6) := Lib.hid (fun v6 w6 h1 h2 => by
            rw [NEXT.out]; exact HS4.out.snoc (r := mvR dx dy u) rfl h1 h2)
          obtain ⟨A9, c9, rfl, _⟩ := own_rects HSx.out.own
          clear HSd HS4 HSx x0 x1 x2 x3
          refine wp_region_held_drew (S := fun w' => w'.cell? ⟨b1, o1 + k * 4, none⟩ = some (.int .i64 u.X0) ∧ w'.cell? ⟨b1, o1 + k * 4 + 1, none⟩ = some (.int .i64 u.Y0) ∧ w'.cell? ⟨b1, o1 + k * 4 + 2, none⟩ = some (.int .i64 u.X1) ∧ w'.cell? ⟨b1, o1 + k * 4 + 3, none⟩ = some (.int .i64 u.Y1) ∧ b1 < w'.heap.size) (by kernel_rfl) ?_ (fun hHeld => ?_)
          · exact Q4.drewN HQ4.out 1
          refine wpAnyH_take (i := 0) (oi := { dst := some 47, op := Go.Op.move (Go.Operand.tmp 8), type := 22, pos := "ref.go:220", after := #[], guard := none }) (v := ?_) rfl (by kernel_rfl) (by kernel_rfl) (by kernel_rfl) (fun _ _ _ h => h) (Or.inl ⟨by rfl, ?_⟩) (by assumption) ?_
          rotate_left
          · (intro w hSw; (try dsimp only at hSw); go_simp); try with_reducible rfl
          try simp only [Act.put, List.setIfInBounds_toArray, List.set_cons_zero, List.set_cons_succ]
          refine wpAnyH_take (i := 1) (oi := { dst := some 48, op := Go.Op.move (Go.Operand.tmp 0), type := 22, pos := "ref.go:220", after := #[], guard := none }) (v := ?_) rfl (by kernel_rfl) (by kernel_rfl) (by kernel_rfl) (fun _ _ _ h => h) (Or.inl ⟨by rfl, ?_⟩) (by assumption) ?_
          rotate_left
          · (intro w hSw; (try dsimp only at hSw); go_simp); try with_reducible rfl
          try simp only [Act.put, List.setIfInBounds_toArray, List.set_cons_zero, List.set_cons_succ]
          refine wpAnyH_take (i := 2) (oi := { dst := some 49, op := Go.Op.move (Go.Operand.tmp 9), type := 3, pos := "ref.go:220", after := #[], guard := none }) (v := ?_) rfl (by kernel_rfl) (by kernel_rfl) (by kernel_rfl) (fun _ _ _ h => h) (Or.inl ⟨by rfl, ?_⟩) (by assumption) ?_
          rotate_left
          · (intro w hSw; (try dsimp only at hSw); go_simp); try with_reducible rfl
          try simp only [Act.put, List.setIfInBounds_toArray, List.set_cons_zero, List.set_cons_succ]
          refine wpAnyH_take (i := 3) (oi := { dst := some 50, op := Go.Op.indexAddr 22 (Go.Operand.tmp 48) (Go.Operand.tmp 49), type := 0, pos := "ref.go:220", after := #[{ on := 1, ground := Go.Ground.data }, { on := 2, ground := Go.Ground.data }], guard := none }) (v := ?_) rfl (by kernel_rfl) (by kernel_rfl) (by kernel_rfl) (fun _ _ _ h => h) (Or.inl ⟨by rfl, ?_⟩) (by assumption) ?_
          rotate_left
          · (intro w hSw; (try dsimp only at hSw); go_simp); try with_reducible rfl
          try simp only [Act.put, List.setIfInBounds_toArray, List.set_cons_zero, List.set_cons_succ]
          refine wpAnyH_take (i := 4) (oi := { dst := some 51, op := Go.Op.fieldAddr 41 (Go.Operand.tmp 50) 0, type := 0, pos := "ref.go:220", after := #[{ on := 3, ground := Go.Ground.data }], guard := none }) (v := ?_) rfl (by kernel_rfl) (by kernel_rfl) (by kernel_rfl) (fun _ _ _ h => h) (Or.inl ⟨by rfl, ?_⟩) (by assumption) ?_
          rotate_left
          · (intro w hSw; (try dsimp only at hSw); go_simp); try with_reducible rfl
          try simp only [Act.put, List.setIfInBounds_toArray, List.set_cons_zero, List.set_cons_succ]
          refine wpAnyH_take (i := 5) (oi := { dst := some 52, op := Go.Op.load 3 (Go.Operand.tmp 51), type := 3, pos := "ref.go:220", after := #[{ on := 4, ground := Go.Ground.data }], guard := none }) (v := ?_) rfl (by kernel_rfl) (by kernel_rfl) (by kernel_rfl) (fun _ _ _ h => h) (Or.inl ⟨by rfl, ?_⟩) (by assumption) ?_
          rotate_left
          · (intro w hSw; (try dsimp only at hSw); go_simp); try with_reducible rfl
          try simp only [Act.put, List.setIfInBounds_toArray, List.set_cons_zero, List.set_cons_succ]
          refine wpAnyH_take (i := 6) (oi := { dst := some 53, op := Go.Op.move (Go.Operand.tmp 1), type := 3, pos := "ref.go:220", after := #[], guard := none }) (v := ?_) rfl (by kernel_rfl) (by kernel_rfl) (by kernel_rfl) (fun _ _ _ h => h) (Or.inl ⟨by rfl, ?_⟩) (by assumption) ?_
          rotate_left
          · (intro w hSw; (try dsimp only at hSw); go_simp); try with_reducible rfl
          try simp only [Act.put, List.setIfInBounds_toArray, List.set_cons_zero, List.set_cons_succ]
          refine wpAnyH_take (i := 7) (oi := { dst := some 54, op := Go.Op.binOp Go.BinOp.add 3 (Go.Operand.tmp 52) (Go.Operand.tmp 53) 3, type := 3, pos := "ref.go:220", after := #[{ on := 5, ground := Go.Ground.data }, { on := 6, ground := Go.Ground.data }], guard := none }) (v := ?_) rfl (by kernel_rfl) (by kernel_rfl) (by kernel_rfl) (fun _ _ _ h => h) (Or.inl ⟨by rfl, ?_⟩) (by assumption) ?_
          rotate_left
          · (intro w hSw; (try dsimp only at hSw); go_simp); try with_reducible rfl
          try simp only [Act.put, List.setIfInBounds_toArray, List.set_cons_zero, List.set_cons_succ]
          refine wpAnyH_take (i := 8) (oi := { dst := some 55, op := Go.Op.move (Go.Operand.tmp 0), type := 22, pos := "ref.go:220", after := #[], guard := none }) (v := ?_) rfl (by kernel_rfl) (by kernel_rfl) (by kernel_rfl) (fun _ _ _ h => h) (Or.inl ⟨by rfl, ?_⟩) (by assumption) ?_
          rotate_left
          · (intro w hSw; (try dsimp only at hSw); go_simp); try with_reducible rfl
          try simp only [Act.put, List.setIfInBounds_toArray, List.set_cons_zero, List.set_cons_succ]
          refine wpAnyH_take (i := 9) (oi := { dst := some 56, op := Go.Op.move (Go.Operand.tmp 9), type := 3, pos := "ref.go:220", after := #[], guard := none }) (v := ?_) rfl (by kernel_rfl) (by kernel_rfl) (by kernel_rfl) (fun _ _ _ h => h) (Or.inl ⟨by rfl, ?_⟩) (by assumption) ?_
          rotate_left
          · (intro w hSw; (try dsimp only at hSw); go_simp); try with_reducible rfl
          try simp only [Act.put, List.setIfInBounds_toArray, List.set_cons_zero, List.set_cons_succ]
          refine wpAnyH_take (i := 10) (oi := { dst := some 57, op := Go.Op.indexAddr 22 (Go.Operand.tmp 55) (Go.Operand.tmp 56), type := 0, pos := "ref.go:220", after := #[{ on := 8, ground := Go.Ground.data }, { on := 9, ground := Go.Ground.data }], guard := none }) (v := ?_) rfl (by kernel_rfl) (by kernel_rfl) (by kernel_rfl) (fun _ _ _ h => h) (Or.inl ⟨by rfl, ?_⟩) (by assumption) ?_
          rotate_left
          · (intro w hSw; (try dsimp only at hSw); go_simp); try with_reducible rfl
          try simp only [Act.put, List.setIfInBounds_toArray, List.set_cons_zero, List.set_cons_succ]
          refine wpAnyH_take (i := 11) (oi := { dst := some 58, op := Go.Op.fieldAddr 41 (Go.Operand.tmp 57) 1, type := 0, pos := "ref.go:220", after := #[{ on := 10, ground := Go.Ground.data }], guard := none }) (v := ?_) rfl (by kernel_rfl) (by kernel_rfl) (by kernel_rfl) (fun _ _ _ h => h) (Or.inl ⟨by rfl, ?_⟩) (by assumption) ?_
          rotate_left
          · (intro w hSw; (try dsimp only at hSw); go_simp); try with_reducible rfl
          try simp only [Act.put, List.setIfInBounds_toArray, List.set_cons_zero, List.set_cons_succ]
          refine wpAnyH_take (i := 12) (oi := { dst := some 59, op := Go.Op.load 3 (Go.Operand.tmp 58), type := 3, pos := "ref.go:220", after := #[{ on := 11, ground := Go.Ground.data }], guard := none }) (v := ?_) rfl (by kernel_rfl) (by kernel_rfl) (by kernel_rfl) (fun _ _ _ h => h) (Or.inl ⟨by rfl, ?_⟩) (by assumption) ?_
          rotate_left
          · (intro w hSw; (try dsimp only at hSw); go_simp); try with_reducible rfl
          try simp only [Act.put, List.setIfInBounds_toArray, List.set_cons_zero, List.set_cons_succ]
          refine wpAnyH_take (i := 13) (oi := { dst := some 60, op := Go.Op.move (Go.Operand.tmp 2), type := 3, pos := "ref.go:220", after := #[], guard := none }) (v := ?_) rfl (by kernel_rfl) (by kernel_rfl) (by kernel_rfl) (fun _ _ _ h => h) (Or.inl ⟨by rfl, ?_⟩) (by assumption) ?_
          rotate_left
          · (intro w hSw; (try dsimp only at hSw); go_simp); try with_reducible rfl
          try simp only [Act.put, List.setIfInBounds_toArray, List.set_cons_zero, List.set_cons_succ]
          refine wpAnyH_take (i := 14) (oi := { dst := some 61, op := Go.Op.binOp Go.BinOp.add 3 (Go.Operand.tmp 59) (Go.Operand.tmp 60) 3, type := 3, pos := "ref.go:220", after := #[{ on := 12, ground := Go.Ground.data }, { on := 13, ground := Go.Ground.data }], guard := none }) (v := ?_) rfl (by kernel_rfl) (by kernel_rfl) (by kernel_rfl) (fun _ _ _ h => h) (Or.inl ⟨by rfl, ?_⟩) (by assumption) ?_
          rotate_left
          · (intro w hSw; (try dsimp only at hSw); go_simp); try with_reducible rfl
          try simp only [Act.put, List.setIfInBounds_toArray, List.set_cons_zero, List.set_cons_succ]
          refine wpAnyH_take (i := 15) (oi := { dst := some 62, op := Go.Op.move (Go.Operand.tmp 0), type := 22, pos := "ref.go:220", after := #[], guard := none }) (v := ?_) rfl (by kernel_rfl) (by kernel_rfl) (by kernel_rfl) (fun _ _ _ h => h) (Or.inl ⟨by rfl, ?_⟩) (by assumption) ?_
          rotate_left
          · (intro w hSw; (try dsimp only at hSw); go_simp); try with_reducible rfl
          try simp only [Act.put, List.setIfInBounds_toArray, List.set_cons_zero, List.set_cons_succ]
          refine wpAnyH_take (i := 16) (oi := { dst := some 63, op := Go.Op.move (Go.Operand.tmp 9), type := 3, pos := "ref.go:220", after := #[], guard := none }) (v := ?_) rfl (by kernel_rfl) (by kernel_rfl) (by kernel_rfl) (fun _ _ _ h => h) (Or.inl ⟨by rfl, ?_⟩) (by assumption) ?_
          rotate_left
          · (intro w hSw; (try dsimp only at hSw); go_simp); try with_reducible rfl
          try simp only [Act.put, List.setIfInBounds_toArray, List.set_cons_zero, List.set_cons_succ]
          refine wpAnyH_take (i := 17) (oi := { dst := some 64, op := Go.Op.indexAddr 22 (Go.Operand.tmp 62) (Go.Operand.tmp 63), type := 0, pos := "ref.go:220", after := #[{ on := 15, ground := Go.Ground.data }, { on := 16, ground := Go.Ground.data }], guard := none }) (v := ?_) rfl (by kernel_rfl) (by kernel_rfl) (by kernel_rfl) (fun _ _ _ h => h) (Or.inl ⟨by rfl, ?_⟩) (by assumption) ?_
          rotate_left
          · (intro w hSw; (try dsimp only at hSw); go_simp); try with_reducible rfl
          try simp only [Act.put, List.setIfInBounds_toArray, List.set_cons_zero, List.set_cons_succ]
          refine wpAnyH_take (i := 18) (oi := { dst := some 65, op := Go.Op.fieldAddr 41 (Go.Operand.tmp 64) 2, type := 0, pos := "ref.go:220", after := #[{ on := 17, ground := Go.Ground.data }], guard := none }) (v := ?_) rfl (by kernel_rfl) (by kernel_rfl) (by kernel_rfl) (fun _ _ _ h => h) (Or.inl ⟨by rfl, ?_⟩) (by assumption) ?_
          rotate_left
          · (intro w hSw; (try dsimp only at hSw); go_simp); try with_reducible rfl
          try simp only [Act.put, List.setIfInBounds_toArray, List.set_cons_zero, List.set_cons_succ]
          refine wpAnyH_take (i := 19) (oi := { dst := some 66, op := Go.Op.load 3 (Go.Operand.tmp 65), type := 3, pos := "ref.go:220", after := #[{ on := 18, ground := Go.Ground.data }], guard := none }) (v := ?_) rfl (by kernel_rfl) (by kernel_rfl) (by kernel_rfl) (fun _ _ _ h => h) (Or.inl ⟨by rfl, ?_⟩) (by assumption) ?_
          rotate_left
          · (intro w hSw; (try dsimp only at hSw); go_simp); try with_reducible rfl
          try simp only [Act.put, List.setIfInBounds_toArray, List.set_cons_zero, List.set_cons_succ]
          refine wpAnyH_take (i := 20) (oi := { dst := some 67, op := Go.Op.move (Go.Operand.tmp 1), type := 3, pos := "ref.go:220", after := #[], guard := none }) (v := ?_) rfl (by kernel_rfl) (by kernel_rfl) (by kernel_rfl) (fun _ _ _ h => h) (Or.inl ⟨by rfl, ?_⟩) (by assumption) ?_
          rotate_left
          · (intro w hSw; (try dsimp only at hSw); go_simp); try with_reducible rfl
          try simp only [Act.put, List.setIfInBounds_toArray, List.set_cons_zero, List.set_cons_succ]
          refine wpAnyH_take (i := 21) (oi := { dst := some 68, op := Go.Op.binOp Go.BinOp.add 3 (Go.Operand.tmp 66) (Go.Operand.tmp 67) 3, type := 3, pos := "ref.go:220", after := #[{ on := 19, ground := Go.Ground.data }, { on := 20, ground := Go.Ground.data }], guard := none }) (v := ?_) rfl (by kernel_rfl) (by kernel_rfl) (by kernel_rfl) (fun _ _ _ h => h) (Or.inl ⟨by rfl, ?_⟩) (by assumption) ?_
          rotate_left
          · (intro w hSw; (try dsimp only at hSw); go_simp); try with_reducible rfl
          try simp only [Act.put, List.setIfInBounds_toArray, List.set_cons_zero, List.set_cons_succ]
          refine wpAnyH_take (i := 22) (oi := { dst := some 69, op := Go.Op.move (Go.Operand.tmp 0), type := 22, pos := "ref.go:220", after := #[], guard := none }) (v := ?_) rfl (by kernel_rfl) (by kernel_rfl) (by kernel_rfl) (fun _ _ _ h => h) (Or.inl ⟨by rfl, ?_⟩) (by assumption) ?_
          rotate_left
          · (intro w hSw; (try dsimp only at hSw); go_simp); try with_reducible rfl
          try simp only [Act.put, List.setIfInBounds_toArray, List.set_cons_zero, List.set_cons_succ]
          refine wpAnyH_take (i := 23) (oi := { dst := some 70, op := Go.Op.move (Go.Operand.tmp 9), type := 3, pos := "ref.go:220", after := #[], guard := none }) (v := ?_) rfl (by kernel_rfl) (by kernel_rfl) (by kernel_rfl) (fun _ _ _ h => h) (Or.inl ⟨by rfl, ?_⟩) (by assumption) ?_
          rotate_left
          · (intro w hSw; (try dsimp only at hSw); go_simp); try with_reducible rfl
          try simp only [Act.put, List.setIfInBounds_toArray, List.set_cons_zero, List.set_cons_succ]
          refine wpAnyH_take (i := 24) (oi := { dst := some 71, op := Go.Op.indexAddr 22 (Go.Operand.tmp 69) (Go.Operand.tmp 70), type := 0, pos := "ref.go:220", after := #[{ on := 22, ground := Go.Ground.data }, { on := 23, ground := Go.Ground.data }], guard := none }) (v := ?_) rfl (by kernel_rfl) (by kernel_rfl) (by kernel_rfl) (fun _ _ _ h => h) (Or.inl ⟨by rfl, ?_⟩) (by assumption) ?_
          rotate_left
          · (intro w hSw; (try dsimp only at hSw); go_simp); try with_reducible rfl
          try simp only [Act.put, List.setIfInBounds_toArray, List.set_cons_zero, List.set_cons_succ]
          refine wpAnyH_take (i := 25) (oi := { dst := some 72, op := Go.Op.fieldAddr 41 (Go.Operand.tmp 71) 3, type := 0, pos := "ref.go:220", after := #[{ on := 24, ground := Go.Ground.data }], guard := none }) (v := ?_) rfl (by kernel_rfl) (by kernel_rfl) (by kernel_rfl) (fun _ _ _ h => h) (Or.inl ⟨by rfl, ?_⟩) (by assumption) ?_
          rotate_left
          · (intro w hSw; (try dsimp only at hSw); go_simp); try with_reducible rfl
          try simp only [Act.put, List.setIfInBounds_toArray, List.set_cons_zero, List.set_cons_succ]
          refine wpAnyH_take (i := 26) (oi := { dst := some 73, op := Go.Op.load 3 (Go.Operand.tmp 72), type := 3, pos := "ref.go:220", after := #[{ on := 25, ground := Go.Ground.data }], guard := none }) (v := ?_) rfl (by kernel_rfl) (by kernel_rfl) (by kernel_rfl) (fun _ _ _ h => h) (Or.inl ⟨by rfl, ?_⟩) (by assumption) ?_
          rotate_left
          · (intro w hSw; (try dsimp only at hSw); go_simp); try with_reducible rfl
          try simp only [Act.put, List.setIfInBounds_toArray, List.set_cons_zero, List.set_cons_succ]
          refine wpAnyH_take (i := 27) (oi := { dst := some 74, op := Go.Op.move (Go.Operand.tmp 2), type := 3, pos := "ref.go:220", after := #[], guard := none }) (v := ?_) rfl (by kernel_rfl) (by kernel_rfl) (by kernel_rfl) (fun _ _ _ h => h) (Or.inl ⟨by rfl, ?_⟩) (by assumption) ?_
          rotate_left
          · (intro w hSw; (try dsimp only at hSw); go_simp); try with_reducible rfl
          try simp only [Act.put, List.setIfInBounds_toArray, List.set_cons_zero, List.set_cons_succ]
          refine wpAnyH_take (i := 28) (oi := { dst := some 75, op := Go.Op.binOp Go.BinOp.add 3 (Go.Operand.tmp 73) (Go.Operand.tmp 74) 3, type := 3, pos := "ref.go:220", after := #[{ on := 26, ground := Go.Ground.data }, { on := 27, ground := Go.Ground.data }], guard := none }) (v := ?_) rfl (by kernel_rfl) (by kernel_rfl) (by kernel_rfl) (fun _ _ _ h => h) (Or.inl ⟨by rfl, ?_⟩) (by assumption) ?_
          rotate_left
          · (intro w hSw; (try dsimp only at hSw); go_simp); try with_reducible rfl
          try simp only [Act.put, List.setIfInBounds_toArray, List.set_cons_zero, List.set_cons_succ]
          refine wpAnyH_take (i := 29) (oi := { dst := some 76, op := Go.Op.build 41 #[(0, Go.Operand.tmp 54), (1, Go.Operand.tmp 61), (2, Go.Operand.tmp 68), (3, Go.Operand.tmp 75)], type := 41, pos := "ref.go:220", after := #[{ on := 7, ground := Go.Ground.data }, { on := 14, ground := Go.Ground.data }, { on := 21, ground := Go.Ground.data }, { on := 28, ground := Go.Ground.data }], guard := none }) (v := ?_) rfl (by kernel_rfl) (by kernel_rfl) (by kernel_rfl) (fun _ _ _ h => h) (Or.inl ⟨by rfl, ?_⟩) (by assumption) ?_
          rotate_left
          · (intro w hSw; (try dsimp only at hSw); go_simp); try with_reducible rfl
          try simp only [Act.put, List.setIfInBounds_toArray, List.set_cons_zero, List.set_cons_succ]
          refine wpAnyH_ready (rs := [30]) (by kernel_rfl) (by simp) ?_
          refine AllReadyH.cons (o := { dst := some 77, op := Go.Op.buildSlice 22 1 #[(0, Go.Operand.tmp 76)], type := 22, pos := "ref.go:220", after := #[{ on := 29, ground := Go.Ground.data }], guard := none }) rfl (fun Kx hKx => ?_) AllReadyH.nil
          go_simp
          refine hKx.out _ _ (Q4.go ‹_› ((Below.refl _ _).alloc (Nat.le_refl _) _)) (fun hHeld2 => ?_)
          clear hKx Kx hHeld
          have hHeld := hHeld2; clear hHeld2
          try simp only [Act.put, List.setIfInBounds_toArray, List.set_cons_zero, List.set_cons_succ]
          refine wpAnyH_ready (rs := [31]) (by kernel_rfl) (by simp) ?_
          refine AllReadyH.cons (o := { dst := some 78, op := Go.Op.call { callee := Go.Callee.builtin Go.Builtin.append, args := #[Go.Operand.tmp 47, Go.Operand.tmp 77], argTypes := #[22, 22] }, type := 22, pos := "ref.go:220", after := #[{ on := 0, ground := Go.Ground.data }, { on := 30, ground := Go.Ground.data }], guard := none }) rfl (fun Kx hKx => ?_) AllReadyH.nil
          try simp only [Act.put, List.setIfInBounds_toArray, List.set_cons_zero, List.set_cons_succ]
          refine wp_append_own _ (Operand.tmp 47) (Operand.tmp 77) 22 rfl w.heap.size 41 i0 (.agg #[.int .i64 0, .int .i64 0, .int .i64 0, .int .i64 0]) 4 32 Try.underlying22 hi9 hz0 hz1 hz2 rfl (by decide) (.slice A9 F.length c9) F.length (rcells F) rfl HOWN.out ⟨wx.drew.heap.size, 0, none⟩ 1 1 [.int .i64 (u.X0 + dx), .int .i64 (u.Y0 + dy), .int .i64 (u.X1 + dx), .int .i64 (u.Y1 + dy)] rfl rfl ?d1 ?d2 ?d3 ?d4 ?d5 ?_
          case d1 => exact World.news_of_block (cs := #[.int .i64 (u.X0 + dx), .int .i64 (u.Y0 + dy), .int .i64 (u.X1 + dx), .int .i64 (u.Y1 + dy)]) (t := 41) (fr := (0, 0)) (heap_alloc_new wx.drew _)
          case d2 => intro u hu; simp only [List.mem_cons, List.not_mem_nil, or_false] at hu; rcases hu with rfl | rfl | rfl | rfl <;> rfl
          case d3 => have := HML.out; unfold maxLen; omega
          case d4 => have := HML.out; omega
          case d5 => exact HSZ.out
          intro v6 w6 hown6 hgr6 _
          have HW6 := Lib.hid (HGROW.out v6 w6 hown6 hgr6)
          refine hKx.out _ _ (Q4.grow ‹_› hgr6 HAP.out) (fun hHeld2 => ?_)
          clear hKx Kx hHeld hown6 hgr6
          have hHeld := hHeld2; clear hHeld2
          try simp only [Act.put, List.setIfInBounds_toArray, List.set_cons_zero, List.set_cons_succ]
          refine wpAnyH_take (i := 32) (oi := { dst := some 8, op := Go.Op.assign (Go.Operand.tmp 78), type := 22, pos := "ref.go:220", after := #[{ on := 31, ground := Go.Ground.data }, { on := 31, ground := Go.Ground.chain }, { on := 0, ground := Go.Ground.phase }, { on := 1, ground := Go.Ground.phase }, { on := 2, ground := Go.Ground.phase }, { on := 3, ground := Go.Ground.phase }, { on := 4, ground := Go.Ground.phase }, { on := 5, ground := Go.Ground.phase }, { on := 6, ground := Go.Ground.phase }, { on := 7, ground := Go.Ground.phase }, { on := 8, ground := Go.Ground.phase }, { on := 9, ground := Go.Ground.phase }, { on := 10, ground := Go.Ground.phase }, { on := 11, ground := Go.Ground.phase }, { on := 12, ground := Go.Ground.phase }, { on := 13, ground := Go.Ground.phase }, { on := 14, ground := Go.Ground.phase }, { on := 15, ground := Go.Ground.phase }, { on := 16, ground := Go.Ground.phase }, { on := 17, ground := Go.Ground.phase }, { on := 18, ground := Go.Ground.phase }, { on := 19, ground := Go.Ground.phase }, { on := 20, ground := Go.Ground.phase }, { on := 21, ground := Go.Ground.phase }, { on := 22, ground := Go.Ground.phase }, { on := 23, ground := Go.Ground.phase }, { on := 24, ground := Go.Ground.phase }, { on := 25, ground := Go.Ground.phase }, { on := 26, ground := Go.Ground.phase }, { on := 27, ground := Go.Ground.phase }, { on := 28, ground := Go.Ground.phase }, { on := 29, ground := Go.Ground.phase }, { on := 30, ground := Go.Ground.phase }, { on := 31, ground := Go.Ground.phase }], guard := none }) (v := ?_) rfl (by kernel_rfl) (by kernel_rfl) (by kernel_rfl) (fun _ _ _ h => h) (Or.inl ⟨by rfl, ?_⟩) (by assumption) ?_
          rotate_left
          · (intro w hSw; (try dsimp only at hSw); go_simp); try with_reducible rfl
          try simp only [Act.put, List.setIfInBounds_toArray, List.set_cons_zero, List.set_cons_succ]
          refine wpAnyH_done (by kernel_rfl) ?_ _
          clear hHeld
          go_wp2_with fail
          go_roundw
          case rel => exact ⟨k + 1, _, by omega, by go_num, rfl, HW6, HTK⟩
          case measure => simp [intOf]; omega
        · have dm2 : decide (MovI u.Y0 u.Y1 dy) = false := decide_eq_false m2
          have HN := Lib.hid (HNO.out (fun h => m2 h.2))
          clear m1 m2 HTN HNO
          go_wp2_with fail
          go_quiet ((go_at_call 85; exact Calls.quiet_of_same (vmoves_any _ _ _ _ ⟨by omega, by omega⟩ ⟨by omega, by omega⟩)))
          go_wp2_with fail
          go_ret2
          exact ⟨_, by rw [HN.out]; rfl, by rw [HN.out]; exact World.ownsRow_nil _ _ _ _, below_drewN HS.out.bel _⟩
      · have dm1 : decide (MovI u.X0 u.X1 dx) = false := decide_eq_false m1
        have HN := Lib.hid (HNO.out (fun h => m1 h.1))
        clear m1 HTN HNO
        go_wp2_with fail
        go_quiet ((go_at_call 85; exact Calls.quiet_of_same (vmoves_any _ _ _ _ ⟨by omega, by omega⟩ ⟨by omega, by omega⟩)))
        go_wp2_with fail
        go_ret2
        exact ⟨_, by rw [HN.out]; rfl, by rw [HN.out]; exact World.ownsRow_nil _ _ _ _, below_drewN HS.out.bel _⟩
    · obtain rfl : k = l.length := by omega
      have HALL := Lib.hid (HSI.out.1 (fun r hm => by
        obtain ⟨j, hj, rfl⟩ := List.mem_iff_getElem.1 hm
        exact HT.out j hj hj))
      rw [List.take_length] at HS
      obtain ⟨A9, c9, rfl, _⟩ := own_rects HS.out.own
      have FIN : Hid (ResIs R w (.returned (.tuple #[.slice A9 (l.map (mvR dx dy)).length c9, .int .i64 0])) wr) := Lib.hid (by rw [HALL.out]; exact ⟨_, rfl, HS.out.own, HS.out.bel⟩)
      clear HS HALL HT HSI
      generalize (l.map (mvR dx dy)).length = n9 at *
      go_wp2_with fail
      go_ret2
      exact FIN.out
theorem vshift_any (A : Option Addr) (cap : Nat) (l : List Rc) (dx dy : Int) (w : World) (hl : RIn w A cap l) :
    Calls Try.prog 44 #[.slice A l.length cap, .int .i64 dx, .int .i64 dy] w (ResIs (shiftG l dx dy) w) := by
  by_cases hr : RegP l
  · exact vshift_yes A cap l dx dy w hl hr
  · have HR := Lib.hid (vRight_no A cap l w hl.row hl.len hr)
    rw [show shiftG l dx dy = ([], 1) from if_neg hr]
    clear hl hr
    go_enter Try.func44, Try.ntmps44
    go_wp2_with fail
    refine HR.out.mono ?_
    rintro e1 w1 ⟨rfl, hb1⟩
    have HB1 := Lib.hid hb1; clear hb1
    go_wp2_with fail
    go_ret2
    exact ⟨_, rfl, World.ownsRow_nil _ _ _ _, HB1.out⟩
end Go.Proofs.Ytcnojedijimheaa
