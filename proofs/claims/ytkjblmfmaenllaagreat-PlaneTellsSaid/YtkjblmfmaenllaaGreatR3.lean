/-
  Contracts of the program's layer 10, 10: Allows; the law's valid and few.
  The laws' example of layer 10: what the functions return there.
-/
import Derived.Test.YtkjblmfmaenllaaGreatR2
import Derived.Test.YtkjblmfmaenllaaGreatWu
import Derived.Test.YtkjblmfmaenllaaGreatW3
set_option linter.unusedVariables false
set_option maxRecDepth 100000
namespace Go.Proofs.YtkjblmfmaenllaaGreat
open Go.RowKit

/-- whether all cubes of a solid are allowed. -/
def AlIs (r : Rc) (l : List Pl) (S : List Sl) (w : World) (e : Ending) (w' : World) : Prop := ∃ b : Bool, (b = true ↔ (ArgOk r l ∧ SolP S) ∧ AllB r l S) ∧ BlIs b w e w'
set_option maxHeartbeats 16000000 in
theorem kAllows_any (r : Rc) (A : Option Addr) (cap : Nat) (l : List Pl) (A2 : Option Addr) (c2 : Nat) (S : List Sl) (w : World) (hl : PlIn w A cap l) (hs : SIn w A2 c2 S) :
    Calls Tryz.prog 19 #[.agg #[.int .i64 r.X0, .int .i64 r.Y0, .int .i64 r.X1, .int .i64 r.Y1], .slice A l.length cap, .slice A2 S.length c2] w (AlIs r l S w) := by
  obtain ⟨W0, hW0⟩ : ∃ W0, W0 = w.alloc (.cells #[.int .i64 r.X0, .int .i64 r.Y0, .int .i64 r.X1, .int .i64 r.Y1] 33) := ⟨_, rfl⟩
  have b0 : Below w.heap.size w W0 := by rw [hW0]; exact (Below.refl _ _).alloc (Nat.le_refl _) _
  have k0 : RcAt W0 w.heap.size r := by rw [hW0]; exact RcAt.new w r _ rfl
  have KR := Lib.hid k0
  have HB0 := Lib.hid b0
  have HF := Lib.hid (fun w' (h : Below w.heap.size w w') => kFirst_any r A cap l A2 c2 S w' (hl.below h) (hs.below h))
  have HAR := Lib.hid (fun w' (h : Below w.heap.size w w') => kareR_any r A cap l w' (hl.below h))
  have HBR := Lib.hid (fun w' (h : Below w.heap.size w w') => bright_any A2 c2 S w' (hs.below h))
  have x0 := KR.out.cell0; have x1 := KR.out.cell1; have x2 := KR.out.cell2; have x3 := KR.out.cell3; have xl := KR.out.lt
  clear b0 k0 hl hs
  go_enter Tryz.func19, Tryz.ntmps19
  go_wp2_with fail
  rw [← hW0]
  clear hW0
  refine (HF.out _ HB0.out).mono ?_
  rintro e w1 ⟨⟨p, is⟩, rfl, hx, hb⟩
  have HX := Lib.hid hx
  have ba := (Below.refl w1.heap.size w1).alloc (Nat.le_refl _) (.cells #[.int .i64 p.x, .int .i64 p.y, .int .i64 p.z] 37)
  have B1 := Lib.hid (HB0.out.trans ((hb.trans (ba.mono hb.size)).mono HB0.out.size))
  have K1 := Lib.hid ((KR.out.below hb KR.out.lt).below ba (KR.out.below hb KR.out.lt).lt)
  clear hb ba KR HB0 HF hx x0 x1 x2 x3 xl
  have x0 := K1.out.cell0; have x1 := K1.out.cell1; have x2 := K1.out.cell2; have x3 := K1.out.cell3; have xl := K1.out.lt
  cases is with
  | true =>
    have HN : Hid (false = true ↔ (ArgOk r l ∧ SolP S) ∧ AllB r l S) := Lib.hid ⟨fun h => (by cases h), fun h => (by
      have := HX.out.1 h.1
      have k := (FstP.all this).2 h.2
      cases k)⟩
    clear HX HAR HBR
    go_wp2_with fail
    go_ret
    exact ⟨false, HN.out, rfl, B1.out⟩
  | false =>
    have HA : Hid (ArgOk r l ∧ SolP S → AllB r l S) := Lib.hid (fun h => (FstP.all (HX.out.1 h)).1 rfl)
    clear HX
    by_cases ca : ArgOk r l
    · rw [decide_eq_true ca] at HAR
      go_wp2_with fail
      generalize World.alloc w1 _ = w2 at *
      refine (HAR.out _ B1.out).mono ?_
      rintro e w3 ⟨rfl, hb⟩
      have B3 := Lib.hid (B1.out.trans (hb.mono B1.out.size)); clear hb B1 K1 HAR x0 x1 x2 x3 xl
      go_wp2_with fail
      refine (HBR.out _ B3.out).mono ?_
      rintro e w4 ⟨bb, hbb, rfl, hb⟩
      have B4 := Lib.hid (B3.out.trans (hb.mono B3.out.size))
      have HN : Hid (bb = true ↔ (ArgOk r l ∧ SolP S) ∧ AllB r l S) := Lib.hid ⟨fun h => ⟨⟨ca, hbb.1 h⟩, HA.out ⟨ca, hbb.1 h⟩⟩, fun h => hbb.2 h.1.2⟩
      clear hb B3 HBR hbb ca HA
      go_wp2_with fail
      go_ret
      exact ⟨bb, HN.out, rfl, B4.out⟩
    · rw [decide_eq_false ca] at HAR
      have HN : Hid (false = true ↔ (ArgOk r l ∧ SolP S) ∧ AllB r l S) := Lib.hid ⟨fun h => (by cases h), fun h => absurd h.1.1 ca⟩
      clear HBR HA ca
      go_wp2_with fail
      generalize World.alloc w1 _ = w2 at *
      refine (HAR.out _ B1.out).mono ?_
      rintro e w3 ⟨rfl, hb⟩
      have B3 := Lib.hid (B1.out.trans (hb.mono B1.out.size)); clear hb B1 K1 HAR x0 x1 x2 x3 xl
      go_wp2_with fail
      go_ret
      exact ⟨false, HN.out, rfl, B3.out⟩
/-! ### the law's valid and few -/
end Go.Proofs.YtkjblmfmaenllaaGreat
namespace Go.Proofs.YtkjblmfmaenllaaGreat

/-! ### the example -/
def RX : Rc := ⟨0, 0, 10, 10⟩
def PX : Pl := ⟨0, 9, 3, 2⟩
def PE : Pl := ⟨1, 0, 1, 1⟩
def BX : List Bx := [⟨⟨0, 0, 2, 2⟩, 0, 10⟩]
def SX : List Sl := [⟨0, 10, [⟨0, 0, 2, 2⟩]⟩]
def R9 : Rc := ⟨0, 0, 1048576, 1048576⟩
def R12 : Rc := ⟨2, 0, 1048576, 1048576⟩
theorem ex_arg : ROk RX ∧ ∀ p ∈ [PX], PlOk p := by decide
theorem ex_arg2 : ROk RX ∧ ∀ p ∈ [PX, PE], PlOk p := by decide
instance decSl10 : DecidableEq Sl := fun a b => decidable_of_iff (a.z0 = b.z0 ∧ a.z1 = b.z1 ∧ a.ar = b.ar) ⟨fun h => Sl.eq h.1 h.2.1 h.2.2, fun h => by subst h; exact ⟨rfl, rfl, rfl⟩⟩
theorem ex_of10 : ofS BX = (SX, 0) := by decide +kernel
theorem ex_solP : SolP SX := by
  have h := ex_of10
  unfold ofS at h
  rw [if_pos (by decide), if_pos (by decide)] at h
  unfold capS at h
  by_cases q : (solB BX).length ≤ 80 ∧ ∀ s ∈ solB BX, s.ar.length ≤ 200
  · rw [if_pos q] at h
    injection h with h _
    rw [← h]
    exact ⟨(solB_is (by decide)).1, q.1, q.2⟩
  · rw [if_neg q] at h
    injection h with _ h
    cases h
theorem ex_top1 : topH RX [PX] 0 0 = 9 := by decide +kernel
theorem ex_top2 : topH RX [PX] 1 0 = 10 := by decide +kernel
theorem ex_top3 : topH RX [PX] 2 5 = 12 := by decide +kernel
theorem ex_top4 : topH RX [PX] 10 0 = 24 := by decide +kernel
theorem ex_top5 : topH RX [PX, PE] 0 0 = 9 := by decide +kernel
theorem ex_dist : distP RX 3 0 3 = 6 := by decide +kernel
theorem ex_room9 : roomS RX [PX] 9 = [R9] := by decide +kernel
theorem ex_room12 : roomS RX [PX] 12 = [R12] := by decide +kernel
theorem ex_first : FstP RX [PX] SX (⟨0, 0, 9⟩, true) := by
  have hsec : ∀ z, secS SX z = if 0 ≤ z ∧ z < 10 then [⟨0, 0, 2, 2⟩] else [] := fun z => rfl
  refine Or.inl ⟨rfl, ?_, by show topH RX [PX] 0 0 ≤ 9; rw [ex_top1]; decide, fun x y z h hb => ?_⟩
  · rw [hsec, if_pos (by decide)]
    exact ⟨_, List.mem_singleton.2 rfl, by decide⟩
  · rw [hsec] at h
    have hz : 0 ≤ z ∧ z < 10 := by
      by_cases c : 0 ≤ z ∧ z < 10
      · exact c
      · rw [if_neg c] at h; obtain ⟨q, hq, _⟩ := h; cases hq
    rw [if_pos hz] at h
    obtain ⟨q, hq, _, h1, h2, h3, h4⟩ := h
    rw [List.mem_singleton] at hq
    subst hq
    simp only [] at h1 h2 h3 h4
    have hz9 : z < 9 := by
      rcases hb with hb | ⟨hb, hl⟩
      · exact hb
      · unfold LexC at hl
        simp only [] at hl
        omega
    refine (top_iff (r := RX) (l := [PX]) (by decide) (by omega) (by omega)).2 (fun p hp => ?_)
    rw [List.mem_singleton] at hp
    subst hp
    show (z + 1 - 9) * 2 ≤ 3 * (x - 0)
    omega
end Go.Proofs.YtkjblmfmaenllaaGreat
