/-
  Contracts of the reference of layer 10, 9: Allows.
-/
import Derived.Test.YtkjblmfmaenllaaGreatWm
import Derived.Test.YtkjblmfmaenllaaGreatR3
set_option linter.unusedVariables false
set_option maxRecDepth 100000
namespace Go.Proofs.YtkjblmfmaenllaaGreat
open Go.RowKit

set_option maxHeartbeats 16000000 in
theorem nAllows_any (r : Rc) (A : Option Addr) (cap : Nat) (l : List Pl) (A2 : Option Addr) (c2 : Nat) (S : List Sl) (w : World) (hl : PlIn w A cap l) (hs : SIn w A2 c2 S) :
    Calls Tryz.prog 20 #[.agg #[.int .i64 r.X0, .int .i64 r.Y0, .int .i64 r.X1, .int .i64 r.Y1], .slice A l.length cap, .slice A2 S.length c2] w (AlIs r l S w) := by
  obtain ⟨W0, hW0⟩ : ∃ W0, W0 = w.alloc (.cells #[.int .i64 r.X0, .int .i64 r.Y0, .int .i64 r.X1, .int .i64 r.Y1] 33) := ⟨_, rfl⟩
  have b0 : Below w.heap.size w W0 := by rw [hW0]; exact (Below.refl _ _).alloc (Nat.le_refl _) _
  have k0 : RcAt W0 w.heap.size r := by rw [hW0]; exact RcAt.new w r _ rfl
  have KR := Lib.hid k0
  have HB0 := Lib.hid b0
  have HF := Lib.hid (fun w' (h : Below w.heap.size w w') => nFirst_any r A cap l A2 c2 S w' (hl.below h) (hs.below h))
  have HAR := Lib.hid (fun w' (h : Below w.heap.size w w') => nvalid_any r A cap l w' (hl.below h))
  have HBY := Lib.hid (fun (h1 : SolP S) w' (h : Below w.heap.size w w') => dright_yes (hs.below h) h1)
  have HBN := Lib.hid (fun (h1 : ¬ SolP S) w' (h : Below w.heap.size w w') => dright_no (hs.below h) h1)
  have x0 := KR.out.cell0; have x1 := KR.out.cell1; have x2 := KR.out.cell2; have x3 := KR.out.cell3; have xl := KR.out.lt
  clear b0 k0 hl hs
  go_enter Tryz.func20, Tryz.ntmps20
  go_wp2_with fail
  rw [← hW0]
  clear hW0
  refine (HF.out _ HB0.out).mono ?_
  rintro e w1 ⟨⟨p, is⟩, rfl, hx, hb⟩
  have HX := Lib.hid hx
  have ba := (Below.refl w1.heap.size w1).alloc (Nat.le_refl _) (.cells #[.int .i64 p.x, .int .i64 p.y, .int .i64 p.z] 37)
  have B1 := Lib.hid (HB0.out.trans ((hb.trans (ba.mono hb.size)).mono HB0.out.size))
  have K1 := Lib.hid ((KR.out.below hb KR.out.lt).below ba (KR.out.below hb KR.out.lt).lt)
  clear hb ba KR HB0 HF hx x0 x1 x2 x3 xl
  have x0 := K1.out.cell0; have x1 := K1.out.cell1; have x2 := K1.out.cell2; have x3 := K1.out.cell3; have xl := K1.out.lt
  by_cases ca : ArgOk r l
  · rw [decide_eq_true ca] at HAR
    by_cases cs : SolP S
    · replace HBY := Lib.hid (HBY.out cs)
      cases is with
      | true =>
        have HN : Hid (false = true ↔ (ArgOk r l ∧ SolP S) ∧ AllB r l S) := Lib.hid ⟨fun h => (by cases h), fun h => (by
          have k := (FstP.all (HX.out.1 h.1)).2 h.2
          cases k)⟩
        clear HX HBN ca cs
        go_wp2_with fail
        generalize World.alloc w1 _ = w2 at *
        refine (HAR.out _ B1.out).mono ?_
        rintro e w3 ⟨rfl, hb⟩
        have B3 := Lib.hid (B1.out.trans (hb.mono B1.out.size)); clear hb HAR
        go_wp2_with fail
        refine (HBY.out _ B3.out).mono ?_
        rintro e w4 ⟨rfl, hb⟩
        have B4 := Lib.hid (B3.out.trans (hb.mono B3.out.size)); clear hb HBY
        go_wp2_with fail
        go_ret
        exact ⟨false, HN.out, rfl, B4.out⟩
      | false =>
        have HN : Hid (true = true ↔ (ArgOk r l ∧ SolP S) ∧ AllB r l S) := Lib.hid ⟨fun _ => ⟨⟨ca, cs⟩, (FstP.all (HX.out.1 ⟨ca, cs⟩)).1 rfl⟩, fun _ => rfl⟩
        clear HX HBN ca cs
        go_wp2_with fail
        generalize World.alloc w1 _ = w2 at *
        refine (HAR.out _ B1.out).mono ?_
        rintro e w3 ⟨rfl, hb⟩
        have B3 := Lib.hid (B1.out.trans (hb.mono B1.out.size)); clear hb HAR
        go_wp2_with fail
        refine (HBY.out _ B3.out).mono ?_
        rintro e w4 ⟨rfl, hb⟩
        have B4 := Lib.hid (B3.out.trans (hb.mono B3.out.size)); clear hb HBY
        go_wp2_with fail
        go_ret
        exact ⟨true, ⟨fun _ => HN.out.1 trivial, fun _ => rfl⟩, rfl, B4.out⟩
    · replace HBN := Lib.hid (HBN.out cs)
      have HN : Hid (false = true ↔ (ArgOk r l ∧ SolP S) ∧ AllB r l S) := Lib.hid ⟨fun h => (by cases h), fun h => absurd h.1.2 cs⟩
      clear HX HBY ca cs
      go_wp2_with fail
      generalize World.alloc w1 _ = w2 at *
      refine (HAR.out _ B1.out).mono ?_
      rintro e w3 ⟨rfl, hb⟩
      have B3 := Lib.hid (B1.out.trans (hb.mono B1.out.size)); clear hb HAR
      go_wp2_with fail
      refine (HBN.out _ B3.out).mono ?_
      rintro e w4 ⟨rfl, hb⟩
      have B4 := Lib.hid (B3.out.trans (hb.mono B3.out.size)); clear hb HBN
      go_wp2_with fail
      go_ret
      exact ⟨false, HN.out, rfl, B4.out⟩
  · rw [decide_eq_false ca] at HAR
    have HN : Hid (false = true ↔ (ArgOk r l ∧ SolP S) ∧ AllB r l S) := Lib.hid ⟨fun h => (by cases h), fun h => absurd h.1.1 ca⟩
    clear HX HBY HBN ca
    go_wp2_with fail
    generalize World.alloc w1 _ = w2 at *
    refine (HAR.out _ B1.out).mono ?_
    rintro e w3 ⟨rfl, hb⟩
    have B3 := Lib.hid (B1.out.trans (hb.mono B1.out.size)); clear hb HAR
    go_wp2_with fail
    go_ret
    exact ⟨false, HN.out, rfl, B3.out⟩
end Go.Proofs.YtkjblmfmaenllaaGreat
