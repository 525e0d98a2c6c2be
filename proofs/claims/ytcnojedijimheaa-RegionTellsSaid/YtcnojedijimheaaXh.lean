/-
  Contracts of the reference of layer 6 (10): op, Union, Common, Minus, Area, Has of any list.
-/
import Derived.Test.YtcnojedijimheaaXn
import Derived.Test.YtcnojedijimheaaGx
import Derived.Test.YtcnojedijimheaaGi
import Derived.Test.YtcnojedijimheaaGj
import Derived.Test.YtcnojedijimheaaIh
import Derived.BigQuiet
set_option linter.unusedVariables false
set_option maxRecDepth 100000
namespace Go.Proofs.Ytcnojedijimheaa
open Go.RowKit

set_option maxHeartbeats 8000000 in
theorem vop_any (n : Int) (op : Bool → Bool → Bool) (h0 : op false false = false) (hop : CombOk n op) (A1 : Option Addr) (c1 : Nat) (A2 : Option Addr) (c2 : Nat) (a b : List Rc) (w : World) (ha : RIn w A1 c1 a) (hb : RIn w A2 c2 b) :
    Calls Try.prog 81 #[.slice A1 a.length c1, .slice A2 b.length c2, .int .i64 n] w (ResIs (opR op a b) w) := by
  have HR1 := Lib.hid (vRight_dec A1 c1 a w ha)
  have HR2 := Lib.hid (fun w' (h : Below w.heap.size w w') => vRight_dec A2 c2 b w' (hb.below h))
  by_cases ra : RegP a
  · rw [decide_eq_true ra] at HR1
    by_cases rb : RegP b
    · rw [decide_eq_true rb] at HR2
      rw [show opR op a b = capR (formO op a b) from if_pos ⟨ra, rb⟩]
      have HF := Lib.hid (fun w' (h : Below w.heap.size w w') => vForm_any n op h0 hop A1 c1 A2 c2 a b w' (ha.below h).row (hb.below h).row (by have := ra.2; omega) (by have := rb.2; omega) (form_ok ra.1) (form_ok rb.1))
      obtain ⟨F, hF⟩ : ∃ F, F = formO op a b := ⟨_, rfl⟩
      rw [← hF] at HF ⊢
      clear hF ra rb ha hb h0 hop
      go_enter Try.func81, Try.ntmps81
      go_wp2_with fail
      refine HR1.out.mono ?_
      rintro e1 w1 ⟨rfl, hb1⟩
      have HB1 := Lib.hid hb1; clear hb1
      go_wp2_with fail
      refine (HR2.out _ HB1.out).mono ?_
      rintro e2 w2 ⟨rfl, hb2⟩
      have HB2 := Lib.hid (HB1.out.trans (hb2.mono HB1.out.size)); clear hb2 HB1
      go_wp2_with fail
      refine (HF.out _ HB2.out).mono ?_
      rintro e3 w3 ⟨v3, rfl, h3, h4⟩
      have HB3 := Lib.hid (HB2.out.trans (h4.mono HB2.out.size))
      have HO := Lib.hid (own_base h3 HB2.out.size)
      obtain ⟨A6, c6, rfl, _⟩ := own_rects HO.out
      clear h3 h4 HB2
      by_cases h200 : 200 < F.length
      · have s2 : (200 : Int) < (F.length : Int) := by omega
        have FIN : Hid (ResIs (capR F) w (.returned (.tuple #[.slice none 0 0, .int .i64 6])) w3) := Lib.hid (by
          unfold capR; rw [if_neg (by omega)]; exact ⟨_, rfl, World.ownsRow_nil _ _ _ _, HB3.out⟩)
        go_wp2_with fail
        go_ret2
        exact FIN.out
      · have s2 : ¬ (200 : Int) < (F.length : Int) := by omega
        have FIN : Hid (ResIs (capR F) w (.returned (.tuple #[.slice A6 F.length c6, .int .i64 0])) w3) := Lib.hid (by
          unfold capR; rw [if_pos (by omega)]; exact ⟨_, rfl, HO.out, HB3.out⟩)
        go_wp2_with fail
        go_ret2
        exact FIN.out
    · rw [decide_eq_false rb] at HR2
      rw [show opR op a b = ([], 1) from if_neg (fun h => rb h.2)]
      clear ra rb ha hb h0 hop
      go_enter Try.func81, Try.ntmps81
      go_wp2_with fail
      refine HR1.out.mono ?_
      rintro e1 w1 ⟨rfl, hb1⟩
      have HB1 := Lib.hid hb1; clear hb1
      go_wp2_with fail
      refine (HR2.out _ HB1.out).mono ?_
      rintro e2 w2 ⟨rfl, hb2⟩
      have HB2 := Lib.hid (HB1.out.trans (hb2.mono HB1.out.size)); clear hb2 HB1
      go_wp2_with fail
      go_ret2
      exact ⟨_, rfl, World.ownsRow_nil _ _ _ _, HB2.out⟩
  · rw [decide_eq_false ra] at HR1
    rw [show opR op a b = ([], 1) from if_neg (fun h => ra h.1)]
    clear ra ha hb h0 hop HR2
    go_enter Try.func81, Try.ntmps81
    go_wp2_with fail
    refine HR1.out.mono ?_
    rintro e1 w1 ⟨rfl, hb1⟩
    have HB1 := Lib.hid hb1; clear hb1
    go_wp2_with fail
    go_ret2
    exact ⟨_, rfl, World.ownsRow_nil _ _ _ _, HB1.out⟩
theorem vunion_any (A1 : Option Addr) (c1 : Nat) (A2 : Option Addr) (c2 : Nat) (a b : List Rc) (w : World) (ha : RIn w A1 c1 a) (hb : RIn w A2 c2 b) :
    Calls Try.prog 39 #[.slice A1 a.length c1, .slice A2 b.length c2] w (ResIs (opR or a b) w) := by
  have HC := Lib.hid (vop_any 0 or rfl vcombine_or A1 c1 A2 c2 a b w ha hb)
  clear ha hb
  generalize opR or a b = R at *
  go_enter Try.func39, Try.ntmps39
  go_wp2_with fail
  refine HC.out.mono ?_
  rintro e1 w1 hres
  obtain ⟨A3, c3, rfl, h3, h4⟩ := hres.parts
  have FR : Hid (ResIs R w (.returned (.tuple #[.slice A3 R.1.length c3, .int .i64 R.2])) w1) := Lib.hid ⟨_, rfl, h3, h4⟩
  clear hres h3 h4 HC
  generalize R.1.length = n2 at *
  generalize R.2 = er2 at *
  go_wp2_with fail
  go_ret2
  exact FR.out
theorem vcommon_any (A1 : Option Addr) (c1 : Nat) (A2 : Option Addr) (c2 : Nat) (a b : List Rc) (w : World) (ha : RIn w A1 c1 a) (hb : RIn w A2 c2 b) :
    Calls Try.prog 41 #[.slice A1 a.length c1, .slice A2 b.length c2] w (ResIs (opR and a b) w) := by
  have HC := Lib.hid (vop_any 1 and rfl vcombine_and A1 c1 A2 c2 a b w ha hb)
  clear ha hb
  generalize opR and a b = R at *
  go_enter Try.func41, Try.ntmps41
  go_wp2_with fail
  refine HC.out.mono ?_
  rintro e1 w1 hres
  obtain ⟨A3, c3, rfl, h3, h4⟩ := hres.parts
  have FR : Hid (ResIs R w (.returned (.tuple #[.slice A3 R.1.length c3, .int .i64 R.2])) w1) := Lib.hid ⟨_, rfl, h3, h4⟩
  clear hres h3 h4 HC
  generalize R.1.length = n2 at *
  generalize R.2 = er2 at *
  go_wp2_with fail
  go_ret2
  exact FR.out
theorem vminus_any (A1 : Option Addr) (c1 : Nat) (A2 : Option Addr) (c2 : Nat) (a b : List Rc) (w : World) (ha : RIn w A1 c1 a) (hb : RIn w A2 c2 b) :
    Calls Try.prog 42 #[.slice A1 a.length c1, .slice A2 b.length c2] w (ResIs (opR andnot a b) w) := by
  have HC := Lib.hid (vop_any 2 andnot rfl vcombine_sub A1 c1 A2 c2 a b w ha hb)
  clear ha hb
  generalize opR andnot a b = R at *
  go_enter Try.func42, Try.ntmps42
  go_wp2_with fail
  refine HC.out.mono ?_
  rintro e1 w1 hres
  obtain ⟨A3, c3, rfl, h3, h4⟩ := hres.parts
  have FR : Hid (ResIs R w (.returned (.tuple #[.slice A3 R.1.length c3, .int .i64 R.2])) w1) := Lib.hid ⟨_, rfl, h3, h4⟩
  clear hres h3 h4 HC
  generalize R.1.length = n2 at *
  generalize R.2 = er2 at *
  go_wp2_with fail
  go_ret2
  exact FR.out
set_option maxHeartbeats 16000000 in
theorem varea_yes (A : Option Addr) (cap : Nat) (l : List Rc) (w : World) (h : RIn w A cap l) (hr : RegP l) : Calls Try.prog 48 #[.slice A l.length cap] w (InIs (areaL l) w) := by
  have RA := Lib.hid (vRight_yes A cap l w h.row h.len hr)
  have H := Lib.hid h
  have HOK := Lib.hid (form_ok hr.1)
  have hlen := hr.2
  clear h hr
  go_enter Try.func48, Try.ntmps48
  go_wp2_with fail
  refine RA.out.mono ?_
  rintro e1 w1 ⟨rfl, hb1⟩
  have HB1 := Lib.hid hb1; clear hb1 RA
  go_wp2_with fail
  go_loopw [3, 4] (fun s i wr => ∃ k : Nat, k ≤ l.length ∧ i = .int .i64 k ∧ s = .int .i64 (areaL (l.take k)) ∧ Hid (Below w.heap.size w wr)) (fun _ i _ => l.length - (intOf i).toNat)
  case atStart => exact ⟨0, Nat.zero_le _, rfl, rfl, HB1⟩
  case round =>
    clear HB1
    obtain ⟨k, hk, rfl, rfl, HB⟩ := hrel
    by_cases hlt : k < l.length
    · obtain ⟨b1, o1, rfl, hb1, hv1⟩ := H.out.row (by omega)
      obtain ⟨x0, x1, x2, x3⟩ := hv1 k hlt
      have wc := fun o => HB.out.cell (p := ⟨b1, o, none⟩) hb1
      have x0 := (wc _).trans x0; have x1 := (wc _).trans x1; have x2 := (wc _).trans x2; have x3 := (wc _).trans x3
      have hbw : b1 < wr.heap.size := Nat.lt_of_lt_of_le hb1 HB.out.size
      clear hv1 wc
      have i0 : (0 : Int) ≤ (k : Int) := by omega
      have i1 : (k : Int) < (l.length : Int) := by omega
      have hok := HOK.out _ (List.getElem_mem hlt)
      have HNX : Hid (areaL (l.take (k + 1)) = areaL (l.take k) + areaR l[k]) := Lib.hid (by rw [List.take_succ_eq_append_getElem hlt, areaL_append]; simp [areaL])
      have hb0 := areaL_bd (l.take k)
      have hb2 := area_bd l[k]
      have hb3 := area_nn l[k]
      have har := area_ok hok
      have hkl : (l.take k).length = k := by rw [List.length_take]; omega
      rw [hkl] at hb0
      obtain ⟨hb4, hb5⟩ := hb0
      have hb6 : areaL (l.take k) ≤ 219902325555200 := by omega
      obtain ⟨u, hu⟩ : ∃ u, u = l[k] := ⟨_, rfl⟩
      rw [← hu] at x0 x1 x2 x3 HNX hok hb2 hb3 har
      clear hu hkl hb5
      obtain ⟨⟨a1, a2, a3⟩, a4, a5, a6⟩ := hok
      have q1 : IntKind.i64.wrap (u.X1 - u.X0) = u.X1 - u.X0 := IntWalk.i64_in _ (by omega)
      have q2 : IntKind.i64.wrap (u.Y1 - u.Y0) = u.Y1 - u.Y0 := IntWalk.i64_in _ (by omega)
      have q3 : IntKind.i64.wrap ((u.X1 - u.X0) * (u.Y1 - u.Y0)) = (u.X1 - u.X0) * (u.Y1 - u.Y0) := IntWalk.i64_in _ (by rw [← har]; omega)
      have q4 : IntKind.i64.wrap (areaL (l.take k) + (u.X1 - u.X0) * (u.Y1 - u.Y0)) = areaL (l.take k) + (u.X1 - u.X0) * (u.Y1 - u.Y0) := IntWalk.i64_in _ (by rw [← har]; omega)
      have HN2 : Hid (areaL (l.take (k + 1)) = areaL (l.take k) + (u.X1 - u.X0) * (u.Y1 - u.Y0)) := Lib.hid (by rw [HNX.out, har])
      clear har hb2 hb3 HNX
      generalize areaL (l.take k) = sm at *
      go_wp2_with fail
      go_quiet (fail)
      have HB2 := fun n => Lib.hid (below_drewN HB.out n)
      go_wp2_with fail
      go_roundw
      case rel => exact ⟨k + 1, by omega, by go_num, by rw [HN2.out], HB2 _⟩
      case measure => simp [intOf]; omega
    · obtain rfl : k = l.length := by omega
      rw [List.take_length]
      generalize areaL l = ar at *
      go_wp2_with fail
      go_ret
      exact ⟨rfl, HB.out⟩
theorem varea_no (A : Option Addr) (cap : Nat) (l : List Rc) (w : World) (h : RIn w A cap l) (hr : ¬ RegP l) : Calls Try.prog 48 #[.slice A l.length cap] w (InIs 0 w) := by
  have RA := Lib.hid (vRight_no A cap l w h.row h.len hr)
  clear h hr
  go_enter Try.func48, Try.ntmps48
  go_wp2_with fail
  refine RA.out.mono ?_
  rintro e1 w1 ⟨rfl, hb1⟩
  have HB1 := Lib.hid hb1; clear hb1 RA
  go_wp2_with fail
  go_ret
  exact ⟨rfl, HB1.out⟩
noncomputable def areaG (l : List Rc) : Int := if RegP l then areaL l else 0
theorem varea_any (A : Option Addr) (cap : Nat) (l : List Rc) (w : World) (h : RIn w A cap l) : Calls Try.prog 48 #[.slice A l.length cap] w (InIs (areaG l) w) := by
  by_cases hr : RegP l
  · rw [show areaG l = areaL l from if_pos hr]; exact varea_yes A cap l w h hr
  · rw [show areaG l = 0 from if_neg hr]; exact varea_no A cap l w h hr
theorem garea_any (A : Option Addr) (cap : Nat) (l : List Rc) (w : World) (h : RIn w A cap l) : Calls Try.prog 32 #[.slice A l.length cap] w (InIs (areaG l) w) := by
  by_cases hr : RegP l
  · rw [show areaG l = areaL l from if_pos hr]; exact garea_yes A cap l w h hr
  · rw [show areaG l = 0 from if_neg hr]; exact garea_no A cap l w h hr
theorem vhas_any (A : Option Addr) (cap : Nat) (l : List Rc) (x y : Int) (w : World) (hl : RIn w A cap l) : Calls Try.prog 27 #[.slice A l.length cap, .int .i64 x, .int .i64 y] w (BlIs (hasRg l x y) w) := by
  by_cases hr : RegP l
  · rw [show hasRg l x y = hasD l x y from by
      unfold hasRg; rw [decide_eq_true hr, Bool.true_and, Bool.eq_iff_iff, hasB_iff, hasD_iff]]
    exact vHas_yes A cap l x y w hl.row hr
  · rw [show hasRg l x y = false by unfold hasRg; rw [decide_eq_false hr, Bool.false_and]]
    have RA := Lib.hid (vRight_no A cap l w hl.row hl.len hr)
    clear hl hr
    go_enter Try.func27, Try.ntmps27
    go_wp2_with fail
    refine RA.out.mono ?_
    rintro e1 w1 ⟨rfl, hb1⟩
    have HB1 := Lib.hid hb1; clear hb1 RA
    go_wp2_with fail
    go_ret
    exact ⟨rfl, HB1.out⟩
end Go.Proofs.Ytcnojedijimheaa
