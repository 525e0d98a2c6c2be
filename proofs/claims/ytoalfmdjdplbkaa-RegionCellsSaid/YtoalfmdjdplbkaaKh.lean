/-
  RegionCells: the walk for every input.
-/
import Derived.Test.YtoalfmdjdplbkaaKe
import Derived.Test.YtoalfmdjdplbkaaKd
import Derived.Test.YtoalfmdjdplbkaaIh
import Derived.Test.YtoalfmdjdplbkaaIi
set_option linter.unusedVariables false
set_option maxRecDepth 100000
namespace Go.Proofs.Ytoalfmdjdplbkaa
open Go.RowKit

theorem con_right {P : List Rc} (hP : RegP P) (w' : World) (A1 : Option Addr) (c1 : Nat) (h : RIn w' A1 c1 P) : Calls Try.prog 16 #[.slice A1 P.length c1] w' (BlIs true w') := gright_yes A1 c1 P w' h.row h.len h.room h.room2 hP
theorem con_cov {L : List Rc} {f : Int → Int → Bool} (hl : ∀ r ∈ L, ROk r) (hf : ∀ x y, f x y = hasB L x y) (w' : World) (A1 : Option Addr) (c1 : Nat) (x y : Int) (h : RIn w' A1 c1 L) : Calls Try.prog 17 #[.slice A1 L.length c1, .int .i64 x, .int .i64 y] w' (BlIs (f x y) w') := by
  rw [hf]; exact wcovered_any A1 c1 L x y w' h hl
theorem win_or {p q : Int → Int → Bool} (hp : Win p) (hq : Win q) : Win (fOr p q) := fun x y h => by
  unfold fOr at h
  rcases (Bool.or_eq_true _ _).mp h with h | h
  · exact hp x y h
  · exact hq x y h
theorem win_and {p q : Int → Int → Bool} (hp : Win p) : Win (fAnd p q) := fun x y h => by
  unfold fAnd at h
  rw [Bool.and_eq_true] at h
  exact hp x y h.1
theorem win_not {p q : Int → Int → Bool} (hp : Win p) : Win (fNot p q) := fun x y h => by
  unfold fNot at h
  rw [Bool.and_eq_true] at h
  exact hp x y h.1
theorem con_cnt {L : List Rc} {f : Int → Int → Bool} (hr : RegP L) (hw : Win f) (hf : ∀ x y, f x y = hasB L x y) (w' : World) (A1 : Option Addr) (c1 : Nat) (h : RIn w' A1 c1 L) : Calls Try.prog 19 #[.slice A1 L.length c1] w' (InIs (cntN f 26 : Nat) w') := by
  rw [cntN_area hr.1 hw (fun x y => by rw [hf, hasB_iff])]
  exact garea_yes A1 c1 L w' h hr
theorem has_of {P : List Rc} {S : Int → Int → Prop} (h : FS P S) {f : Int → Int → Bool} (hf : ∀ x y, f x y = true ↔ S x y) (x y : Int) : f x y = hasB P x y := by
  rw [Bool.eq_iff_iff, hf, hasB_iff, h.cells]
theorem near_ofR {a : List Rc} (h : a.length ≤ 6 ∧ Near24 a) : ofR a = (formL a, 0) := by
  have ho := near_ok h.2
  unfold ofR
  rw [if_pos ho, if_pos (by omega), cap_le (Nat.le_trans (sq_le (k := 6) (form_sq ho) h.1) (by omega))]
theorem op_ok {op : Bool → Bool → Bool} {P Q : List Rc} (hp : RegP P) (hq : RegP Q) (h : (formO op P Q).length ≤ 200) : opR op P Q = (formO op P Q, 0) := by rw [op_cap hp hq, cap_le h]
set_option maxHeartbeats 4000000 in
theorem cells_ok (Aa Ab : Option Addr) (ca cb : Nat) (a b : List Rc) (w : World) (ha : RIn w Aa ca a) (hb : RIn w Ab cb b) (na : a.length ≤ 6 ∧ Near24 a) (nb : b.length ≤ 6 ∧ Near24 b) :
    Calls Try.prog 4 #[.slice Aa a.length ca, .slice Ab b.length cb] w (BlIs true w) := by
  have oa := near_ok na.2; have ob := near_ok nb.2
  have fx := fs_l oa; have fy := fs_l ob
  have fu := fs_or fx fy; have fi := fs_and fx fy; have fm := fs_not fx fy
  have lx : (formL a).length ≤ 36 := sq_le (k := 6) (form_sq oa) na.1
  have ly : (formL b).length ≤ 36 := sq_le (k := 6) (form_sq ob) nb.1
  have hl := na.1; have hl2 := nb.1
  have lu : (formO or (formL a) (formL b)).length ≤ 144 := by rw [fu.eq (raw_or oa ob) (fun x y => Iff.rfl)]; exact sq_le (k := 12) (formO_sq or oa ob) (by omega)
  have li : (formO and (formL a) (formL b)).length ≤ 144 := by rw [fi.eq (raw_and oa ob) (fun x y => Iff.rfl)]; exact sq_le (k := 12) (formO_sq and oa ob) (by omega)
  have lm : (formO andnot (formL a) (formL b)).length ≤ 144 := by rw [fm.eq (raw_not oa ob) (fun x y => Iff.rfl)]; exact sq_le (k := 12) (formO_sq andnot oa ob) (by omega)
  have rx : RegP (formL a) := ⟨fx.form, by omega⟩
  have ry : RegP (formL b) := ⟨fy.form, by omega⟩
  have ru : RegP (formO or (formL a) (formL b)) := ⟨fu.form, by omega⟩
  have ri : RegP (formO and (formL a) (formL b)) := ⟨fi.form, by omega⟩
  have rm : RegP (formO andnot (formL a) (formL b)) := ⟨fm.form, by omega⟩
  have wa := near_win na.2; have wb := near_win nb.2
  have ex : ∀ x y, hasB a x y = hasB (formL a) x y := has_of fx (fun x y => hasB_iff a x y)
  have ey : ∀ x y, hasB b x y = hasB (formL b) x y := has_of fy (fun x y => hasB_iff b x y)
  have eu : ∀ x y, fOr (hasB a) (hasB b) x y = hasB (formO or (formL a) (formL b)) x y := has_of fu (fun x y => by unfold fOr; rw [Bool.or_eq_true, hasB_iff, hasB_iff])
  have ei : ∀ x y, fAnd (hasB a) (hasB b) x y = hasB (formO and (formL a) (formL b)) x y := has_of fi (fun x y => by unfold fAnd; rw [Bool.and_eq_true, hasB_iff, hasB_iff])
  have em : ∀ x y, fNot (hasB a) (hasB b) x y = hasB (formO andnot (formL a) (formL b)) x y := has_of fm (fun x y => by unfold fNot; rw [Bool.and_eq_true, hasB_iff, Bool.not_eq_true', ← Bool.not_eq_true, hasB_iff])
  have es : decide (formL a = formL b) = eqC (hasB a) (hasB b) 26 := by
    rw [Bool.eq_iff_iff, decide_eq_true_iff, eqC_all wa wb]
    constructor
    · intro h x y; rw [ex, ey, h]
    · intro h
      refine form_eq fx.form fy.form (fun x y => ?_)
      rw [← hasB_iff, ← hasB_iff, ← ex, ← ey, h]
  have na1 : nearB a 6 = true := (nearB_iff a 6).2 na
  have nb1 : nearB b 6 = true := (nearB_iff b 6).2 nb
  exact cells_core Aa Ab ca cb a.length b.length _ _ _ _ _ a b (formL a) (formL b) (formO or (formL a) (formL b)) (formO and (formL a) (formL b)) (formO andnot (formL a) (formL b)) (hasB a) (hasB b) w ha hb
    (Lib.hid (small_any w))
    (Lib.hid fun w' A1 c1 h => by have := wnear_any A1 c1 a w' h.row; rw [na1] at this; exact this)
    (Lib.hid fun w' A1 c1 h => by have := wnear_any A1 c1 b w' h.row; rw [nb1] at this; exact this)
    (Lib.hid (con_of (near_ofR na) (by omega))) (Lib.hid (con_of (near_ofR nb) (by omega)))
    (Lib.hid (con_union (op_ok rx ry (by omega)) (by omega))) (Lib.hid (con_common (op_ok rx ry (by omega)) (by omega))) (Lib.hid (con_minus (op_ok rx ry (by omega)) (by omega)))
    (Lib.hid (con_right rx)) (Lib.hid (con_right ru)) (Lib.hid (con_right ri)) (Lib.hid (con_right rm))
    (Lib.hid (con_cov oa (fun _ _ => rfl))) (Lib.hid (con_cov ob (fun _ _ => rfl))) (Lib.hid (con_cov fx.ok ex)) (Lib.hid (con_cov (f := fOr (hasB a) (hasB b)) fu.ok eu)) (Lib.hid (con_cov (f := fAnd (hasB a) (hasB b)) fi.ok ei)) (Lib.hid (con_cov (f := fNot (hasB a) (hasB b)) fm.ok em))
    (Lib.hid fun w' A1 c1 x y h => by
      have := ghas_any A1 c1 (formL a) x y w' h
      rw [show hasRg (formL a) x y = hasB a x y by unfold hasRg; rw [decide_eq_true rx, Bool.true_and, ex]] at this
      exact this)
    (Lib.hid (con_cnt rx wa ex)) (Lib.hid (con_cnt ru (win_or wa wb) eu)) (Lib.hid (con_cnt ri (win_and wa) ei)) (Lib.hid (con_cnt rm (win_not wa) em))
    (Lib.hid fun w' A1 c1 A2 c2 h h2 => by
      have := gsame_any A1 c1 A2 c2 (formL a) (formL b) w' h.row h2.row (by omega) (by omega)
      rw [es] at this
      exact this)
set_option maxHeartbeats 8000000 in
theorem cells_far (Aa Ab : Option Addr) (ca cb : Nat) (a b : List Rc) (w : World) (ha : RRow w Aa a) (hb : RRow w Ab b) (hn : ¬ ((a.length ≤ 6 ∧ Near24 a) ∧ b.length ≤ 6 ∧ Near24 b)) :
    Calls Try.prog 4 #[.slice Aa a.length ca, .slice Ab b.length cb] w (BlIs true w) := by
  have HS := Lib.hid (small_any w)
  have HA := Lib.hid ha; have HB := Lib.hid hb
  clear ha hb
  by_cases na : a.length ≤ 6 ∧ Near24 a
  · have nb : nearB b 6 = false := by rw [← Bool.not_eq_true, nearB_iff]; exact fun h => hn ⟨na, h⟩
    have na1 : nearB a 6 = true := (nearB_iff a 6).2 na
    have HNA := Lib.hid (fun (w' : World) (h : Below w.heap.size w w') => wnear_any Aa ca a w' (HA.out.below h))
    have HNB := Lib.hid (fun (w' : World) (h : Below w.heap.size w w') => wnear_any Ab cb b w' (HB.out.below h))
    rw [na1] at HNA; rw [nb] at HNB
    clear na hn na1 nb
    go_enter Try.func4, Try.ntmps4
    go_wp2_with fail
    refine HS.out.mono ?_
    rintro e w1 ⟨rfl, hb1⟩
    have HB1 := Lib.hid hb1; clear hb1
    go_wp2_with fail
    refine (HNA.out _ HB1.out).mono ?_
    rintro e w2 ⟨rfl, hb2⟩
    have HB2 := Lib.hid (HB1.out.trans (hb2.mono HB1.out.size)); clear hb2 HB1
    go_wp2_with fail
    refine (HNB.out _ HB2.out).mono ?_
    rintro e w3 ⟨rfl, hb3⟩
    have HB3 := Lib.hid (HB2.out.trans (hb3.mono HB2.out.size)); clear hb3 HB2
    go_wp2_with fail
    go_ret
    exact ⟨rfl, HB3.out⟩
  · have na1 : nearB a 6 = false := by rw [← Bool.not_eq_true, nearB_iff]; exact na
    have HNA := Lib.hid (fun (w' : World) (h : Below w.heap.size w w') => wnear_any Aa ca a w' (HA.out.below h))
    rw [na1] at HNA
    clear na hn na1
    go_enter Try.func4, Try.ntmps4
    go_wp2_with fail
    refine HS.out.mono ?_
    rintro e w1 ⟨rfl, hb1⟩
    have HB1 := Lib.hid hb1; clear hb1
    go_wp2_with fail
    refine (HNA.out _ HB1.out).mono ?_
    rintro e w2 ⟨rfl, hb2⟩
    have HB2 := Lib.hid (HB1.out.trans (hb2.mono HB1.out.size)); clear hb2 HB1
    go_wp2_with fail
    go_ret
    exact ⟨rfl, HB2.out⟩
theorem cells_walk (Aa Ab : Option Addr) (ca cb : Nat) (a b : List Rc) (w : World) (ha : RRow w Aa a) (hb : RRow w Ab b) (la : a.length ≤ 9223372036854775807) (lb : b.length ≤ 9223372036854775807) (ra : a.length ≤ ca) (rb : b.length ≤ cb) (sa : ca ≤ 9223372036854775807) (sb : cb ≤ 9223372036854775807) :
    Calls Try.prog 4 #[.slice Aa a.length ca, .slice Ab b.length cb] w (BlIs true w) := by
  by_cases h : (a.length ≤ 6 ∧ Near24 a) ∧ b.length ≤ 6 ∧ Near24 b
  · exact cells_ok Aa Ab ca cb a b w ⟨ha, by omega, ra, sa⟩ ⟨hb, by omega, rb, sb⟩ h.1 h.2
  · exact cells_far Aa Ab ca cb a b w ha hb h
end Go.Proofs.Ytoalfmdjdplbkaa
