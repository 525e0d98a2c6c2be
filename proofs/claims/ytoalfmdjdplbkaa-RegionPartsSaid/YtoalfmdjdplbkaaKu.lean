/-
  RegionParts: the walk for every input.
-/
import Derived.Test.YtoalfmdjdplbkaaKt
set_option linter.unusedVariables false
set_option maxRecDepth 100000
namespace Go.Proofs.Ytoalfmdjdplbkaa
open Go.RowKit

theorem rp_ofR {a : List Rc} (ho : ∀ r ∈ a, ROk r) (h : a.length ≤ 12) : ofR a = (formL a, 0) := by
  unfold ofR
  rw [if_pos ho, if_pos (by omega), cap_le (Nat.le_trans (sq_le (k := 12) (form_sq ho) h) (by omega))]
theorem rp_bad {a : List Rc} (ho : ¬ ∀ r ∈ a, ROk r) : ofR a = ([], 1) := by unfold ofR; rw [if_neg ho]
set_option maxHeartbeats 4000000 in
theorem rparts_ok (A : Option Addr) (cap : Nat) (a : List Rc) (w : World) (ha : RIn w A cap a) (na : a.length ≤ 12) (oa : ∀ r ∈ a, ROk r) :
    Calls Try.prog 5 #[.slice A a.length cap] w (BlIs true w) := by
  have fx := fs_l oa
  have lx : (formL a).length ≤ 144 := sq_le (k := 12) (form_sq oa) na
  have rx : RegP (formL a) := ⟨fx.form, by omega⟩
  have pf := parts_facts rx
  generalize (partsM (formL a)).map formL = L at *
  have hlen := pf.len
  exact rparts_core A cap a.length (formL a).length a (formL a) L w ha na (by omega) pf
    (Lib.hid (small_any w)) (Lib.hid (con_of (rp_ofR oa na) (by omega)))
    (Lib.hid fun w' A1 c1 h => by have := gparts_any A1 c1 (formL a) w' h rx; rw [pf.eq] at this; exact this)
    (Lib.hid (con_of pf.whole (by omega))) (Lib.hid (con_same _ (by omega)))
    (Lib.hid fun w' A1 c1 h => by rw [pf.area]; exact garea_yes A1 c1 (formL a) w' h rx)
set_option maxHeartbeats 8000000 in
theorem rparts_err (A : Option Addr) (cap na : Nat) (a : List Rc) (w : World) (ha : RIn w A cap a) (ma : na ≤ 12)
    (Hx : Hid (∀ (w' : World) (A1 : Option Addr) (c1 : Nat), RIn w' A1 c1 a → Calls Try.prog 8 #[.slice A1 na c1] w' (RR [] 0 1 w')))
    (HP : Hid (∀ (w' : World) (A1 : Option Addr) (c1 : Nat), RIn w' A1 c1 [] → Calls Try.prog 21 #[.slice A1 0 c1] w' (LenIs 0 w'))) :
    Calls Try.prog 5 #[.slice A na cap] w (BlIs true w) := by
  have HSM := Lib.hid (small_any w)
  have KA := Lib.hid ha
  clear ha
  have m1 : ¬ (12 : Int) < (na : Int) := by omega
  go_enter Try.func5, Try.ntmps5
  go_wp2_with fail
  refine HSM.out.mono ?_
  rintro e1 w1 ⟨rfl, hb1⟩
  have HB1 := Lib.hid hb1; clear hb1 HSM
  go_wp2_with fail
  refine (Hx.out _ _ _ (KA.out.below HB1.out)).mono ?_
  rintro e2 w2 ⟨A2, c2, rfl, hr2, hb2⟩
  have HB2 := Lib.hid (HB1.out.trans (hb2.mono HB1.out.size))
  have KX := Lib.hid hr2; clear hr2 hb2 HB1 KA Hx
  go_wp2_with fail
  refine (HP.out _ _ _ KX.out).mono ?_
  rintro e3 w3 ⟨A3, c3, rfl, hb3⟩
  have HB3 := Lib.hid (HB2.out.trans (hb3.mono HB2.out.size)); clear hb3 HB2 KX
  go_wp2_with fail
  go_ret
  exact ⟨rfl, HB3.out⟩
set_option maxHeartbeats 8000000 in
theorem rparts_far (A : Option Addr) (cap na : Nat) (w : World) (h : 12 < na) : Calls Try.prog 5 #[.slice A na cap] w (BlIs true w) := by
  have HS := Lib.hid (small_any w)
  have m1 : (12 : Int) < (na : Int) := by omega
  clear h
  go_enter Try.func5, Try.ntmps5
  go_wp2_with fail
  refine HS.out.mono ?_
  rintro e w1 ⟨rfl, hb1⟩
  have HB1 := Lib.hid hb1; clear hb1
  go_wp2_with fail
  go_ret
  exact ⟨rfl, HB1.out⟩
theorem rparts_walk (A : Option Addr) (cap : Nat) (a : List Rc) (w : World) (ha : RRow w A a) (la : a.length ≤ 9223372036854775807) (ra : a.length ≤ cap) (sa : cap ≤ 9223372036854775807) :
    Calls Try.prog 5 #[.slice A a.length cap] w (BlIs true w) := by
  by_cases na : a.length ≤ 12
  · have ia : RIn w A cap a := ⟨ha, by omega, ra, sa⟩
    by_cases oa : ∀ r ∈ a, ROk r
    · exact rparts_ok A cap a w ia na oa
    · exact rparts_err A cap a.length a w ia na (Lib.hid (con_of (rp_bad oa) (by simp))) (Lib.hid fun w' A1 c1 h => (gparts_any A1 c1 [] w' h reg0).mono fun e w2 ⟨vp, Vs, he, ho, _, hb⟩ => by
        obtain ⟨A', cap', rfl⟩ := own_val ho
        exact ⟨A', cap', he, hb⟩)
  · exact rparts_far A cap _ w (by omega)
end Go.Proofs.Ytoalfmdjdplbkaa
