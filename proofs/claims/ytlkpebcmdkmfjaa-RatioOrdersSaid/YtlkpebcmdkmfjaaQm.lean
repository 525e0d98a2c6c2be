/-
  The walk of RatioOrders: where all three ratios are valid.
-/
import Derived.Test.YtlkpebcmdkmfjaaQk
set_option linter.unusedVariables false
set_option maxRecDepth 100000
namespace Go.Proofs.Ytlkpebcmdkmfjaa
open Go.RowKit

theorem three (a b c : Fr) (w : World) : Keep [(w.heap.size + 1 + 1, c), (w.heap.size + 1, b), (w.heap.size, a)] w (((w.alloc (.cells #[.int .i64 a.N, .int .i64 a.D] 23)).alloc (.cells #[.int .i64 b.N, .int .i64 b.D] 23)).alloc (.cells #[.int .i64 c.N, .int .i64 c.D] 23)) :=
  (((Keep.nil w).new' a _ rfl).new' b _ (by simp)).new' c _ (by simp)

set_option maxHeartbeats 16000000 in
theorem orders_same (an ad cn cd y z sn sd tn td es et : Int) (w : World) (hz : y ≤ 0 → z ≤ 0)
    (oa : okB ⟨an, ad⟩ = true) (ob : okB ⟨an, ad⟩ = true) (oc : okB ⟨cn, cd⟩ = true) (na : In64 an) (da : In64 ad) (nb : In64 an) (db : In64 ad) (nc : In64 cn) (dc : In64 cd)
    (HCab : Hid (∀ w, Calls Try.prog 18 #[.agg #[.int .i64 an, .int .i64 ad], .agg #[.int .i64 an, .int .i64 ad]] w (InIs 0 w))) (HCba : Hid (∀ w, Calls Try.prog 18 #[.agg #[.int .i64 an, .int .i64 ad], .agg #[.int .i64 an, .int .i64 ad]] w (InIs 0 w))) (HCbc : Hid (∀ w, Calls Try.prog 18 #[.agg #[.int .i64 an, .int .i64 ad], .agg #[.int .i64 cn, .int .i64 cd]] w (InIs y w))) (HCac : Hid (∀ w, Calls Try.prog 18 #[.agg #[.int .i64 an, .int .i64 ad], .agg #[.int .i64 cn, .int .i64 cd]] w (InIs z w)))
    (HMin : Hid (∀ w, Calls Try.prog 20 #[.agg #[.int .i64 an, .int .i64 ad], .agg #[.int .i64 an, .int .i64 ad]] w (FIs ⟨an, ad⟩ w))) (HMax : Hid (∀ w, Calls Try.prog 22 #[.agg #[.int .i64 an, .int .i64 ad], .agg #[.int .i64 an, .int .i64 ad]] w (FIs ⟨an, ad⟩ w))) (HSa : Hid (∀ w, Calls Try.prog 12 #[.agg #[.int .i64 an, .int .i64 ad], .agg #[.int .i64 cn, .int .i64 cd]] w (FrIs (⟨sn, sd⟩, es) w))) (HSb : Hid (∀ w, Calls Try.prog 12 #[.agg #[.int .i64 an, .int .i64 ad], .agg #[.int .i64 cn, .int .i64 cd]] w (FrIs (⟨tn, td⟩, et) w)))
    (HCst : es = 0 → et = 0 → ∀ w, Calls Try.prog 18 #[.agg #[.int .i64 sn, .int .i64 sd], .agg #[.int .i64 tn, .int .i64 td]] w (InIs 0 w)) :
    Calls Try.prog 5 #[.agg #[.int .i64 an, .int .i64 ad], .agg #[.int .i64 an, .int .i64 ad], .agg #[.int .i64 cn, .int .i64 cd]] w (BlIs true w) := by
  have K0 := Lib.hid (three ⟨an, ad⟩ ⟨an, ad⟩ ⟨cn, cd⟩ w)
  have HST := Lib.hid HCst; clear HCst
  have HZ := Lib.hid hz; clear hz
  go_enter Try.func5, Try.ntmps5
  go_wp2_with fail
  refine (small_any _).mono ?_
  rintro e w1 ⟨rfl, hb⟩
  have K1 := Lib.hid (K0.out.go hb); clear hb K0
  have c0a := K1.out.1.c0; have c0b := K1.out.1.c1; have c0l := K1.out.1.lt; have c1a := K1.out.2.1.c0; have c1b := K1.out.2.1.c1; have c1l := K1.out.2.1.lt; have c2a := K1.out.2.2.1.c0; have c2b := K1.out.2.2.1.c1; have c2l := K1.out.2.2.1.lt
  go_wp2_with fail
  refine (rright_nd _ _ na da _).mono ?_
  rintro e w2 ⟨rfl, hb⟩
  have K2 := Lib.hid (K1.out.go hb); clear hb K1 c0a c0b c0l c1a c1b c1l c2a c2b c2l
  have c0a := K2.out.1.c0; have c0b := K2.out.1.c1; have c0l := K2.out.1.lt; have c1a := K2.out.2.1.c0; have c1b := K2.out.2.1.c1; have c1l := K2.out.2.1.lt; have c2a := K2.out.2.2.1.c0; have c2b := K2.out.2.2.1.c1; have c2l := K2.out.2.2.1.lt
  go_wp2_with fail
  refine (rright_nd _ _ nb db _).mono ?_
  rintro e w3 ⟨rfl, hb⟩
  have K3 := Lib.hid (K2.out.go hb); clear hb K2 c0a c0b c0l c1a c1b c1l c2a c2b c2l
  have c0a := K3.out.1.c0; have c0b := K3.out.1.c1; have c0l := K3.out.1.lt; have c1a := K3.out.2.1.c0; have c1b := K3.out.2.1.c1; have c1l := K3.out.2.1.lt; have c2a := K3.out.2.2.1.c0; have c2b := K3.out.2.2.1.c1; have c2l := K3.out.2.2.1.lt
  go_wp2_with fail
  refine (rright_nd _ _ nc dc _).mono ?_
  rintro e w4 ⟨rfl, hb⟩
  have K4 := Lib.hid (K3.out.go hb); clear hb K3 c0a c0b c0l c1a c1b c1l c2a c2b c2l
  have c0a := K4.out.1.c0; have c0b := K4.out.1.c1; have c0l := K4.out.1.lt; have c1a := K4.out.2.1.c0; have c1b := K4.out.2.1.c1; have c1l := K4.out.2.1.lt; have c2a := K4.out.2.2.1.c0; have c2b := K4.out.2.2.1.c1; have c2l := K4.out.2.2.1.lt
  go_wp2_with fail
  refine (HCab.out _).mono ?_
  rintro e w5 ⟨rfl, hb⟩
  have K5 := Lib.hid (K4.out.go hb); clear hb K4 c0a c0b c0l c1a c1b c1l c2a c2b c2l
  have c0a := K5.out.1.c0; have c0b := K5.out.1.c1; have c0l := K5.out.1.lt; have c1a := K5.out.2.1.c0; have c1b := K5.out.2.1.c1; have c1l := K5.out.2.1.lt; have c2a := K5.out.2.2.1.c0; have c2b := K5.out.2.2.1.c1; have c2l := K5.out.2.2.1.lt
  go_wp2_with fail
  refine (HCba.out _).mono ?_
  rintro e w6 ⟨rfl, hb⟩
  have K6 := Lib.hid (K5.out.go hb); clear hb K5 c0a c0b c0l c1a c1b c1l c2a c2b c2l
  have c0a := K6.out.1.c0; have c0b := K6.out.1.c1; have c0l := K6.out.1.lt; have c1a := K6.out.2.1.c0; have c1b := K6.out.2.1.c1; have c1l := K6.out.2.1.lt; have c2a := K6.out.2.2.1.c0; have c2b := K6.out.2.2.1.c1; have c2l := K6.out.2.2.1.lt
  go_wp2_with fail
  refine (HCbc.out _).mono ?_
  rintro e w6a ⟨rfl, hb⟩
  have K6a := Lib.hid (K6.out.go hb); clear hb K6 c0a c0b c0l c1a c1b c1l c2a c2b c2l
  by_cases y0 : y ≤ 0
  · have z0 := HZ.out y0
    clear HZ
    have c0a := K6a.out.1.c0; have c0b := K6a.out.1.c1; have c0l := K6a.out.1.lt; have c1a := K6a.out.2.1.c0; have c1b := K6a.out.2.1.c1; have c1l := K6a.out.2.1.lt; have c2a := K6a.out.2.2.1.c0; have c2b := K6a.out.2.2.1.c1; have c2l := K6a.out.2.2.1.lt
    go_wp2_with fail
    refine (HCac.out _).mono ?_
    rintro e w6b ⟨rfl, hb⟩
    have K6 := Lib.hid (K6a.out.go hb); clear hb K6a c0a c0b c0l c1a c1b c1l c2a c2b c2l
    have c0a := K6.out.1.c0; have c0b := K6.out.1.c1; have c0l := K6.out.1.lt; have c1a := K6.out.2.1.c0; have c1b := K6.out.2.1.c1; have c1l := K6.out.2.1.lt; have c2a := K6.out.2.2.1.c0; have c2b := K6.out.2.2.1.c1; have c2l := K6.out.2.2.1.lt
    go_wp2_with fail
    refine (HMin.out _).mono ?_
    rintro e w7 ⟨rfl, hb⟩
    have K7 := Lib.hid ((K6.out.go hb).new ⟨an, ad⟩); clear hb K6 c0a c0b c0l c1a c1b c1l c2a c2b c2l
    have c0a := K7.out.1.c0; have c0b := K7.out.1.c1; have c0l := K7.out.1.lt; have c1a := K7.out.2.1.c0; have c1b := K7.out.2.1.c1; have c1l := K7.out.2.1.lt; have c2a := K7.out.2.2.1.c0; have c2b := K7.out.2.2.1.c1; have c2l := K7.out.2.2.1.lt; have c3a := K7.out.2.2.2.1.c0; have c3b := K7.out.2.2.2.1.c1; have c3l := K7.out.2.2.2.1.lt
    go_wp2_with fail
    refine (HMax.out _).mono ?_
    rintro e w8 ⟨rfl, hb⟩
    have K8 := Lib.hid ((K7.out.go hb).new ⟨an, ad⟩); clear hb K7 c0a c0b c0l c1a c1b c1l c2a c2b c2l c3a c3b c3l
    have c0a := K8.out.1.c0; have c0b := K8.out.1.c1; have c0l := K8.out.1.lt; have c1a := K8.out.2.1.c0; have c1b := K8.out.2.1.c1; have c1l := K8.out.2.1.lt; have c2a := K8.out.2.2.1.c0; have c2b := K8.out.2.2.1.c1; have c2l := K8.out.2.2.1.lt; have c3a := K8.out.2.2.2.1.c0; have c3b := K8.out.2.2.2.1.c1; have c3l := K8.out.2.2.2.1.lt; have c4a := K8.out.2.2.2.2.1.c0; have c4b := K8.out.2.2.2.2.1.c1; have c4l := K8.out.2.2.2.2.1.lt
    go_wp2_with fail
    refine (HCab.out _).mono ?_
    rintro e w9 ⟨rfl, hb⟩
    have K9 := Lib.hid ((K8.out.go hb)); clear hb K8 c0a c0b c0l c1a c1b c1l c2a c2b c2l c3a c3b c3l c4a c4b c4l
    have c0a := K9.out.1.c0; have c0b := K9.out.1.c1; have c0l := K9.out.1.lt; have c1a := K9.out.2.1.c0; have c1b := K9.out.2.1.c1; have c1l := K9.out.2.1.lt; have c2a := K9.out.2.2.1.c0; have c2b := K9.out.2.2.1.c1; have c2l := K9.out.2.2.1.lt; have c3a := K9.out.2.2.2.1.c0; have c3b := K9.out.2.2.2.1.c1; have c3l := K9.out.2.2.2.1.lt; have c4a := K9.out.2.2.2.2.1.c0; have c4b := K9.out.2.2.2.2.1.c1; have c4l := K9.out.2.2.2.2.1.lt
    go_wp2_with fail
    refine (HSa.out _).mono ?_
    rintro e w10 ⟨rfl, hb⟩
    have K10 := Lib.hid ((K9.out.go hb).new ⟨sn, sd⟩); clear hb K9 c0a c0b c0l c1a c1b c1l c2a c2b c2l c3a c3b c3l c4a c4b c4l
    have c0a := K10.out.1.c0; have c0b := K10.out.1.c1; have c0l := K10.out.1.lt; have c1a := K10.out.2.2.2.1.c0; have c1b := K10.out.2.2.2.1.c1; have c1l := K10.out.2.2.2.1.lt; have c2a := K10.out.2.2.2.2.1.c0; have c2b := K10.out.2.2.2.2.1.c1; have c2l := K10.out.2.2.2.2.1.lt; have c3a := K10.out.2.2.2.2.2.1.c0; have c3b := K10.out.2.2.2.2.2.1.c1; have c3l := K10.out.2.2.2.2.2.1.lt
    go_wp2_with fail
    refine (HSb.out _).mono ?_
    rintro e w11 ⟨rfl, hb⟩
    have K11 := Lib.hid ((K10.out.go hb).new ⟨tn, td⟩); clear hb K10 c0a c0b c0l c1a c1b c1l c2a c2b c2l c3a c3b c3l
    by_cases e1 : es = 0
    · have b1 : (es != 0) = false := by simp [e1]
      by_cases e2 : et = 0
      · have b2 : (et != 0) = false := by simp [e2]
        have HCS := Lib.hid (HST.out e1 e2)
        clear e1 e2 HST
        have c0a := K11.out.1.c0; have c0b := K11.out.1.c1; have c0l := K11.out.1.lt; have c1a := K11.out.2.1.c0; have c1b := K11.out.2.1.c1; have c1l := K11.out.2.1.lt
        go_wp2_with fail
        refine (HCS.out _).mono ?_
        rintro e w12 ⟨rfl, hb⟩
        have K12 := Lib.hid (K11.out.go hb); clear hb K11 c0a c0b c0l c1a c1b c1l
        go_wp2_with fail
        go_ret
        exact ⟨rfl, K12.out.below⟩
      · have b2 : (et != 0) = true := by simp [e2]
        clear e1 e2 HST
        go_wp2_with fail
        go_ret
        exact ⟨rfl, K11.out.below⟩
    · have b1 : (es != 0) = true := by simp [e1]
      clear e1 HST
      go_wp2_with fail
      go_ret
      exact ⟨rfl, K11.out.below⟩
  · clear HZ
    have K6 := K6a; clear K6a
    have c0a := K6.out.1.c0; have c0b := K6.out.1.c1; have c0l := K6.out.1.lt; have c1a := K6.out.2.1.c0; have c1b := K6.out.2.1.c1; have c1l := K6.out.2.1.lt; have c2a := K6.out.2.2.1.c0; have c2b := K6.out.2.2.1.c1; have c2l := K6.out.2.2.1.lt
    go_wp2_with fail
    refine (HMin.out _).mono ?_
    rintro e w7 ⟨rfl, hb⟩
    have K7 := Lib.hid ((K6.out.go hb).new ⟨an, ad⟩); clear hb K6 c0a c0b c0l c1a c1b c1l c2a c2b c2l
    have c0a := K7.out.1.c0; have c0b := K7.out.1.c1; have c0l := K7.out.1.lt; have c1a := K7.out.2.1.c0; have c1b := K7.out.2.1.c1; have c1l := K7.out.2.1.lt; have c2a := K7.out.2.2.1.c0; have c2b := K7.out.2.2.1.c1; have c2l := K7.out.2.2.1.lt; have c3a := K7.out.2.2.2.1.c0; have c3b := K7.out.2.2.2.1.c1; have c3l := K7.out.2.2.2.1.lt
    go_wp2_with fail
    refine (HMax.out _).mono ?_
    rintro e w8 ⟨rfl, hb⟩
    have K8 := Lib.hid ((K7.out.go hb).new ⟨an, ad⟩); clear hb K7 c0a c0b c0l c1a c1b c1l c2a c2b c2l c3a c3b c3l
    have c0a := K8.out.1.c0; have c0b := K8.out.1.c1; have c0l := K8.out.1.lt; have c1a := K8.out.2.1.c0; have c1b := K8.out.2.1.c1; have c1l := K8.out.2.1.lt; have c2a := K8.out.2.2.1.c0; have c2b := K8.out.2.2.1.c1; have c2l := K8.out.2.2.1.lt; have c3a := K8.out.2.2.2.1.c0; have c3b := K8.out.2.2.2.1.c1; have c3l := K8.out.2.2.2.1.lt; have c4a := K8.out.2.2.2.2.1.c0; have c4b := K8.out.2.2.2.2.1.c1; have c4l := K8.out.2.2.2.2.1.lt
    go_wp2_with fail
    refine (HCab.out _).mono ?_
    rintro e w9 ⟨rfl, hb⟩
    have K9 := Lib.hid ((K8.out.go hb)); clear hb K8 c0a c0b c0l c1a c1b c1l c2a c2b c2l c3a c3b c3l c4a c4b c4l
    have c0a := K9.out.1.c0; have c0b := K9.out.1.c1; have c0l := K9.out.1.lt; have c1a := K9.out.2.1.c0; have c1b := K9.out.2.1.c1; have c1l := K9.out.2.1.lt; have c2a := K9.out.2.2.1.c0; have c2b := K9.out.2.2.1.c1; have c2l := K9.out.2.2.1.lt; have c3a := K9.out.2.2.2.1.c0; have c3b := K9.out.2.2.2.1.c1; have c3l := K9.out.2.2.2.1.lt; have c4a := K9.out.2.2.2.2.1.c0; have c4b := K9.out.2.2.2.2.1.c1; have c4l := K9.out.2.2.2.2.1.lt
    go_wp2_with fail
    refine (HSa.out _).mono ?_
    rintro e w10 ⟨rfl, hb⟩
    have K10 := Lib.hid ((K9.out.go hb).new ⟨sn, sd⟩); clear hb K9 c0a c0b c0l c1a c1b c1l c2a c2b c2l c3a c3b c3l c4a c4b c4l
    have c0a := K10.out.1.c0; have c0b := K10.out.1.c1; have c0l := K10.out.1.lt; have c1a := K10.out.2.2.2.1.c0; have c1b := K10.out.2.2.2.1.c1; have c1l := K10.out.2.2.2.1.lt; have c2a := K10.out.2.2.2.2.1.c0; have c2b := K10.out.2.2.2.2.1.c1; have c2l := K10.out.2.2.2.2.1.lt; have c3a := K10.out.2.2.2.2.2.1.c0; have c3b := K10.out.2.2.2.2.2.1.c1; have c3l := K10.out.2.2.2.2.2.1.lt
    go_wp2_with fail
    refine (HSb.out _).mono ?_
    rintro e w11 ⟨rfl, hb⟩
    have K11 := Lib.hid ((K10.out.go hb).new ⟨tn, td⟩); clear hb K10 c0a c0b c0l c1a c1b c1l c2a c2b c2l c3a c3b c3l
    by_cases e1 : es = 0
    · have b1 : (es != 0) = false := by simp [e1]
      by_cases e2 : et = 0
      · have b2 : (et != 0) = false := by simp [e2]
        have HCS := Lib.hid (HST.out e1 e2)
        clear e1 e2 HST
        have c0a := K11.out.1.c0; have c0b := K11.out.1.c1; have c0l := K11.out.1.lt; have c1a := K11.out.2.1.c0; have c1b := K11.out.2.1.c1; have c1l := K11.out.2.1.lt
        go_wp2_with fail
        refine (HCS.out _).mono ?_
        rintro e w12 ⟨rfl, hb⟩
        have K12 := Lib.hid (K11.out.go hb); clear hb K11 c0a c0b c0l c1a c1b c1l
        go_wp2_with fail
        go_ret
        exact ⟨rfl, K12.out.below⟩
      · have b2 : (et != 0) = true := by simp [e2]
        clear e1 e2 HST
        go_wp2_with fail
        go_ret
        exact ⟨rfl, K11.out.below⟩
    · have b1 : (es != 0) = true := by simp [e1]
      clear e1 HST
      go_wp2_with fail
      go_ret
      exact ⟨rfl, K11.out.below⟩

set_option maxHeartbeats 16000000 in
theorem orders_n1 (an ad bn bd cn cd x y z sn sd tn td es et : Int) (w : World) (hN : ¬ an = bn) (hx0 : (x == 0) = false) (hx1 : -1 ≤ x) (hx2 : x ≤ 0) (hz : y ≤ 0 → z ≤ 0)
    (oa : okB ⟨an, ad⟩ = true) (ob : okB ⟨bn, bd⟩ = true) (oc : okB ⟨cn, cd⟩ = true) (na : In64 an) (da : In64 ad) (nb : In64 bn) (db : In64 bd) (nc : In64 cn) (dc : In64 cd)
    (HCab : Hid (∀ w, Calls Try.prog 18 #[.agg #[.int .i64 an, .int .i64 ad], .agg #[.int .i64 bn, .int .i64 bd]] w (InIs x w))) (HCba : Hid (∀ w, Calls Try.prog 18 #[.agg #[.int .i64 bn, .int .i64 bd], .agg #[.int .i64 an, .int .i64 ad]] w (InIs (-x) w))) (HCbc : Hid (∀ w, Calls Try.prog 18 #[.agg #[.int .i64 bn, .int .i64 bd], .agg #[.int .i64 cn, .int .i64 cd]] w (InIs y w))) (HCac : Hid (∀ w, Calls Try.prog 18 #[.agg #[.int .i64 an, .int .i64 ad], .agg #[.int .i64 cn, .int .i64 cd]] w (InIs z w)))
    (HMin : Hid (∀ w, Calls Try.prog 20 #[.agg #[.int .i64 an, .int .i64 ad], .agg #[.int .i64 bn, .int .i64 bd]] w (FIs ⟨an, ad⟩ w))) (HMax : Hid (∀ w, Calls Try.prog 22 #[.agg #[.int .i64 an, .int .i64 ad], .agg #[.int .i64 bn, .int .i64 bd]] w (FIs ⟨bn, bd⟩ w))) (HSa : Hid (∀ w, Calls Try.prog 12 #[.agg #[.int .i64 an, .int .i64 ad], .agg #[.int .i64 cn, .int .i64 cd]] w (FrIs (⟨sn, sd⟩, es) w))) (HSb : Hid (∀ w, Calls Try.prog 12 #[.agg #[.int .i64 bn, .int .i64 bd], .agg #[.int .i64 cn, .int .i64 cd]] w (FrIs (⟨tn, td⟩, et) w)))
    (HCst : es = 0 → et = 0 → ∀ w, Calls Try.prog 18 #[.agg #[.int .i64 sn, .int .i64 sd], .agg #[.int .i64 tn, .int .i64 td]] w (InIs x w)) :
    Calls Try.prog 5 #[.agg #[.int .i64 an, .int .i64 ad], .agg #[.int .i64 bn, .int .i64 bd], .agg #[.int .i64 cn, .int .i64 cd]] w (BlIs true w) := by
  have K0 := Lib.hid (three ⟨an, ad⟩ ⟨bn, bd⟩ ⟨cn, cd⟩ w)
  have HST := Lib.hid HCst; clear HCst
  have HZ := Lib.hid hz; clear hz
  go_enter Try.func5, Try.ntmps5
  go_wp2_with fail
  refine (small_any _).mono ?_
  rintro e w1 ⟨rfl, hb⟩
  have K1 := Lib.hid (K0.out.go hb); clear hb K0
  have c0a := K1.out.1.c0; have c0b := K1.out.1.c1; have c0l := K1.out.1.lt; have c1a := K1.out.2.1.c0; have c1b := K1.out.2.1.c1; have c1l := K1.out.2.1.lt; have c2a := K1.out.2.2.1.c0; have c2b := K1.out.2.2.1.c1; have c2l := K1.out.2.2.1.lt
  go_wp2_with fail
  refine (rright_nd _ _ na da _).mono ?_
  rintro e w2 ⟨rfl, hb⟩
  have K2 := Lib.hid (K1.out.go hb); clear hb K1 c0a c0b c0l c1a c1b c1l c2a c2b c2l
  have c0a := K2.out.1.c0; have c0b := K2.out.1.c1; have c0l := K2.out.1.lt; have c1a := K2.out.2.1.c0; have c1b := K2.out.2.1.c1; have c1l := K2.out.2.1.lt; have c2a := K2.out.2.2.1.c0; have c2b := K2.out.2.2.1.c1; have c2l := K2.out.2.2.1.lt
  go_wp2_with fail
  refine (rright_nd _ _ nb db _).mono ?_
  rintro e w3 ⟨rfl, hb⟩
  have K3 := Lib.hid (K2.out.go hb); clear hb K2 c0a c0b c0l c1a c1b c1l c2a c2b c2l
  have c0a := K3.out.1.c0; have c0b := K3.out.1.c1; have c0l := K3.out.1.lt; have c1a := K3.out.2.1.c0; have c1b := K3.out.2.1.c1; have c1l := K3.out.2.1.lt; have c2a := K3.out.2.2.1.c0; have c2b := K3.out.2.2.1.c1; have c2l := K3.out.2.2.1.lt
  go_wp2_with fail
  refine (rright_nd _ _ nc dc _).mono ?_
  rintro e w4 ⟨rfl, hb⟩
  have K4 := Lib.hid (K3.out.go hb); clear hb K3 c0a c0b c0l c1a c1b c1l c2a c2b c2l
  have c0a := K4.out.1.c0; have c0b := K4.out.1.c1; have c0l := K4.out.1.lt; have c1a := K4.out.2.1.c0; have c1b := K4.out.2.1.c1; have c1l := K4.out.2.1.lt; have c2a := K4.out.2.2.1.c0; have c2b := K4.out.2.2.1.c1; have c2l := K4.out.2.2.1.lt
  go_wp2_with fail
  refine (HCab.out _).mono ?_
  rintro e w5 ⟨rfl, hb⟩
  have K5 := Lib.hid (K4.out.go hb); clear hb K4 c0a c0b c0l c1a c1b c1l c2a c2b c2l
  have c0a := K5.out.1.c0; have c0b := K5.out.1.c1; have c0l := K5.out.1.lt; have c1a := K5.out.2.1.c0; have c1b := K5.out.2.1.c1; have c1l := K5.out.2.1.lt; have c2a := K5.out.2.2.1.c0; have c2b := K5.out.2.2.1.c1; have c2l := K5.out.2.2.1.lt
  go_wp2_with fail
  refine (HCba.out _).mono ?_
  rintro e w6 ⟨rfl, hb⟩
  have K6 := Lib.hid (K5.out.go hb); clear hb K5 c0a c0b c0l c1a c1b c1l c2a c2b c2l
  have c0a := K6.out.1.c0; have c0b := K6.out.1.c1; have c0l := K6.out.1.lt; have c1a := K6.out.2.1.c0; have c1b := K6.out.2.1.c1; have c1l := K6.out.2.1.lt; have c2a := K6.out.2.2.1.c0; have c2b := K6.out.2.2.1.c1; have c2l := K6.out.2.2.1.lt
  go_wp2_with fail
  refine (HCbc.out _).mono ?_
  rintro e w6a ⟨rfl, hb⟩
  have K6a := Lib.hid (K6.out.go hb); clear hb K6 c0a c0b c0l c1a c1b c1l c2a c2b c2l
  by_cases y0 : y ≤ 0
  · have z0 := HZ.out y0
    clear HZ
    have c0a := K6a.out.1.c0; have c0b := K6a.out.1.c1; have c0l := K6a.out.1.lt; have c1a := K6a.out.2.1.c0; have c1b := K6a.out.2.1.c1; have c1l := K6a.out.2.1.lt; have c2a := K6a.out.2.2.1.c0; have c2b := K6a.out.2.2.1.c1; have c2l := K6a.out.2.2.1.lt
    go_wp2_with fail
    refine (HCac.out _).mono ?_
    rintro e w6b ⟨rfl, hb⟩
    have K6 := Lib.hid (K6a.out.go hb); clear hb K6a c0a c0b c0l c1a c1b c1l c2a c2b c2l
    have c0a := K6.out.1.c0; have c0b := K6.out.1.c1; have c0l := K6.out.1.lt; have c1a := K6.out.2.1.c0; have c1b := K6.out.2.1.c1; have c1l := K6.out.2.1.lt; have c2a := K6.out.2.2.1.c0; have c2b := K6.out.2.2.1.c1; have c2l := K6.out.2.2.1.lt
    go_wp2_with fail
    refine (HMin.out _).mono ?_
    rintro e w7 ⟨rfl, hb⟩
    have K7 := Lib.hid ((K6.out.go hb).new ⟨an, ad⟩); clear hb K6 c0a c0b c0l c1a c1b c1l c2a c2b c2l
    have c0a := K7.out.1.c0; have c0b := K7.out.1.c1; have c0l := K7.out.1.lt; have c1a := K7.out.2.1.c0; have c1b := K7.out.2.1.c1; have c1l := K7.out.2.1.lt; have c2a := K7.out.2.2.1.c0; have c2b := K7.out.2.2.1.c1; have c2l := K7.out.2.2.1.lt; have c3a := K7.out.2.2.2.1.c0; have c3b := K7.out.2.2.2.1.c1; have c3l := K7.out.2.2.2.1.lt
    go_wp2_with fail
    refine (HMax.out _).mono ?_
    rintro e w8 ⟨rfl, hb⟩
    have K8 := Lib.hid ((K7.out.go hb).new ⟨bn, bd⟩); clear hb K7 c0a c0b c0l c1a c1b c1l c2a c2b c2l c3a c3b c3l
    have c0a := K8.out.1.c0; have c0b := K8.out.1.c1; have c0l := K8.out.1.lt; have c1a := K8.out.2.1.c0; have c1b := K8.out.2.1.c1; have c1l := K8.out.2.1.lt; have c2a := K8.out.2.2.1.c0; have c2b := K8.out.2.2.1.c1; have c2l := K8.out.2.2.1.lt; have c3a := K8.out.2.2.2.1.c0; have c3b := K8.out.2.2.2.1.c1; have c3l := K8.out.2.2.2.1.lt; have c4a := K8.out.2.2.2.2.1.c0; have c4b := K8.out.2.2.2.2.1.c1; have c4l := K8.out.2.2.2.2.1.lt
    go_wp2_with fail
    refine (HCab.out _).mono ?_
    rintro e w9 ⟨rfl, hb⟩
    have K9 := Lib.hid ((K8.out.go hb)); clear hb K8 c0a c0b c0l c1a c1b c1l c2a c2b c2l c3a c3b c3l c4a c4b c4l
    have c0a := K9.out.1.c0; have c0b := K9.out.1.c1; have c0l := K9.out.1.lt; have c1a := K9.out.2.1.c0; have c1b := K9.out.2.1.c1; have c1l := K9.out.2.1.lt; have c2a := K9.out.2.2.1.c0; have c2b := K9.out.2.2.1.c1; have c2l := K9.out.2.2.1.lt; have c3a := K9.out.2.2.2.1.c0; have c3b := K9.out.2.2.2.1.c1; have c3l := K9.out.2.2.2.1.lt; have c4a := K9.out.2.2.2.2.1.c0; have c4b := K9.out.2.2.2.2.1.c1; have c4l := K9.out.2.2.2.2.1.lt
    go_wp2_with fail
    refine (HSa.out _).mono ?_
    rintro e w10 ⟨rfl, hb⟩
    have K10 := Lib.hid ((K9.out.go hb).new ⟨sn, sd⟩); clear hb K9 c0a c0b c0l c1a c1b c1l c2a c2b c2l c3a c3b c3l c4a c4b c4l
    have c0a := K10.out.1.c0; have c0b := K10.out.1.c1; have c0l := K10.out.1.lt; have c1a := K10.out.2.2.2.1.c0; have c1b := K10.out.2.2.2.1.c1; have c1l := K10.out.2.2.2.1.lt; have c2a := K10.out.2.2.2.2.1.c0; have c2b := K10.out.2.2.2.2.1.c1; have c2l := K10.out.2.2.2.2.1.lt; have c3a := K10.out.2.2.2.2.2.1.c0; have c3b := K10.out.2.2.2.2.2.1.c1; have c3l := K10.out.2.2.2.2.2.1.lt
    go_wp2_with fail
    refine (HSb.out _).mono ?_
    rintro e w11 ⟨rfl, hb⟩
    have K11 := Lib.hid ((K10.out.go hb).new ⟨tn, td⟩); clear hb K10 c0a c0b c0l c1a c1b c1l c2a c2b c2l c3a c3b c3l
    by_cases e1 : es = 0
    · have b1 : (es != 0) = false := by simp [e1]
      by_cases e2 : et = 0
      · have b2 : (et != 0) = false := by simp [e2]
        have HCS := Lib.hid (HST.out e1 e2)
        clear e1 e2 HST
        have c0a := K11.out.1.c0; have c0b := K11.out.1.c1; have c0l := K11.out.1.lt; have c1a := K11.out.2.1.c0; have c1b := K11.out.2.1.c1; have c1l := K11.out.2.1.lt
        go_wp2_with fail
        refine (HCS.out _).mono ?_
        rintro e w12 ⟨rfl, hb⟩
        have K12 := Lib.hid (K11.out.go hb); clear hb K11 c0a c0b c0l c1a c1b c1l
        go_wp2_with fail
        go_ret
        exact ⟨rfl, K12.out.below⟩
      · have b2 : (et != 0) = true := by simp [e2]
        clear e1 e2 HST
        go_wp2_with fail
        go_ret
        exact ⟨rfl, K11.out.below⟩
    · have b1 : (es != 0) = true := by simp [e1]
      clear e1 HST
      go_wp2_with fail
      go_ret
      exact ⟨rfl, K11.out.below⟩
  · clear HZ
    have K6 := K6a; clear K6a
    have c0a := K6.out.1.c0; have c0b := K6.out.1.c1; have c0l := K6.out.1.lt; have c1a := K6.out.2.1.c0; have c1b := K6.out.2.1.c1; have c1l := K6.out.2.1.lt; have c2a := K6.out.2.2.1.c0; have c2b := K6.out.2.2.1.c1; have c2l := K6.out.2.2.1.lt
    go_wp2_with fail
    refine (HMin.out _).mono ?_
    rintro e w7 ⟨rfl, hb⟩
    have K7 := Lib.hid ((K6.out.go hb).new ⟨an, ad⟩); clear hb K6 c0a c0b c0l c1a c1b c1l c2a c2b c2l
    have c0a := K7.out.1.c0; have c0b := K7.out.1.c1; have c0l := K7.out.1.lt; have c1a := K7.out.2.1.c0; have c1b := K7.out.2.1.c1; have c1l := K7.out.2.1.lt; have c2a := K7.out.2.2.1.c0; have c2b := K7.out.2.2.1.c1; have c2l := K7.out.2.2.1.lt; have c3a := K7.out.2.2.2.1.c0; have c3b := K7.out.2.2.2.1.c1; have c3l := K7.out.2.2.2.1.lt
    go_wp2_with fail
    refine (HMax.out _).mono ?_
    rintro e w8 ⟨rfl, hb⟩
    have K8 := Lib.hid ((K7.out.go hb).new ⟨bn, bd⟩); clear hb K7 c0a c0b c0l c1a c1b c1l c2a c2b c2l c3a c3b c3l
    have c0a := K8.out.1.c0; have c0b := K8.out.1.c1; have c0l := K8.out.1.lt; have c1a := K8.out.2.1.c0; have c1b := K8.out.2.1.c1; have c1l := K8.out.2.1.lt; have c2a := K8.out.2.2.1.c0; have c2b := K8.out.2.2.1.c1; have c2l := K8.out.2.2.1.lt; have c3a := K8.out.2.2.2.1.c0; have c3b := K8.out.2.2.2.1.c1; have c3l := K8.out.2.2.2.1.lt; have c4a := K8.out.2.2.2.2.1.c0; have c4b := K8.out.2.2.2.2.1.c1; have c4l := K8.out.2.2.2.2.1.lt
    go_wp2_with fail
    refine (HCab.out _).mono ?_
    rintro e w9 ⟨rfl, hb⟩
    have K9 := Lib.hid ((K8.out.go hb)); clear hb K8 c0a c0b c0l c1a c1b c1l c2a c2b c2l c3a c3b c3l c4a c4b c4l
    have c0a := K9.out.1.c0; have c0b := K9.out.1.c1; have c0l := K9.out.1.lt; have c1a := K9.out.2.1.c0; have c1b := K9.out.2.1.c1; have c1l := K9.out.2.1.lt; have c2a := K9.out.2.2.1.c0; have c2b := K9.out.2.2.1.c1; have c2l := K9.out.2.2.1.lt; have c3a := K9.out.2.2.2.1.c0; have c3b := K9.out.2.2.2.1.c1; have c3l := K9.out.2.2.2.1.lt; have c4a := K9.out.2.2.2.2.1.c0; have c4b := K9.out.2.2.2.2.1.c1; have c4l := K9.out.2.2.2.2.1.lt
    go_wp2_with fail
    refine (HSa.out _).mono ?_
    rintro e w10 ⟨rfl, hb⟩
    have K10 := Lib.hid ((K9.out.go hb).new ⟨sn, sd⟩); clear hb K9 c0a c0b c0l c1a c1b c1l c2a c2b c2l c3a c3b c3l c4a c4b c4l
    have c0a := K10.out.1.c0; have c0b := K10.out.1.c1; have c0l := K10.out.1.lt; have c1a := K10.out.2.2.2.1.c0; have c1b := K10.out.2.2.2.1.c1; have c1l := K10.out.2.2.2.1.lt; have c2a := K10.out.2.2.2.2.1.c0; have c2b := K10.out.2.2.2.2.1.c1; have c2l := K10.out.2.2.2.2.1.lt; have c3a := K10.out.2.2.2.2.2.1.c0; have c3b := K10.out.2.2.2.2.2.1.c1; have c3l := K10.out.2.2.2.2.2.1.lt
    go_wp2_with fail
    refine (HSb.out _).mono ?_
    rintro e w11 ⟨rfl, hb⟩
    have K11 := Lib.hid ((K10.out.go hb).new ⟨tn, td⟩); clear hb K10 c0a c0b c0l c1a c1b c1l c2a c2b c2l c3a c3b c3l
    by_cases e1 : es = 0
    · have b1 : (es != 0) = false := by simp [e1]
      by_cases e2 : et = 0
      · have b2 : (et != 0) = false := by simp [e2]
        have HCS := Lib.hid (HST.out e1 e2)
        clear e1 e2 HST
        have c0a := K11.out.1.c0; have c0b := K11.out.1.c1; have c0l := K11.out.1.lt; have c1a := K11.out.2.1.c0; have c1b := K11.out.2.1.c1; have c1l := K11.out.2.1.lt
        go_wp2_with fail
        refine (HCS.out _).mono ?_
        rintro e w12 ⟨rfl, hb⟩
        have K12 := Lib.hid (K11.out.go hb); clear hb K11 c0a c0b c0l c1a c1b c1l
        go_wp2_with fail
        go_ret
        exact ⟨rfl, K12.out.below⟩
      · have b2 : (et != 0) = true := by simp [e2]
        clear e1 e2 HST
        go_wp2_with fail
        go_ret
        exact ⟨rfl, K11.out.below⟩
    · have b1 : (es != 0) = true := by simp [e1]
      clear e1 HST
      go_wp2_with fail
      go_ret
      exact ⟨rfl, K11.out.below⟩

set_option maxHeartbeats 16000000 in
theorem orders_n2 (an ad bn bd cn cd x y z sn sd tn td es et : Int) (w : World) (hN : ¬ an = bn) (hN2 : ¬ bn = an) (hx0 : (x == 0) = false) (hx1 : x ≤ 1) (hx2 : 0 < x)
    (oa : okB ⟨an, ad⟩ = true) (ob : okB ⟨bn, bd⟩ = true) (oc : okB ⟨cn, cd⟩ = true) (na : In64 an) (da : In64 ad) (nb : In64 bn) (db : In64 bd) (nc : In64 cn) (dc : In64 cd)
    (HCab : Hid (∀ w, Calls Try.prog 18 #[.agg #[.int .i64 an, .int .i64 ad], .agg #[.int .i64 bn, .int .i64 bd]] w (InIs x w))) (HCba : Hid (∀ w, Calls Try.prog 18 #[.agg #[.int .i64 bn, .int .i64 bd], .agg #[.int .i64 an, .int .i64 ad]] w (InIs (-x) w))) (HCbc : Hid (∀ w, Calls Try.prog 18 #[.agg #[.int .i64 bn, .int .i64 bd], .agg #[.int .i64 cn, .int .i64 cd]] w (InIs y w))) (HCac : Hid (∀ w, Calls Try.prog 18 #[.agg #[.int .i64 an, .int .i64 ad], .agg #[.int .i64 cn, .int .i64 cd]] w (InIs z w)))
    (HMin : Hid (∀ w, Calls Try.prog 20 #[.agg #[.int .i64 an, .int .i64 ad], .agg #[.int .i64 bn, .int .i64 bd]] w (FIs ⟨bn, bd⟩ w))) (HMax : Hid (∀ w, Calls Try.prog 22 #[.agg #[.int .i64 an, .int .i64 ad], .agg #[.int .i64 bn, .int .i64 bd]] w (FIs ⟨an, ad⟩ w))) (HSa : Hid (∀ w, Calls Try.prog 12 #[.agg #[.int .i64 an, .int .i64 ad], .agg #[.int .i64 cn, .int .i64 cd]] w (FrIs (⟨sn, sd⟩, es) w))) (HSb : Hid (∀ w, Calls Try.prog 12 #[.agg #[.int .i64 bn, .int .i64 bd], .agg #[.int .i64 cn, .int .i64 cd]] w (FrIs (⟨tn, td⟩, et) w)))
    (HCst : es = 0 → et = 0 → ∀ w, Calls Try.prog 18 #[.agg #[.int .i64 sn, .int .i64 sd], .agg #[.int .i64 tn, .int .i64 td]] w (InIs x w)) :
    Calls Try.prog 5 #[.agg #[.int .i64 an, .int .i64 ad], .agg #[.int .i64 bn, .int .i64 bd], .agg #[.int .i64 cn, .int .i64 cd]] w (BlIs true w) := by
  have K0 := Lib.hid (three ⟨an, ad⟩ ⟨bn, bd⟩ ⟨cn, cd⟩ w)
  have HST := Lib.hid HCst; clear HCst
  skip
  go_enter Try.func5, Try.ntmps5
  go_wp2_with fail
  refine (small_any _).mono ?_
  rintro e w1 ⟨rfl, hb⟩
  have K1 := Lib.hid (K0.out.go hb); clear hb K0
  have c0a := K1.out.1.c0; have c0b := K1.out.1.c1; have c0l := K1.out.1.lt; have c1a := K1.out.2.1.c0; have c1b := K1.out.2.1.c1; have c1l := K1.out.2.1.lt; have c2a := K1.out.2.2.1.c0; have c2b := K1.out.2.2.1.c1; have c2l := K1.out.2.2.1.lt
  go_wp2_with fail
  refine (rright_nd _ _ na da _).mono ?_
  rintro e w2 ⟨rfl, hb⟩
  have K2 := Lib.hid (K1.out.go hb); clear hb K1 c0a c0b c0l c1a c1b c1l c2a c2b c2l
  have c0a := K2.out.1.c0; have c0b := K2.out.1.c1; have c0l := K2.out.1.lt; have c1a := K2.out.2.1.c0; have c1b := K2.out.2.1.c1; have c1l := K2.out.2.1.lt; have c2a := K2.out.2.2.1.c0; have c2b := K2.out.2.2.1.c1; have c2l := K2.out.2.2.1.lt
  go_wp2_with fail
  refine (rright_nd _ _ nb db _).mono ?_
  rintro e w3 ⟨rfl, hb⟩
  have K3 := Lib.hid (K2.out.go hb); clear hb K2 c0a c0b c0l c1a c1b c1l c2a c2b c2l
  have c0a := K3.out.1.c0; have c0b := K3.out.1.c1; have c0l := K3.out.1.lt; have c1a := K3.out.2.1.c0; have c1b := K3.out.2.1.c1; have c1l := K3.out.2.1.lt; have c2a := K3.out.2.2.1.c0; have c2b := K3.out.2.2.1.c1; have c2l := K3.out.2.2.1.lt
  go_wp2_with fail
  refine (rright_nd _ _ nc dc _).mono ?_
  rintro e w4 ⟨rfl, hb⟩
  have K4 := Lib.hid (K3.out.go hb); clear hb K3 c0a c0b c0l c1a c1b c1l c2a c2b c2l
  have c0a := K4.out.1.c0; have c0b := K4.out.1.c1; have c0l := K4.out.1.lt; have c1a := K4.out.2.1.c0; have c1b := K4.out.2.1.c1; have c1l := K4.out.2.1.lt; have c2a := K4.out.2.2.1.c0; have c2b := K4.out.2.2.1.c1; have c2l := K4.out.2.2.1.lt
  go_wp2_with fail
  refine (HCab.out _).mono ?_
  rintro e w5 ⟨rfl, hb⟩
  have K5 := Lib.hid (K4.out.go hb); clear hb K4 c0a c0b c0l c1a c1b c1l c2a c2b c2l
  have c0a := K5.out.1.c0; have c0b := K5.out.1.c1; have c0l := K5.out.1.lt; have c1a := K5.out.2.1.c0; have c1b := K5.out.2.1.c1; have c1l := K5.out.2.1.lt; have c2a := K5.out.2.2.1.c0; have c2b := K5.out.2.2.1.c1; have c2l := K5.out.2.2.1.lt
  go_wp2_with fail
  refine (HCba.out _).mono ?_
  rintro e w6 ⟨rfl, hb⟩
  have K6 := Lib.hid (K5.out.go hb); clear hb K5 c0a c0b c0l c1a c1b c1l c2a c2b c2l
  have c0a := K6.out.1.c0; have c0b := K6.out.1.c1; have c0l := K6.out.1.lt; have c1a := K6.out.2.1.c0; have c1b := K6.out.2.1.c1; have c1l := K6.out.2.1.lt; have c2a := K6.out.2.2.1.c0; have c2b := K6.out.2.2.1.c1; have c2l := K6.out.2.2.1.lt
  go_wp2_with fail
  refine (HMin.out _).mono ?_
  rintro e w7 ⟨rfl, hb⟩
  have K7 := Lib.hid ((K6.out.go hb).new ⟨bn, bd⟩); clear hb K6 c0a c0b c0l c1a c1b c1l c2a c2b c2l
  have c0a := K7.out.1.c0; have c0b := K7.out.1.c1; have c0l := K7.out.1.lt; have c1a := K7.out.2.1.c0; have c1b := K7.out.2.1.c1; have c1l := K7.out.2.1.lt; have c2a := K7.out.2.2.1.c0; have c2b := K7.out.2.2.1.c1; have c2l := K7.out.2.2.1.lt; have c3a := K7.out.2.2.2.1.c0; have c3b := K7.out.2.2.2.1.c1; have c3l := K7.out.2.2.2.1.lt
  go_wp2_with fail
  refine (HMax.out _).mono ?_
  rintro e w8 ⟨rfl, hb⟩
  have K8 := Lib.hid ((K7.out.go hb).new ⟨an, ad⟩); clear hb K7 c0a c0b c0l c1a c1b c1l c2a c2b c2l c3a c3b c3l
  have c0a := K8.out.1.c0; have c0b := K8.out.1.c1; have c0l := K8.out.1.lt; have c1a := K8.out.2.1.c0; have c1b := K8.out.2.1.c1; have c1l := K8.out.2.1.lt; have c2a := K8.out.2.2.1.c0; have c2b := K8.out.2.2.1.c1; have c2l := K8.out.2.2.1.lt; have c3a := K8.out.2.2.2.1.c0; have c3b := K8.out.2.2.2.1.c1; have c3l := K8.out.2.2.2.1.lt; have c4a := K8.out.2.2.2.2.1.c0; have c4b := K8.out.2.2.2.2.1.c1; have c4l := K8.out.2.2.2.2.1.lt
  go_wp2_with fail
  refine (HCba.out _).mono ?_
  rintro e w9 ⟨rfl, hb⟩
  have K9 := Lib.hid ((K8.out.go hb)); clear hb K8 c0a c0b c0l c1a c1b c1l c2a c2b c2l c3a c3b c3l c4a c4b c4l
  have c0a := K9.out.1.c0; have c0b := K9.out.1.c1; have c0l := K9.out.1.lt; have c1a := K9.out.2.1.c0; have c1b := K9.out.2.1.c1; have c1l := K9.out.2.1.lt; have c2a := K9.out.2.2.1.c0; have c2b := K9.out.2.2.1.c1; have c2l := K9.out.2.2.1.lt; have c3a := K9.out.2.2.2.1.c0; have c3b := K9.out.2.2.2.1.c1; have c3l := K9.out.2.2.2.1.lt; have c4a := K9.out.2.2.2.2.1.c0; have c4b := K9.out.2.2.2.2.1.c1; have c4l := K9.out.2.2.2.2.1.lt
  go_wp2_with fail
  refine (HSa.out _).mono ?_
  rintro e w10 ⟨rfl, hb⟩
  have K10 := Lib.hid ((K9.out.go hb).new ⟨sn, sd⟩); clear hb K9 c0a c0b c0l c1a c1b c1l c2a c2b c2l c3a c3b c3l c4a c4b c4l
  have c0a := K10.out.1.c0; have c0b := K10.out.1.c1; have c0l := K10.out.1.lt; have c1a := K10.out.2.2.2.1.c0; have c1b := K10.out.2.2.2.1.c1; have c1l := K10.out.2.2.2.1.lt; have c2a := K10.out.2.2.2.2.1.c0; have c2b := K10.out.2.2.2.2.1.c1; have c2l := K10.out.2.2.2.2.1.lt; have c3a := K10.out.2.2.2.2.2.1.c0; have c3b := K10.out.2.2.2.2.2.1.c1; have c3l := K10.out.2.2.2.2.2.1.lt
  go_wp2_with fail
  refine (HSb.out _).mono ?_
  rintro e w11 ⟨rfl, hb⟩
  have K11 := Lib.hid ((K10.out.go hb).new ⟨tn, td⟩); clear hb K10 c0a c0b c0l c1a c1b c1l c2a c2b c2l c3a c3b c3l
  by_cases e1 : es = 0
  · have b1 : (es != 0) = false := by simp [e1]
    by_cases e2 : et = 0
    · have b2 : (et != 0) = false := by simp [e2]
      have HCS := Lib.hid (HST.out e1 e2)
      clear e1 e2 HST
      have c0a := K11.out.1.c0; have c0b := K11.out.1.c1; have c0l := K11.out.1.lt; have c1a := K11.out.2.1.c0; have c1b := K11.out.2.1.c1; have c1l := K11.out.2.1.lt
      go_wp2_with fail
      refine (HCS.out _).mono ?_
      rintro e w12 ⟨rfl, hb⟩
      have K12 := Lib.hid (K11.out.go hb); clear hb K11 c0a c0b c0l c1a c1b c1l
      go_wp2_with fail
      go_ret
      exact ⟨rfl, K12.out.below⟩
    · have b2 : (et != 0) = true := by simp [e2]
      clear e1 e2 HST
      go_wp2_with fail
      go_ret
      exact ⟨rfl, K11.out.below⟩
  · have b1 : (es != 0) = true := by simp [e1]
    clear e1 HST
    go_wp2_with fail
    go_ret
    exact ⟨rfl, K11.out.below⟩

set_option maxHeartbeats 16000000 in
theorem orders_d1 (an ad bd cn cd x y z sn sd tn td es et : Int) (w : World) (hN : ¬ ad = bd) (hx0 : (x == 0) = false) (hx1 : -1 ≤ x) (hx2 : x ≤ 0) (hz : y ≤ 0 → z ≤ 0)
    (oa : okB ⟨an, ad⟩ = true) (ob : okB ⟨an, bd⟩ = true) (oc : okB ⟨cn, cd⟩ = true) (na : In64 an) (da : In64 ad) (nb : In64 an) (db : In64 bd) (nc : In64 cn) (dc : In64 cd)
    (HCab : Hid (∀ w, Calls Try.prog 18 #[.agg #[.int .i64 an, .int .i64 ad], .agg #[.int .i64 an, .int .i64 bd]] w (InIs x w))) (HCba : Hid (∀ w, Calls Try.prog 18 #[.agg #[.int .i64 an, .int .i64 bd], .agg #[.int .i64 an, .int .i64 ad]] w (InIs (-x) w))) (HCbc : Hid (∀ w, Calls Try.prog 18 #[.agg #[.int .i64 an, .int .i64 bd], .agg #[.int .i64 cn, .int .i64 cd]] w (InIs y w))) (HCac : Hid (∀ w, Calls Try.prog 18 #[.agg #[.int .i64 an, .int .i64 ad], .agg #[.int .i64 cn, .int .i64 cd]] w (InIs z w)))
    (HMin : Hid (∀ w, Calls Try.prog 20 #[.agg #[.int .i64 an, .int .i64 ad], .agg #[.int .i64 an, .int .i64 bd]] w (FIs ⟨an, ad⟩ w))) (HMax : Hid (∀ w, Calls Try.prog 22 #[.agg #[.int .i64 an, .int .i64 ad], .agg #[.int .i64 an, .int .i64 bd]] w (FIs ⟨an, bd⟩ w))) (HSa : Hid (∀ w, Calls Try.prog 12 #[.agg #[.int .i64 an, .int .i64 ad], .agg #[.int .i64 cn, .int .i64 cd]] w (FrIs (⟨sn, sd⟩, es) w))) (HSb : Hid (∀ w, Calls Try.prog 12 #[.agg #[.int .i64 an, .int .i64 bd], .agg #[.int .i64 cn, .int .i64 cd]] w (FrIs (⟨tn, td⟩, et) w)))
    (HCst : es = 0 → et = 0 → ∀ w, Calls Try.prog 18 #[.agg #[.int .i64 sn, .int .i64 sd], .agg #[.int .i64 tn, .int .i64 td]] w (InIs x w)) :
    Calls Try.prog 5 #[.agg #[.int .i64 an, .int .i64 ad], .agg #[.int .i64 an, .int .i64 bd], .agg #[.int .i64 cn, .int .i64 cd]] w (BlIs true w) := by
  have K0 := Lib.hid (three ⟨an, ad⟩ ⟨an, bd⟩ ⟨cn, cd⟩ w)
  have HST := Lib.hid HCst; clear HCst
  have HZ := Lib.hid hz; clear hz
  go_enter Try.func5, Try.ntmps5
  go_wp2_with fail
  refine (small_any _).mono ?_
  rintro e w1 ⟨rfl, hb⟩
  have K1 := Lib.hid (K0.out.go hb); clear hb K0
  have c0a := K1.out.1.c0; have c0b := K1.out.1.c1; have c0l := K1.out.1.lt; have c1a := K1.out.2.1.c0; have c1b := K1.out.2.1.c1; have c1l := K1.out.2.1.lt; have c2a := K1.out.2.2.1.c0; have c2b := K1.out.2.2.1.c1; have c2l := K1.out.2.2.1.lt
  go_wp2_with fail
  refine (rright_nd _ _ na da _).mono ?_
  rintro e w2 ⟨rfl, hb⟩
  have K2 := Lib.hid (K1.out.go hb); clear hb K1 c0a c0b c0l c1a c1b c1l c2a c2b c2l
  have c0a := K2.out.1.c0; have c0b := K2.out.1.c1; have c0l := K2.out.1.lt; have c1a := K2.out.2.1.c0; have c1b := K2.out.2.1.c1; have c1l := K2.out.2.1.lt; have c2a := K2.out.2.2.1.c0; have c2b := K2.out.2.2.1.c1; have c2l := K2.out.2.2.1.lt
  go_wp2_with fail
  refine (rright_nd _ _ nb db _).mono ?_
  rintro e w3 ⟨rfl, hb⟩
  have K3 := Lib.hid (K2.out.go hb); clear hb K2 c0a c0b c0l c1a c1b c1l c2a c2b c2l
  have c0a := K3.out.1.c0; have c0b := K3.out.1.c1; have c0l := K3.out.1.lt; have c1a := K3.out.2.1.c0; have c1b := K3.out.2.1.c1; have c1l := K3.out.2.1.lt; have c2a := K3.out.2.2.1.c0; have c2b := K3.out.2.2.1.c1; have c2l := K3.out.2.2.1.lt
  go_wp2_with fail
  refine (rright_nd _ _ nc dc _).mono ?_
  rintro e w4 ⟨rfl, hb⟩
  have K4 := Lib.hid (K3.out.go hb); clear hb K3 c0a c0b c0l c1a c1b c1l c2a c2b c2l
  have c0a := K4.out.1.c0; have c0b := K4.out.1.c1; have c0l := K4.out.1.lt; have c1a := K4.out.2.1.c0; have c1b := K4.out.2.1.c1; have c1l := K4.out.2.1.lt; have c2a := K4.out.2.2.1.c0; have c2b := K4.out.2.2.1.c1; have c2l := K4.out.2.2.1.lt
  go_wp2_with fail
  refine (HCab.out _).mono ?_
  rintro e w5 ⟨rfl, hb⟩
  have K5 := Lib.hid (K4.out.go hb); clear hb K4 c0a c0b c0l c1a c1b c1l c2a c2b c2l
  have c0a := K5.out.1.c0; have c0b := K5.out.1.c1; have c0l := K5.out.1.lt; have c1a := K5.out.2.1.c0; have c1b := K5.out.2.1.c1; have c1l := K5.out.2.1.lt; have c2a := K5.out.2.2.1.c0; have c2b := K5.out.2.2.1.c1; have c2l := K5.out.2.2.1.lt
  go_wp2_with fail
  refine (HCba.out _).mono ?_
  rintro e w6 ⟨rfl, hb⟩
  have K6 := Lib.hid (K5.out.go hb); clear hb K5 c0a c0b c0l c1a c1b c1l c2a c2b c2l
  have c0a := K6.out.1.c0; have c0b := K6.out.1.c1; have c0l := K6.out.1.lt; have c1a := K6.out.2.1.c0; have c1b := K6.out.2.1.c1; have c1l := K6.out.2.1.lt; have c2a := K6.out.2.2.1.c0; have c2b := K6.out.2.2.1.c1; have c2l := K6.out.2.2.1.lt
  go_wp2_with fail
  refine (HCbc.out _).mono ?_
  rintro e w6a ⟨rfl, hb⟩
  have K6a := Lib.hid (K6.out.go hb); clear hb K6 c0a c0b c0l c1a c1b c1l c2a c2b c2l
  by_cases y0 : y ≤ 0
  · have z0 := HZ.out y0
    clear HZ
    have c0a := K6a.out.1.c0; have c0b := K6a.out.1.c1; have c0l := K6a.out.1.lt; have c1a := K6a.out.2.1.c0; have c1b := K6a.out.2.1.c1; have c1l := K6a.out.2.1.lt; have c2a := K6a.out.2.2.1.c0; have c2b := K6a.out.2.2.1.c1; have c2l := K6a.out.2.2.1.lt
    go_wp2_with fail
    refine (HCac.out _).mono ?_
    rintro e w6b ⟨rfl, hb⟩
    have K6 := Lib.hid (K6a.out.go hb); clear hb K6a c0a c0b c0l c1a c1b c1l c2a c2b c2l
    have c0a := K6.out.1.c0; have c0b := K6.out.1.c1; have c0l := K6.out.1.lt; have c1a := K6.out.2.1.c0; have c1b := K6.out.2.1.c1; have c1l := K6.out.2.1.lt; have c2a := K6.out.2.2.1.c0; have c2b := K6.out.2.2.1.c1; have c2l := K6.out.2.2.1.lt
    go_wp2_with fail
    refine (HMin.out _).mono ?_
    rintro e w7 ⟨rfl, hb⟩
    have K7 := Lib.hid ((K6.out.go hb).new ⟨an, ad⟩); clear hb K6 c0a c0b c0l c1a c1b c1l c2a c2b c2l
    have c0a := K7.out.1.c0; have c0b := K7.out.1.c1; have c0l := K7.out.1.lt; have c1a := K7.out.2.1.c0; have c1b := K7.out.2.1.c1; have c1l := K7.out.2.1.lt; have c2a := K7.out.2.2.1.c0; have c2b := K7.out.2.2.1.c1; have c2l := K7.out.2.2.1.lt; have c3a := K7.out.2.2.2.1.c0; have c3b := K7.out.2.2.2.1.c1; have c3l := K7.out.2.2.2.1.lt
    go_wp2_with fail
    refine (HMax.out _).mono ?_
    rintro e w8 ⟨rfl, hb⟩
    have K8 := Lib.hid ((K7.out.go hb).new ⟨an, bd⟩); clear hb K7 c0a c0b c0l c1a c1b c1l c2a c2b c2l c3a c3b c3l
    have c0a := K8.out.1.c0; have c0b := K8.out.1.c1; have c0l := K8.out.1.lt; have c1a := K8.out.2.1.c0; have c1b := K8.out.2.1.c1; have c1l := K8.out.2.1.lt; have c2a := K8.out.2.2.1.c0; have c2b := K8.out.2.2.1.c1; have c2l := K8.out.2.2.1.lt; have c3a := K8.out.2.2.2.1.c0; have c3b := K8.out.2.2.2.1.c1; have c3l := K8.out.2.2.2.1.lt; have c4a := K8.out.2.2.2.2.1.c0; have c4b := K8.out.2.2.2.2.1.c1; have c4l := K8.out.2.2.2.2.1.lt
    go_wp2_with fail
    refine (HCab.out _).mono ?_
    rintro e w9 ⟨rfl, hb⟩
    have K9 := Lib.hid ((K8.out.go hb)); clear hb K8 c0a c0b c0l c1a c1b c1l c2a c2b c2l c3a c3b c3l c4a c4b c4l
    have c0a := K9.out.1.c0; have c0b := K9.out.1.c1; have c0l := K9.out.1.lt; have c1a := K9.out.2.1.c0; have c1b := K9.out.2.1.c1; have c1l := K9.out.2.1.lt; have c2a := K9.out.2.2.1.c0; have c2b := K9.out.2.2.1.c1; have c2l := K9.out.2.2.1.lt; have c3a := K9.out.2.2.2.1.c0; have c3b := K9.out.2.2.2.1.c1; have c3l := K9.out.2.2.2.1.lt; have c4a := K9.out.2.2.2.2.1.c0; have c4b := K9.out.2.2.2.2.1.c1; have c4l := K9.out.2.2.2.2.1.lt
    go_wp2_with fail
    refine (HSa.out _).mono ?_
    rintro e w10 ⟨rfl, hb⟩
    have K10 := Lib.hid ((K9.out.go hb).new ⟨sn, sd⟩); clear hb K9 c0a c0b c0l c1a c1b c1l c2a c2b c2l c3a c3b c3l c4a c4b c4l
    have c0a := K10.out.1.c0; have c0b := K10.out.1.c1; have c0l := K10.out.1.lt; have c1a := K10.out.2.2.2.1.c0; have c1b := K10.out.2.2.2.1.c1; have c1l := K10.out.2.2.2.1.lt; have c2a := K10.out.2.2.2.2.1.c0; have c2b := K10.out.2.2.2.2.1.c1; have c2l := K10.out.2.2.2.2.1.lt; have c3a := K10.out.2.2.2.2.2.1.c0; have c3b := K10.out.2.2.2.2.2.1.c1; have c3l := K10.out.2.2.2.2.2.1.lt
    go_wp2_with fail
    refine (HSb.out _).mono ?_
    rintro e w11 ⟨rfl, hb⟩
    have K11 := Lib.hid ((K10.out.go hb).new ⟨tn, td⟩); clear hb K10 c0a c0b c0l c1a c1b c1l c2a c2b c2l c3a c3b c3l
    by_cases e1 : es = 0
    · have b1 : (es != 0) = false := by simp [e1]
      by_cases e2 : et = 0
      · have b2 : (et != 0) = false := by simp [e2]
        have HCS := Lib.hid (HST.out e1 e2)
        clear e1 e2 HST
        have c0a := K11.out.1.c0; have c0b := K11.out.1.c1; have c0l := K11.out.1.lt; have c1a := K11.out.2.1.c0; have c1b := K11.out.2.1.c1; have c1l := K11.out.2.1.lt
        go_wp2_with fail
        refine (HCS.out _).mono ?_
        rintro e w12 ⟨rfl, hb⟩
        have K12 := Lib.hid (K11.out.go hb); clear hb K11 c0a c0b c0l c1a c1b c1l
        go_wp2_with fail
        go_ret
        exact ⟨rfl, K12.out.below⟩
      · have b2 : (et != 0) = true := by simp [e2]
        clear e1 e2 HST
        go_wp2_with fail
        go_ret
        exact ⟨rfl, K11.out.below⟩
    · have b1 : (es != 0) = true := by simp [e1]
      clear e1 HST
      go_wp2_with fail
      go_ret
      exact ⟨rfl, K11.out.below⟩
  · clear HZ
    have K6 := K6a; clear K6a
    have c0a := K6.out.1.c0; have c0b := K6.out.1.c1; have c0l := K6.out.1.lt; have c1a := K6.out.2.1.c0; have c1b := K6.out.2.1.c1; have c1l := K6.out.2.1.lt; have c2a := K6.out.2.2.1.c0; have c2b := K6.out.2.2.1.c1; have c2l := K6.out.2.2.1.lt
    go_wp2_with fail
    refine (HMin.out _).mono ?_
    rintro e w7 ⟨rfl, hb⟩
    have K7 := Lib.hid ((K6.out.go hb).new ⟨an, ad⟩); clear hb K6 c0a c0b c0l c1a c1b c1l c2a c2b c2l
    have c0a := K7.out.1.c0; have c0b := K7.out.1.c1; have c0l := K7.out.1.lt; have c1a := K7.out.2.1.c0; have c1b := K7.out.2.1.c1; have c1l := K7.out.2.1.lt; have c2a := K7.out.2.2.1.c0; have c2b := K7.out.2.2.1.c1; have c2l := K7.out.2.2.1.lt; have c3a := K7.out.2.2.2.1.c0; have c3b := K7.out.2.2.2.1.c1; have c3l := K7.out.2.2.2.1.lt
    go_wp2_with fail
    refine (HMax.out _).mono ?_
    rintro e w8 ⟨rfl, hb⟩
    have K8 := Lib.hid ((K7.out.go hb).new ⟨an, bd⟩); clear hb K7 c0a c0b c0l c1a c1b c1l c2a c2b c2l c3a c3b c3l
    have c0a := K8.out.1.c0; have c0b := K8.out.1.c1; have c0l := K8.out.1.lt; have c1a := K8.out.2.1.c0; have c1b := K8.out.2.1.c1; have c1l := K8.out.2.1.lt; have c2a := K8.out.2.2.1.c0; have c2b := K8.out.2.2.1.c1; have c2l := K8.out.2.2.1.lt; have c3a := K8.out.2.2.2.1.c0; have c3b := K8.out.2.2.2.1.c1; have c3l := K8.out.2.2.2.1.lt; have c4a := K8.out.2.2.2.2.1.c0; have c4b := K8.out.2.2.2.2.1.c1; have c4l := K8.out.2.2.2.2.1.lt
    go_wp2_with fail
    refine (HCab.out _).mono ?_
    rintro e w9 ⟨rfl, hb⟩
    have K9 := Lib.hid ((K8.out.go hb)); clear hb K8 c0a c0b c0l c1a c1b c1l c2a c2b c2l c3a c3b c3l c4a c4b c4l
    have c0a := K9.out.1.c0; have c0b := K9.out.1.c1; have c0l := K9.out.1.lt; have c1a := K9.out.2.1.c0; have c1b := K9.out.2.1.c1; have c1l := K9.out.2.1.lt; have c2a := K9.out.2.2.1.c0; have c2b := K9.out.2.2.1.c1; have c2l := K9.out.2.2.1.lt; have c3a := K9.out.2.2.2.1.c0; have c3b := K9.out.2.2.2.1.c1; have c3l := K9.out.2.2.2.1.lt; have c4a := K9.out.2.2.2.2.1.c0; have c4b := K9.out.2.2.2.2.1.c1; have c4l := K9.out.2.2.2.2.1.lt
    go_wp2_with fail
    refine (HSa.out _).mono ?_
    rintro e w10 ⟨rfl, hb⟩
    have K10 := Lib.hid ((K9.out.go hb).new ⟨sn, sd⟩); clear hb K9 c0a c0b c0l c1a c1b c1l c2a c2b c2l c3a c3b c3l c4a c4b c4l
    have c0a := K10.out.1.c0; have c0b := K10.out.1.c1; have c0l := K10.out.1.lt; have c1a := K10.out.2.2.2.1.c0; have c1b := K10.out.2.2.2.1.c1; have c1l := K10.out.2.2.2.1.lt; have c2a := K10.out.2.2.2.2.1.c0; have c2b := K10.out.2.2.2.2.1.c1; have c2l := K10.out.2.2.2.2.1.lt; have c3a := K10.out.2.2.2.2.2.1.c0; have c3b := K10.out.2.2.2.2.2.1.c1; have c3l := K10.out.2.2.2.2.2.1.lt
    go_wp2_with fail
    refine (HSb.out _).mono ?_
    rintro e w11 ⟨rfl, hb⟩
    have K11 := Lib.hid ((K10.out.go hb).new ⟨tn, td⟩); clear hb K10 c0a c0b c0l c1a c1b c1l c2a c2b c2l c3a c3b c3l
    by_cases e1 : es = 0
    · have b1 : (es != 0) = false := by simp [e1]
      by_cases e2 : et = 0
      · have b2 : (et != 0) = false := by simp [e2]
        have HCS := Lib.hid (HST.out e1 e2)
        clear e1 e2 HST
        have c0a := K11.out.1.c0; have c0b := K11.out.1.c1; have c0l := K11.out.1.lt; have c1a := K11.out.2.1.c0; have c1b := K11.out.2.1.c1; have c1l := K11.out.2.1.lt
        go_wp2_with fail
        refine (HCS.out _).mono ?_
        rintro e w12 ⟨rfl, hb⟩
        have K12 := Lib.hid (K11.out.go hb); clear hb K11 c0a c0b c0l c1a c1b c1l
        go_wp2_with fail
        go_ret
        exact ⟨rfl, K12.out.below⟩
      · have b2 : (et != 0) = true := by simp [e2]
        clear e1 e2 HST
        go_wp2_with fail
        go_ret
        exact ⟨rfl, K11.out.below⟩
    · have b1 : (es != 0) = true := by simp [e1]
      clear e1 HST
      go_wp2_with fail
      go_ret
      exact ⟨rfl, K11.out.below⟩

set_option maxHeartbeats 16000000 in
theorem orders_d2 (an ad bd cn cd x y z sn sd tn td es et : Int) (w : World) (hN : ¬ ad = bd) (hN2 : ¬ bd = ad) (hx0 : (x == 0) = false) (hx1 : x ≤ 1) (hx2 : 0 < x)
    (oa : okB ⟨an, ad⟩ = true) (ob : okB ⟨an, bd⟩ = true) (oc : okB ⟨cn, cd⟩ = true) (na : In64 an) (da : In64 ad) (nb : In64 an) (db : In64 bd) (nc : In64 cn) (dc : In64 cd)
    (HCab : Hid (∀ w, Calls Try.prog 18 #[.agg #[.int .i64 an, .int .i64 ad], .agg #[.int .i64 an, .int .i64 bd]] w (InIs x w))) (HCba : Hid (∀ w, Calls Try.prog 18 #[.agg #[.int .i64 an, .int .i64 bd], .agg #[.int .i64 an, .int .i64 ad]] w (InIs (-x) w))) (HCbc : Hid (∀ w, Calls Try.prog 18 #[.agg #[.int .i64 an, .int .i64 bd], .agg #[.int .i64 cn, .int .i64 cd]] w (InIs y w))) (HCac : Hid (∀ w, Calls Try.prog 18 #[.agg #[.int .i64 an, .int .i64 ad], .agg #[.int .i64 cn, .int .i64 cd]] w (InIs z w)))
    (HMin : Hid (∀ w, Calls Try.prog 20 #[.agg #[.int .i64 an, .int .i64 ad], .agg #[.int .i64 an, .int .i64 bd]] w (FIs ⟨an, bd⟩ w))) (HMax : Hid (∀ w, Calls Try.prog 22 #[.agg #[.int .i64 an, .int .i64 ad], .agg #[.int .i64 an, .int .i64 bd]] w (FIs ⟨an, ad⟩ w))) (HSa : Hid (∀ w, Calls Try.prog 12 #[.agg #[.int .i64 an, .int .i64 ad], .agg #[.int .i64 cn, .int .i64 cd]] w (FrIs (⟨sn, sd⟩, es) w))) (HSb : Hid (∀ w, Calls Try.prog 12 #[.agg #[.int .i64 an, .int .i64 bd], .agg #[.int .i64 cn, .int .i64 cd]] w (FrIs (⟨tn, td⟩, et) w)))
    (HCst : es = 0 → et = 0 → ∀ w, Calls Try.prog 18 #[.agg #[.int .i64 sn, .int .i64 sd], .agg #[.int .i64 tn, .int .i64 td]] w (InIs x w)) :
    Calls Try.prog 5 #[.agg #[.int .i64 an, .int .i64 ad], .agg #[.int .i64 an, .int .i64 bd], .agg #[.int .i64 cn, .int .i64 cd]] w (BlIs true w) := by
  have K0 := Lib.hid (three ⟨an, ad⟩ ⟨an, bd⟩ ⟨cn, cd⟩ w)
  have HST := Lib.hid HCst; clear HCst
  skip
  go_enter Try.func5, Try.ntmps5
  go_wp2_with fail
  refine (small_any _).mono ?_
  rintro e w1 ⟨rfl, hb⟩
  have K1 := Lib.hid (K0.out.go hb); clear hb K0
  have c0a := K1.out.1.c0; have c0b := K1.out.1.c1; have c0l := K1.out.1.lt; have c1a := K1.out.2.1.c0; have c1b := K1.out.2.1.c1; have c1l := K1.out.2.1.lt; have c2a := K1.out.2.2.1.c0; have c2b := K1.out.2.2.1.c1; have c2l := K1.out.2.2.1.lt
  go_wp2_with fail
  refine (rright_nd _ _ na da _).mono ?_
  rintro e w2 ⟨rfl, hb⟩
  have K2 := Lib.hid (K1.out.go hb); clear hb K1 c0a c0b c0l c1a c1b c1l c2a c2b c2l
  have c0a := K2.out.1.c0; have c0b := K2.out.1.c1; have c0l := K2.out.1.lt; have c1a := K2.out.2.1.c0; have c1b := K2.out.2.1.c1; have c1l := K2.out.2.1.lt; have c2a := K2.out.2.2.1.c0; have c2b := K2.out.2.2.1.c1; have c2l := K2.out.2.2.1.lt
  go_wp2_with fail
  refine (rright_nd _ _ nb db _).mono ?_
  rintro e w3 ⟨rfl, hb⟩
  have K3 := Lib.hid (K2.out.go hb); clear hb K2 c0a c0b c0l c1a c1b c1l c2a c2b c2l
  have c0a := K3.out.1.c0; have c0b := K3.out.1.c1; have c0l := K3.out.1.lt; have c1a := K3.out.2.1.c0; have c1b := K3.out.2.1.c1; have c1l := K3.out.2.1.lt; have c2a := K3.out.2.2.1.c0; have c2b := K3.out.2.2.1.c1; have c2l := K3.out.2.2.1.lt
  go_wp2_with fail
  refine (rright_nd _ _ nc dc _).mono ?_
  rintro e w4 ⟨rfl, hb⟩
  have K4 := Lib.hid (K3.out.go hb); clear hb K3 c0a c0b c0l c1a c1b c1l c2a c2b c2l
  have c0a := K4.out.1.c0; have c0b := K4.out.1.c1; have c0l := K4.out.1.lt; have c1a := K4.out.2.1.c0; have c1b := K4.out.2.1.c1; have c1l := K4.out.2.1.lt; have c2a := K4.out.2.2.1.c0; have c2b := K4.out.2.2.1.c1; have c2l := K4.out.2.2.1.lt
  go_wp2_with fail
  refine (HCab.out _).mono ?_
  rintro e w5 ⟨rfl, hb⟩
  have K5 := Lib.hid (K4.out.go hb); clear hb K4 c0a c0b c0l c1a c1b c1l c2a c2b c2l
  have c0a := K5.out.1.c0; have c0b := K5.out.1.c1; have c0l := K5.out.1.lt; have c1a := K5.out.2.1.c0; have c1b := K5.out.2.1.c1; have c1l := K5.out.2.1.lt; have c2a := K5.out.2.2.1.c0; have c2b := K5.out.2.2.1.c1; have c2l := K5.out.2.2.1.lt
  go_wp2_with fail
  refine (HCba.out _).mono ?_
  rintro e w6 ⟨rfl, hb⟩
  have K6 := Lib.hid (K5.out.go hb); clear hb K5 c0a c0b c0l c1a c1b c1l c2a c2b c2l
  have c0a := K6.out.1.c0; have c0b := K6.out.1.c1; have c0l := K6.out.1.lt; have c1a := K6.out.2.1.c0; have c1b := K6.out.2.1.c1; have c1l := K6.out.2.1.lt; have c2a := K6.out.2.2.1.c0; have c2b := K6.out.2.2.1.c1; have c2l := K6.out.2.2.1.lt
  go_wp2_with fail
  refine (HMin.out _).mono ?_
  rintro e w7 ⟨rfl, hb⟩
  have K7 := Lib.hid ((K6.out.go hb).new ⟨an, bd⟩); clear hb K6 c0a c0b c0l c1a c1b c1l c2a c2b c2l
  have c0a := K7.out.1.c0; have c0b := K7.out.1.c1; have c0l := K7.out.1.lt; have c1a := K7.out.2.1.c0; have c1b := K7.out.2.1.c1; have c1l := K7.out.2.1.lt; have c2a := K7.out.2.2.1.c0; have c2b := K7.out.2.2.1.c1; have c2l := K7.out.2.2.1.lt; have c3a := K7.out.2.2.2.1.c0; have c3b := K7.out.2.2.2.1.c1; have c3l := K7.out.2.2.2.1.lt
  go_wp2_with fail
  refine (HMax.out _).mono ?_
  rintro e w8 ⟨rfl, hb⟩
  have K8 := Lib.hid ((K7.out.go hb).new ⟨an, ad⟩); clear hb K7 c0a c0b c0l c1a c1b c1l c2a c2b c2l c3a c3b c3l
  have c0a := K8.out.1.c0; have c0b := K8.out.1.c1; have c0l := K8.out.1.lt; have c1a := K8.out.2.1.c0; have c1b := K8.out.2.1.c1; have c1l := K8.out.2.1.lt; have c2a := K8.out.2.2.1.c0; have c2b := K8.out.2.2.1.c1; have c2l := K8.out.2.2.1.lt; have c3a := K8.out.2.2.2.1.c0; have c3b := K8.out.2.2.2.1.c1; have c3l := K8.out.2.2.2.1.lt; have c4a := K8.out.2.2.2.2.1.c0; have c4b := K8.out.2.2.2.2.1.c1; have c4l := K8.out.2.2.2.2.1.lt
  go_wp2_with fail
  refine (HCba.out _).mono ?_
  rintro e w9 ⟨rfl, hb⟩
  have K9 := Lib.hid ((K8.out.go hb)); clear hb K8 c0a c0b c0l c1a c1b c1l c2a c2b c2l c3a c3b c3l c4a c4b c4l
  have c0a := K9.out.1.c0; have c0b := K9.out.1.c1; have c0l := K9.out.1.lt; have c1a := K9.out.2.1.c0; have c1b := K9.out.2.1.c1; have c1l := K9.out.2.1.lt; have c2a := K9.out.2.2.1.c0; have c2b := K9.out.2.2.1.c1; have c2l := K9.out.2.2.1.lt; have c3a := K9.out.2.2.2.1.c0; have c3b := K9.out.2.2.2.1.c1; have c3l := K9.out.2.2.2.1.lt; have c4a := K9.out.2.2.2.2.1.c0; have c4b := K9.out.2.2.2.2.1.c1; have c4l := K9.out.2.2.2.2.1.lt
  go_wp2_with fail
  refine (HSa.out _).mono ?_
  rintro e w10 ⟨rfl, hb⟩
  have K10 := Lib.hid ((K9.out.go hb).new ⟨sn, sd⟩); clear hb K9 c0a c0b c0l c1a c1b c1l c2a c2b c2l c3a c3b c3l c4a c4b c4l
  have c0a := K10.out.1.c0; have c0b := K10.out.1.c1; have c0l := K10.out.1.lt; have c1a := K10.out.2.2.2.1.c0; have c1b := K10.out.2.2.2.1.c1; have c1l := K10.out.2.2.2.1.lt; have c2a := K10.out.2.2.2.2.1.c0; have c2b := K10.out.2.2.2.2.1.c1; have c2l := K10.out.2.2.2.2.1.lt; have c3a := K10.out.2.2.2.2.2.1.c0; have c3b := K10.out.2.2.2.2.2.1.c1; have c3l := K10.out.2.2.2.2.2.1.lt
  go_wp2_with fail
  refine (HSb.out _).mono ?_
  rintro e w11 ⟨rfl, hb⟩
  have K11 := Lib.hid ((K10.out.go hb).new ⟨tn, td⟩); clear hb K10 c0a c0b c0l c1a c1b c1l c2a c2b c2l c3a c3b c3l
  by_cases e1 : es = 0
  · have b1 : (es != 0) = false := by simp [e1]
    by_cases e2 : et = 0
    · have b2 : (et != 0) = false := by simp [e2]
      have HCS := Lib.hid (HST.out e1 e2)
      clear e1 e2 HST
      have c0a := K11.out.1.c0; have c0b := K11.out.1.c1; have c0l := K11.out.1.lt; have c1a := K11.out.2.1.c0; have c1b := K11.out.2.1.c1; have c1l := K11.out.2.1.lt
      go_wp2_with fail
      refine (HCS.out _).mono ?_
      rintro e w12 ⟨rfl, hb⟩
      have K12 := Lib.hid (K11.out.go hb); clear hb K11 c0a c0b c0l c1a c1b c1l
      go_wp2_with fail
      go_ret
      exact ⟨rfl, K12.out.below⟩
    · have b2 : (et != 0) = true := by simp [e2]
      clear e1 e2 HST
      go_wp2_with fail
      go_ret
      exact ⟨rfl, K11.out.below⟩
  · have b1 : (es != 0) = true := by simp [e1]
    clear e1 HST
    go_wp2_with fail
    go_ret
    exact ⟨rfl, K11.out.below⟩
end Go.Proofs.Ytlkpebcmdkmfjaa
