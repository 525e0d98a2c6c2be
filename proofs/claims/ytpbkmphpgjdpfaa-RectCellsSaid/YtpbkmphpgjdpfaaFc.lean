/-
  The walk of RectGap.
-/
import Derived.Test.YtpbkmphpgjdpfaaEr
set_option linter.unusedVariables false
set_option maxRecDepth 100000
namespace Go.Proofs.Ytpbkmphpgjdpfaa
open Go.RowKit

theorem two (a b : Rc) (w : World) : Keep [(w.heap.size + 1, b), (w.heap.size, a)] w ((w.alloc (.cells #[.int .i64 a.X0, .int .i64 a.Y0, .int .i64 a.X1, .int .i64 a.Y1] 23)).alloc (.cells #[.int .i64 b.X0, .int .i64 b.Y0, .int .i64 b.X1, .int .i64 b.Y1] 23)) :=
  ((Keep.nil w).new' a _ rfl).new' b _ (by simp)
theorem gap_o1 (a0 a1 a2 a3 b0 b1 b2 b3 d : Int) (oa : rokB ⟨a0, a1, a2, a3⟩ = false) (w : World) :
    Calls Try.prog 5 #[.agg #[.int .i64 a0, .int .i64 a1, .int .i64 a2, .int .i64 a3], .agg #[.int .i64 b0, .int .i64 b1, .int .i64 b2, .int .i64 b3], .int .i64 d] w (BlIs true w) := by
  have K0 := Lib.hid (two ⟨a0, a1, a2, a3⟩ ⟨b0, b1, b2, b3⟩ w)
  go_enter Try.func5, Try.ntmps5
  go_wp2_with fail
  refine (small_any _).mono ?_
  rintro e1 w1 ⟨rfl, hb⟩
  have K1 := Lib.hid (K0.out.go hb); clear hb K0
  have c_a0 := K1.out.2.1.c0; have c_a1 := K1.out.2.1.c1; have c_a2 := K1.out.2.1.c2; have c_a3 := K1.out.2.1.c3; have c_al := K1.out.2.1.lt; have c_b0 := K1.out.1.c0; have c_b1 := K1.out.1.c1; have c_b2 := K1.out.1.c2; have c_b3 := K1.out.1.c3; have c_bl := K1.out.1.lt
  go_wp2_with fail
  refine (tright_nd _ _ _ _ _).mono ?_
  rintro e1 w2 ⟨rfl, hb⟩
  have K2 := Lib.hid (K1.out.go hb); clear hb K1 c_a0 c_a1 c_a2 c_a3 c_al c_b0 c_b1 c_b2 c_b3 c_bl
  go_wp2_with fail
  go_ret
  exact ⟨rfl, K2.out.below⟩
theorem gap_o2 (a0 a1 a2 a3 b0 b1 b2 b3 d : Int) (oa : rokB ⟨a0, a1, a2, a3⟩ = true) (ob : rokB ⟨b0, b1, b2, b3⟩ = false) (w : World) :
    Calls Try.prog 5 #[.agg #[.int .i64 a0, .int .i64 a1, .int .i64 a2, .int .i64 a3], .agg #[.int .i64 b0, .int .i64 b1, .int .i64 b2, .int .i64 b3], .int .i64 d] w (BlIs true w) := by
  have K0 := Lib.hid (two ⟨a0, a1, a2, a3⟩ ⟨b0, b1, b2, b3⟩ w)
  go_enter Try.func5, Try.ntmps5
  go_wp2_with fail
  refine (small_any _).mono ?_
  rintro e1 w1 ⟨rfl, hb⟩
  have K1 := Lib.hid (K0.out.go hb); clear hb K0
  have c_a0 := K1.out.2.1.c0; have c_a1 := K1.out.2.1.c1; have c_a2 := K1.out.2.1.c2; have c_a3 := K1.out.2.1.c3; have c_al := K1.out.2.1.lt; have c_b0 := K1.out.1.c0; have c_b1 := K1.out.1.c1; have c_b2 := K1.out.1.c2; have c_b3 := K1.out.1.c3; have c_bl := K1.out.1.lt
  go_wp2_with fail
  refine (tright_nd _ _ _ _ _).mono ?_
  rintro e1 w2 ⟨rfl, hb⟩
  have K2 := Lib.hid (K1.out.go hb); clear hb K1 c_a0 c_a1 c_a2 c_a3 c_al c_b0 c_b1 c_b2 c_b3 c_bl
  have c_b0 := K2.out.1.c0; have c_b1 := K2.out.1.c1; have c_b2 := K2.out.1.c2; have c_b3 := K2.out.1.c3; have c_bl := K2.out.1.lt
  go_wp2_with fail
  refine (tright_nd _ _ _ _ _).mono ?_
  rintro e1 w3 ⟨rfl, hb⟩
  have K3 := Lib.hid (K2.out.go hb); clear hb K2 c_b0 c_b1 c_b2 c_b3 c_bl
  go_wp2_with fail
  go_ret
  exact ⟨rfl, K3.out.below⟩
theorem gap_o3 (a0 a1 a2 a3 b0 b1 b2 b3 d : Int) (oa : rokB ⟨a0, a1, a2, a3⟩ = true) (ob : rokB ⟨b0, b1, b2, b3⟩ = true) (hd : d < 0) (w : World) :
    Calls Try.prog 5 #[.agg #[.int .i64 a0, .int .i64 a1, .int .i64 a2, .int .i64 a3], .agg #[.int .i64 b0, .int .i64 b1, .int .i64 b2, .int .i64 b3], .int .i64 d] w (BlIs true w) := by
  have K0 := Lib.hid (two ⟨a0, a1, a2, a3⟩ ⟨b0, b1, b2, b3⟩ w)
  go_enter Try.func5, Try.ntmps5
  go_wp2_with fail
  refine (small_any _).mono ?_
  rintro e1 w1 ⟨rfl, hb⟩
  have K1 := Lib.hid (K0.out.go hb); clear hb K0
  have c_a0 := K1.out.2.1.c0; have c_a1 := K1.out.2.1.c1; have c_a2 := K1.out.2.1.c2; have c_a3 := K1.out.2.1.c3; have c_al := K1.out.2.1.lt; have c_b0 := K1.out.1.c0; have c_b1 := K1.out.1.c1; have c_b2 := K1.out.1.c2; have c_b3 := K1.out.1.c3; have c_bl := K1.out.1.lt
  go_wp2_with fail
  refine (tright_nd _ _ _ _ _).mono ?_
  rintro e1 w2 ⟨rfl, hb⟩
  have K2 := Lib.hid (K1.out.go hb); clear hb K1 c_a0 c_a1 c_a2 c_a3 c_al c_b0 c_b1 c_b2 c_b3 c_bl
  have c_b0 := K2.out.1.c0; have c_b1 := K2.out.1.c1; have c_b2 := K2.out.1.c2; have c_b3 := K2.out.1.c3; have c_bl := K2.out.1.lt
  go_wp2_with fail
  refine (tright_nd _ _ _ _ _).mono ?_
  rintro e1 w3 ⟨rfl, hb⟩
  have K3 := Lib.hid (K2.out.go hb); clear hb K2 c_b0 c_b1 c_b2 c_b3 c_bl
  go_wp2_with fail
  go_ret
  exact ⟨rfl, K3.out.below⟩
theorem gap_o4 (a0 a1 a2 a3 b0 b1 b2 b3 d : Int) (oa : rokB ⟨a0, a1, a2, a3⟩ = true) (ob : rokB ⟨b0, b1, b2, b3⟩ = true) (hd : ¬ d < 0) (hd2 : 2000000 < d) (w : World) :
    Calls Try.prog 5 #[.agg #[.int .i64 a0, .int .i64 a1, .int .i64 a2, .int .i64 a3], .agg #[.int .i64 b0, .int .i64 b1, .int .i64 b2, .int .i64 b3], .int .i64 d] w (BlIs true w) := by
  have K0 := Lib.hid (two ⟨a0, a1, a2, a3⟩ ⟨b0, b1, b2, b3⟩ w)
  go_enter Try.func5, Try.ntmps5
  go_wp2_with fail
  refine (small_any _).mono ?_
  rintro e1 w1 ⟨rfl, hb⟩
  have K1 := Lib.hid (K0.out.go hb); clear hb K0
  have c_a0 := K1.out.2.1.c0; have c_a1 := K1.out.2.1.c1; have c_a2 := K1.out.2.1.c2; have c_a3 := K1.out.2.1.c3; have c_al := K1.out.2.1.lt; have c_b0 := K1.out.1.c0; have c_b1 := K1.out.1.c1; have c_b2 := K1.out.1.c2; have c_b3 := K1.out.1.c3; have c_bl := K1.out.1.lt
  go_wp2_with fail
  refine (tright_nd _ _ _ _ _).mono ?_
  rintro e1 w2 ⟨rfl, hb⟩
  have K2 := Lib.hid (K1.out.go hb); clear hb K1 c_a0 c_a1 c_a2 c_a3 c_al c_b0 c_b1 c_b2 c_b3 c_bl
  have c_b0 := K2.out.1.c0; have c_b1 := K2.out.1.c1; have c_b2 := K2.out.1.c2; have c_b3 := K2.out.1.c3; have c_bl := K2.out.1.lt
  go_wp2_with fail
  refine (tright_nd _ _ _ _ _).mono ?_
  rintro e1 w3 ⟨rfl, hb⟩
  have K3 := Lib.hid (K2.out.go hb); clear hb K2 c_b0 c_b1 c_b2 c_b3 c_bl
  go_wp2_with fail
  go_ret
  exact ⟨rfl, K3.out.below⟩
set_option maxHeartbeats 16000000 in
theorem gap_core (a0 a1 a2 a3 b0 b1 b2 b3 g0 g1 g2 g3 x0 x1 x2 x3 m0 m1 m2 m3 d gap : Int) (xb mb tb : Bool) (oa : rokB ⟨a0, a1, a2, a3⟩ = true) (ob : rokB ⟨b0, b1, b2, b3⟩ = true) (hd1 : ¬ d < 0) (hd2 : ¬ 2000000 < d) (hg : 0 ≤ gap)
    (h : (gap ≤ d ∧ xb = true) ∨ (¬ gap ≤ d ∧ xb = false)) (k : (mb = true ∧ tb = false ∧ gap = 0) ∨ (mb = false ∧ tb = true ∧ gap = 0) ∨ (mb = false ∧ tb = false))
    (HG : Hid (∀ w, Calls Try.prog 12 #[.agg #[.int .i64 a0, .int .i64 a1, .int .i64 a2, .int .i64 a3], .int .i64 (d + 1)] w (RbIs (⟨g0, g1, g2, g3⟩, true) w))) (HX : Hid (∀ w, Calls Try.prog 10 #[.agg #[.int .i64 g0, .int .i64 g1, .int .i64 g2, .int .i64 g3], .agg #[.int .i64 b0, .int .i64 b1, .int .i64 b2, .int .i64 b3]] w (RbIs (⟨x0, x1, x2, x3⟩, xb) w)))
    (HP : Hid (∀ w, Calls Try.prog 26 #[.agg #[.int .i64 a0, .int .i64 a1, .int .i64 a2, .int .i64 a3], .agg #[.int .i64 b0, .int .i64 b1, .int .i64 b2, .int .i64 b3]] w (InIs gap w))) (HM : Hid (∀ w, Calls Try.prog 10 #[.agg #[.int .i64 a0, .int .i64 a1, .int .i64 a2, .int .i64 a3], .agg #[.int .i64 b0, .int .i64 b1, .int .i64 b2, .int .i64 b3]] w (RbIs (⟨m0, m1, m2, m3⟩, mb) w)))
    (HP2 : Hid (∀ w, Calls Try.prog 26 #[.agg #[.int .i64 b0, .int .i64 b1, .int .i64 b2, .int .i64 b3], .agg #[.int .i64 a0, .int .i64 a1, .int .i64 a2, .int .i64 a3]] w (InIs gap w))) (HT : Hid (∀ w, Calls Try.prog 24 #[.agg #[.int .i64 a0, .int .i64 a1, .int .i64 a2, .int .i64 a3], .agg #[.int .i64 b0, .int .i64 b1, .int .i64 b2, .int .i64 b3]] w (BlIs tb w))) (w : World) :
    Calls Try.prog 5 #[.agg #[.int .i64 a0, .int .i64 a1, .int .i64 a2, .int .i64 a3], .agg #[.int .i64 b0, .int .i64 b1, .int .i64 b2, .int .i64 b3], .int .i64 d] w (BlIs true w) := by
  have K0 := Lib.hid (two ⟨a0, a1, a2, a3⟩ ⟨b0, b1, b2, b3⟩ w)
  rcases h with ⟨h1, rfl⟩ | ⟨h1, rfl⟩ <;> rcases k with ⟨rfl, rfl, rfl⟩ | ⟨rfl, rfl, rfl⟩ | ⟨rfl, rfl⟩
  all_goals first | (exfalso; omega) | skip
  all_goals
    go_enter Try.func5, Try.ntmps5
    go_wp2_with fail
    refine (small_any _).mono ?_
    rintro e1 w1 ⟨rfl, hb⟩
    have K1 := Lib.hid (K0.out.go hb); clear hb K0
    have c_a0 := K1.out.2.1.c0; have c_a1 := K1.out.2.1.c1; have c_a2 := K1.out.2.1.c2; have c_a3 := K1.out.2.1.c3; have c_al := K1.out.2.1.lt; have c_b0 := K1.out.1.c0; have c_b1 := K1.out.1.c1; have c_b2 := K1.out.1.c2; have c_b3 := K1.out.1.c3; have c_bl := K1.out.1.lt
    go_wp2_with fail
    refine (tright_nd _ _ _ _ _).mono ?_
    rintro e1 w2 ⟨rfl, hb⟩
    have K2 := Lib.hid (K1.out.go hb); clear hb K1 c_a0 c_a1 c_a2 c_a3 c_al c_b0 c_b1 c_b2 c_b3 c_bl
    have c_a0 := K2.out.2.1.c0; have c_a1 := K2.out.2.1.c1; have c_a2 := K2.out.2.1.c2; have c_a3 := K2.out.2.1.c3; have c_al := K2.out.2.1.lt; have c_b0 := K2.out.1.c0; have c_b1 := K2.out.1.c1; have c_b2 := K2.out.1.c2; have c_b3 := K2.out.1.c3; have c_bl := K2.out.1.lt
    go_wp2_with fail
    refine (tright_nd _ _ _ _ _).mono ?_
    rintro e1 w3 ⟨rfl, hb⟩
    have K3 := Lib.hid (K2.out.go hb); clear hb K2 c_a0 c_a1 c_a2 c_a3 c_al c_b0 c_b1 c_b2 c_b3 c_bl
    have c_a0 := K3.out.2.1.c0; have c_a1 := K3.out.2.1.c1; have c_a2 := K3.out.2.1.c2; have c_a3 := K3.out.2.1.c3; have c_al := K3.out.2.1.lt; have c_b0 := K3.out.1.c0; have c_b1 := K3.out.1.c1; have c_b2 := K3.out.1.c2; have c_b3 := K3.out.1.c3; have c_bl := K3.out.1.lt
    go_wp2_with fail
    refine (HG.out _).mono ?_
    rintro e1 w4 ⟨rfl, hb⟩
    have K4 := Lib.hid ((K3.out.go hb).new ⟨g0, g1, g2, g3⟩); clear hb K3 c_a0 c_a1 c_a2 c_a3 c_al c_b0 c_b1 c_b2 c_b3 c_bl
    have c_g0 := K4.out.1.c0; have c_g1 := K4.out.1.c1; have c_g2 := K4.out.1.c2; have c_g3 := K4.out.1.c3; have c_gl := K4.out.1.lt; have c_b0 := K4.out.2.1.c0; have c_b1 := K4.out.2.1.c1; have c_b2 := K4.out.2.1.c2; have c_b3 := K4.out.2.1.c3; have c_bl := K4.out.2.1.lt
    go_wp2_with fail
    refine (HX.out _).mono ?_
    rintro e1 w5 ⟨rfl, hb⟩
    have K5 := Lib.hid ((K4.out.go hb).new ⟨x0, x1, x2, x3⟩); clear hb K4 c_g0 c_g1 c_g2 c_g3 c_gl c_b0 c_b1 c_b2 c_b3 c_bl
    have c_a0 := K5.out.2.2.2.1.c0; have c_a1 := K5.out.2.2.2.1.c1; have c_a2 := K5.out.2.2.2.1.c2; have c_a3 := K5.out.2.2.2.1.c3; have c_al := K5.out.2.2.2.1.lt; have c_b0 := K5.out.2.2.1.c0; have c_b1 := K5.out.2.2.1.c1; have c_b2 := K5.out.2.2.1.c2; have c_b3 := K5.out.2.2.1.c3; have c_bl := K5.out.2.2.1.lt
    go_wp2_with fail
    refine (HP.out _).mono ?_
    rintro e1 w6 ⟨rfl, hb⟩
    have K6 := Lib.hid (K5.out.go hb); clear hb K5 c_a0 c_a1 c_a2 c_a3 c_al c_b0 c_b1 c_b2 c_b3 c_bl
    have c_a0 := K6.out.2.2.2.1.c0; have c_a1 := K6.out.2.2.2.1.c1; have c_a2 := K6.out.2.2.2.1.c2; have c_a3 := K6.out.2.2.2.1.c3; have c_al := K6.out.2.2.2.1.lt; have c_b0 := K6.out.2.2.1.c0; have c_b1 := K6.out.2.2.1.c1; have c_b2 := K6.out.2.2.1.c2; have c_b3 := K6.out.2.2.1.c3; have c_bl := K6.out.2.2.1.lt
    go_wp2_with fail
    refine (HM.out _).mono ?_
    rintro e1 w7 ⟨rfl, hb⟩
    have K7 := Lib.hid ((K6.out.go hb).new ⟨m0, m1, m2, m3⟩); clear hb K6 c_a0 c_a1 c_a2 c_a3 c_al c_b0 c_b1 c_b2 c_b3 c_bl
    have c_a0 := K7.out.2.2.2.2.1.c0; have c_a1 := K7.out.2.2.2.2.1.c1; have c_a2 := K7.out.2.2.2.2.1.c2; have c_a3 := K7.out.2.2.2.2.1.c3; have c_al := K7.out.2.2.2.2.1.lt; have c_b0 := K7.out.2.2.2.1.c0; have c_b1 := K7.out.2.2.2.1.c1; have c_b2 := K7.out.2.2.2.1.c2; have c_b3 := K7.out.2.2.2.1.c3; have c_bl := K7.out.2.2.2.1.lt
    go_wp2_with fail
    refine (HP2.out _).mono ?_
    rintro e1 w8 ⟨rfl, hb⟩
    have K8 := Lib.hid (K7.out.go hb); clear hb K7 c_a0 c_a1 c_a2 c_a3 c_al c_b0 c_b1 c_b2 c_b3 c_bl
    have c_a0 := K8.out.2.2.2.2.1.c0; have c_a1 := K8.out.2.2.2.2.1.c1; have c_a2 := K8.out.2.2.2.2.1.c2; have c_a3 := K8.out.2.2.2.2.1.c3; have c_al := K8.out.2.2.2.2.1.lt; have c_b0 := K8.out.2.2.2.1.c0; have c_b1 := K8.out.2.2.2.1.c1; have c_b2 := K8.out.2.2.2.1.c2; have c_b3 := K8.out.2.2.2.1.c3; have c_bl := K8.out.2.2.2.1.lt
    go_wp2_with fail
    refine (HT.out _).mono ?_
    rintro e1 w9 ⟨rfl, hb⟩
    have K9 := Lib.hid (K8.out.go hb); clear hb K8 c_a0 c_a1 c_a2 c_a3 c_al c_b0 c_b1 c_b2 c_b3 c_bl
    go_wp2_with fail
    go_ret
    exact ⟨by first | rfl | exact ret_bl (by simp [h1]), K9.out.below⟩

theorem inter_pair (a b : Rc) : interR a b = (⟨(interR a b).1.X0, (interR a b).1.Y0, (interR a b).1.X1, (interR a b).1.Y1⟩, decide (MeetR a b)) := by
  unfold interR
  by_cases h : MeetR a b
  · rw [if_pos h, decide_eq_true h]
  · rw [if_neg h, decide_eq_false h]
theorem tinter_dec (a b : Rc) (w : World) : Calls Try.prog 10 #[.agg #[.int .i64 a.X0, .int .i64 a.Y0, .int .i64 a.X1, .int .i64 a.Y1], .agg #[.int .i64 b.X0, .int .i64 b.Y0, .int .i64 b.X1, .int .i64 b.Y1]] w (RbIs (⟨(interR a b).1.X0, (interR a b).1.Y0, (interR a b).1.X1, (interR a b).1.Y1⟩, decide (MeetR a b)) w) := by
  have := tinter_any a b w
  rwa [inter_pair a b] at this
theorem gap_walk (a b : Rc) (d : Int) (ia : InR a) (ib : InR b) (hd : In64 d) (w : World) : Calls Try.prog 5 #[.agg #[.int .i64 a.X0, .int .i64 a.Y0, .int .i64 a.X1, .int .i64 a.Y1], .agg #[.int .i64 b.X0, .int .i64 b.Y0, .int .i64 b.X1, .int .i64 b.Y1], .int .i64 d] w (BlIs true w) := by
  by_cases ka : ROk a
  · have oa := (rokB_iff a).2 ka
    by_cases kb : ROk b
    · have ob := (rokB_iff b).2 kb
      by_cases hd1 : d < 0
      · exact gap_o3 a.X0 a.Y0 a.X1 a.Y1 b.X0 b.Y0 b.X1 b.Y1 d oa ob hd1 w
      · by_cases hd2 : 2000000 < d
        · exact gap_o4 a.X0 a.Y0 a.X1 a.Y1 b.X0 b.Y0 b.X1 b.Y1 d oa ob hd1 hd2 w
        · have hg : ∀ w, Calls Try.prog 12 #[.agg #[.int .i64 a.X0, .int .i64 a.Y0, .int .i64 a.X1, .int .i64 a.Y1], .int .i64 (d + 1)] w (RbIs (grownR a (d + 1), true) w) := fun w => by
            have := tgrow_any a (d + 1) ⟨by omega, by omega⟩ w
            rwa [grow_is ka (by omega)] at this
          have hle := gap_le ka kb (show 0 ≤ d by omega)
          have hnn := gap_nn ka kb
          have hP2 : ∀ w, Calls Try.prog 26 #[.agg #[.int .i64 b.X0, .int .i64 b.Y0, .int .i64 b.X1, .int .i64 b.Y1], .agg #[.int .i64 a.X0, .int .i64 a.Y0, .int .i64 a.X1, .int .i64 a.Y1]] w (InIs (gapR a b) w) := fun w => by rw [gap_comm a b]; exact tgap_any b a w
          refine gap_core a.X0 a.Y0 a.X1 a.Y1 b.X0 b.Y0 b.X1 b.Y1 _ _ _ _ _ _ _ _ _ _ _ _ d (gapR a b) (decide (MeetR (grownR a (d + 1)) b)) (decide (MeetR a b)) (decide (TouchR a b)) oa ob hd1 hd2 hnn ?_ ?_ (Lib.hid hg) (Lib.hid fun w => tinter_dec (grownR a (d + 1)) b w) (Lib.hid fun w => tgap_any a b w) (Lib.hid fun w => tinter_dec a b w) (Lib.hid hP2) (Lib.hid fun w => ttouch_any a b w) w
          · by_cases q : gapR a b ≤ d
            · exact Or.inl ⟨q, decide_eq_true (hle.1 q)⟩
            · exact Or.inr ⟨q, decide_eq_false (fun h => q (hle.2 h))⟩
          · by_cases q : MeetR a b
            · exact Or.inl ⟨decide_eq_true q, decide_eq_false (fun h => (touch_gap h).2 q), meet_gap q⟩
            · by_cases q2 : TouchR a b
              · exact Or.inr (Or.inl ⟨decide_eq_false q, decide_eq_true q2, (touch_gap q2).1⟩)
              · exact Or.inr (Or.inr ⟨decide_eq_false q, decide_eq_false q2⟩)
    · exact gap_o2 a.X0 a.Y0 a.X1 a.Y1 b.X0 b.Y0 b.X1 b.Y1 d oa ((rokB_no b).2 kb) w
  · exact gap_o1 a.X0 a.Y0 a.X1 a.Y1 b.X0 b.Y0 b.X1 b.Y1 d ((rokB_no a).2 ka) w
end Go.Proofs.Ytpbkmphpgjdpfaa
