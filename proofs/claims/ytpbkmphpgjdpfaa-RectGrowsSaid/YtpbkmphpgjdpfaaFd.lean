/-
  The walk of RectGrows.
-/
import Derived.Test.YtpbkmphpgjdpfaaEr
set_option linter.unusedVariables false
set_option maxRecDepth 100000
namespace Go.Proofs.Ytpbkmphpgjdpfaa
open Go.RowKit

theorem oneT (a : Rc) (w : World) : Keep [(w.heap.size, a)] w (w.alloc (.cells #[.int .i64 a.X0, .int .i64 a.Y0, .int .i64 a.X1, .int .i64 a.Y1] 23)) := (Keep.nil w).new' a _ rfl
theorem grows_out (r0 r1 r2 r3 d m : Int) (h : d < 0 ∨ (¬ d < 0 ∧ 2000000 < d) ∨ (¬ d < 0 ∧ ¬ 2000000 < d ∧ m < 0) ∨ (¬ d < 0 ∧ ¬ 2000000 < d ∧ ¬ m < 0 ∧ 2000000 < m)) (w : World) :
    Calls Try.prog 6 #[.agg #[.int .i64 r0, .int .i64 r1, .int .i64 r2, .int .i64 r3], .int .i64 d, .int .i64 m] w (BlIs true w) := by
  rcases h with h | ⟨h1, h⟩ | ⟨h1, h2, h⟩ | ⟨h1, h2, h3, h⟩
  all_goals
    have K0 := Lib.hid (oneT ⟨r0, r1, r2, r3⟩ w)
    go_enter Try.func6, Try.ntmps6
    go_wp2_with fail
    refine (small_any _).mono ?_
    rintro e1 w1 ⟨rfl, hb⟩
    have K1 := Lib.hid (K0.out.go hb); clear hb K0
    go_wp2_with fail
    go_ret
    exact ⟨rfl, K1.out.below⟩
set_option maxHeartbeats 8000000 in
theorem grows_no (r0 r1 r2 r3 d m : Int) (o : rokB ⟨r0, r1, r2, r3⟩ = false) (h1 : ¬ d < 0) (h2 : ¬ 2000000 < d) (h3 : ¬ m < 0) (h4 : ¬ 2000000 < m)
    (HG : Hid (∀ w, Calls Try.prog 12 #[.agg #[.int .i64 r0, .int .i64 r1, .int .i64 r2, .int .i64 r3], .int .i64 d] w (RbIs (⟨0, 0, 0, 0⟩, false) w))) (HS : Hid (∀ w, Calls Try.prog 14 #[.agg #[.int .i64 r0, .int .i64 r1, .int .i64 r2, .int .i64 r3], .int .i64 d] w (RbIs (⟨0, 0, 0, 0⟩, false) w))) (w : World) :
    Calls Try.prog 6 #[.agg #[.int .i64 r0, .int .i64 r1, .int .i64 r2, .int .i64 r3], .int .i64 d, .int .i64 m] w (BlIs true w) := by
  have K0 := Lib.hid (oneT ⟨r0, r1, r2, r3⟩ w)
  go_enter Try.func6, Try.ntmps6
  go_wp2_with fail
  refine (small_any _).mono ?_
  rintro e1 w1 ⟨rfl, hb⟩
  have K1 := Lib.hid (K0.out.go hb); clear hb K0
  have c_r0 := K1.out.1.c0; have c_r1 := K1.out.1.c1; have c_r2 := K1.out.1.c2; have c_r3 := K1.out.1.c3; have c_rl := K1.out.1.lt
  go_wp2_with fail
  refine (HG.out _).mono ?_
  rintro e1 w2 ⟨rfl, hb⟩
  have K2 := Lib.hid ((K1.out.go hb).new ⟨0, 0, 0, 0⟩); clear hb K1 c_r0 c_r1 c_r2 c_r3 c_rl
  have c_r0 := K2.out.2.1.c0; have c_r1 := K2.out.2.1.c1; have c_r2 := K2.out.2.1.c2; have c_r3 := K2.out.2.1.c3; have c_rl := K2.out.2.1.lt
  go_wp2_with fail
  refine (HS.out _).mono ?_
  rintro e1 w3 ⟨rfl, hb⟩
  have K3 := Lib.hid ((K2.out.go hb).new ⟨0, 0, 0, 0⟩); clear hb K2 c_r0 c_r1 c_r2 c_r3 c_rl
  have c_r0 := K3.out.2.2.1.c0; have c_r1 := K3.out.2.2.1.c1; have c_r2 := K3.out.2.2.1.c2; have c_r3 := K3.out.2.2.1.c3; have c_rl := K3.out.2.2.1.lt
  go_wp2_with fail
  refine (tright_nd _ _ _ _ _).mono ?_
  rintro e1 w4 ⟨rfl, hb⟩
  have K4 := Lib.hid (K3.out.go hb); clear hb K3 c_r0 c_r1 c_r2 c_r3 c_rl
  have c_g0 := K4.out.2.1.c0; have c_g1 := K4.out.2.1.c1; have c_g2 := K4.out.2.1.c2; have c_g3 := K4.out.2.1.c3; have c_gl := K4.out.2.1.lt; have c_s0 := K4.out.1.c0; have c_s1 := K4.out.1.c1; have c_s2 := K4.out.1.c2; have c_s3 := K4.out.1.c3; have c_sl := K4.out.1.lt
  go_wp2_with fail
  go_ret
  exact ⟨rfl, K4.out.below⟩
set_option maxHeartbeats 40000000 in
theorem grows_core (r0 r1 r2 r3 g0 g1 g2 g3 s0 s1 s2 s3 k0 k1 k2 k3 t0 t1 t2 t3 d m : Int) (left kept : Bool) (o : rokB ⟨r0, r1, r2, r3⟩ = true) (h1 : ¬ d < 0) (h2 : ¬ 2000000 < d) (h3 : ¬ m < 0) (h4 : ¬ 2000000 < m)
    (br0 : 0 ≤ r0 ∧ r0 ≤ 1048576) (br1 : 0 ≤ r1 ∧ r1 ≤ 1048576) (br2 : 0 ≤ r2 ∧ r2 ≤ 1048576) (br3 : 0 ≤ r3 ∧ r3 ≤ 1048576) (bs0 : 0 ≤ s0 ∧ s0 ≤ 1048576) (bs1 : 0 ≤ s1 ∧ s1 ≤ 1048576) (bs2 : 0 ≤ s2 ∧ s2 ≤ 1048576) (bs3 : 0 ≤ s3 ∧ s3 ≤ 1048576)
    (hk : ¬ 0 < g0 ∨ (0 < g0 ∧ ¬ 0 < g1) ∨ (0 < g0 ∧ 0 < g1 ∧ ¬ g2 < 1048576) ∨ (0 < g0 ∧ 0 < g1 ∧ g2 < 1048576 ∧ ¬ g3 < 1048576) ∨ (0 < g0 ∧ 0 < g1 ∧ g2 < 1048576 ∧ g3 < 1048576 ∧ kept = true ∧ r0 = k0 ∧ r1 = k1 ∧ r2 = k2 ∧ r3 = k3))
    (hl : (left = false ∧ s0 = 0 ∧ s1 = 0 ∧ s2 = 0 ∧ s3 = 0 ∧ (r2 - r0 ≤ 2 * d ∨ (¬ r2 - r0 ≤ 2 * d ∧ r3 - r1 ≤ 2 * d))) ∨ (left = true ∧ (s0 - r0 == d) = true ∧ (r3 - s3 == d) = true ∧ 2 * d < r2 - r0 ∧ 2 * d < r3 - r1 ∧ (∀ w, Calls Try.prog 12 #[.agg #[.int .i64 s0, .int .i64 s1, .int .i64 s2, .int .i64 s3], .int .i64 d] w (RbIs (⟨r0, r1, r2, r3⟩, true) w))))
    (HG : Hid (∀ w, Calls Try.prog 12 #[.agg #[.int .i64 r0, .int .i64 r1, .int .i64 r2, .int .i64 r3], .int .i64 d] w (RbIs (⟨g0, g1, g2, g3⟩, true) w))) (HS : Hid (∀ w, Calls Try.prog 14 #[.agg #[.int .i64 r0, .int .i64 r1, .int .i64 r2, .int .i64 r3], .int .i64 d] w (RbIs (⟨s0, s1, s2, s3⟩, left) w)))
    (HB : Hid (∀ w, Calls Try.prog 14 #[.agg #[.int .i64 g0, .int .i64 g1, .int .i64 g2, .int .i64 g3], .int .i64 d] w (RbIs (⟨k0, k1, k2, k3⟩, kept) w))) (HT : Hid (∀ w, Calls Try.prog 12 #[.agg #[.int .i64 g0, .int .i64 g1, .int .i64 g2, .int .i64 g3], .int .i64 m] w (RbIs (⟨t0, t1, t2, t3⟩, true) w)))
    (HO : Hid (∀ w, Calls Try.prog 12 #[.agg #[.int .i64 r0, .int .i64 r1, .int .i64 r2, .int .i64 r3], .int .i64 (d + m)] w (RbIs (⟨t0, t1, t2, t3⟩, true) w))) (HI : Hid (∀ w, Calls Try.prog 22 #[.agg #[.int .i64 r0, .int .i64 r1, .int .i64 r2, .int .i64 r3], .agg #[.int .i64 g0, .int .i64 g1, .int .i64 g2, .int .i64 g3]] w (BlIs true w))) (w : World) :
    Calls Try.prog 6 #[.agg #[.int .i64 r0, .int .i64 r1, .int .i64 r2, .int .i64 r3], .int .i64 d, .int .i64 m] w (BlIs true w) := by
  have HL := Lib.hid hl; clear hl
  have HK := Lib.hid hk; clear hk
  have K0 := Lib.hid (oneT ⟨r0, r1, r2, r3⟩ w)
  go_enter Try.func6, Try.ntmps6
  go_wp2_with fail
  refine (small_any _).mono ?_
  rintro e1 w1 ⟨rfl, hb⟩
  have K1 := Lib.hid (K0.out.go hb); clear hb K0
  have c_r0 := K1.out.1.c0; have c_r1 := K1.out.1.c1; have c_r2 := K1.out.1.c2; have c_r3 := K1.out.1.c3; have c_rl := K1.out.1.lt
  go_wp2_with fail
  refine (HG.out _).mono ?_
  rintro e1 w2 ⟨rfl, hb⟩
  have K2 := Lib.hid ((K1.out.go hb).new ⟨g0, g1, g2, g3⟩); clear hb K1 c_r0 c_r1 c_r2 c_r3 c_rl
  have c_r0 := K2.out.2.1.c0; have c_r1 := K2.out.2.1.c1; have c_r2 := K2.out.2.1.c2; have c_r3 := K2.out.2.1.c3; have c_rl := K2.out.2.1.lt
  go_wp2_with fail
  refine (HS.out _).mono ?_
  rintro e1 w3 ⟨rfl, hb⟩
  have K3 := Lib.hid ((K2.out.go hb).new ⟨s0, s1, s2, s3⟩); clear hb K2 c_r0 c_r1 c_r2 c_r3 c_rl
  have c_r0 := K3.out.2.2.1.c0; have c_r1 := K3.out.2.2.1.c1; have c_r2 := K3.out.2.2.1.c2; have c_r3 := K3.out.2.2.1.c3; have c_rl := K3.out.2.2.1.lt
  go_wp2_with fail
  refine (tright_nd _ _ _ _ _).mono ?_
  rintro e1 w4 ⟨rfl, hb⟩
  have K4 := Lib.hid (K3.out.go hb); clear hb K3 c_r0 c_r1 c_r2 c_r3 c_rl
  have c_r0 := K4.out.2.2.1.c0; have c_r1 := K4.out.2.2.1.c1; have c_r2 := K4.out.2.2.1.c2; have c_r3 := K4.out.2.2.1.c3; have c_rl := K4.out.2.2.1.lt; have c_g0 := K4.out.2.1.c0; have c_g1 := K4.out.2.1.c1; have c_g2 := K4.out.2.1.c2; have c_g3 := K4.out.2.1.c3; have c_gl := K4.out.2.1.lt
  go_wp2_with fail
  refine (HB.out _).mono ?_
  rintro e1 w5 ⟨rfl, hb⟩
  have K5 := Lib.hid ((K4.out.go hb).new ⟨k0, k1, k2, k3⟩); clear hb K4 c_r0 c_r1 c_r2 c_r3 c_rl c_g0 c_g1 c_g2 c_g3 c_gl
  have c_g0 := K5.out.2.2.1.c0; have c_g1 := K5.out.2.2.1.c1; have c_g2 := K5.out.2.2.1.c2; have c_g3 := K5.out.2.2.1.c3; have c_gl := K5.out.2.2.1.lt
  go_wp2_with fail
  refine (HT.out _).mono ?_
  rintro e1 w6 ⟨rfl, hb⟩
  have K6 := Lib.hid ((K5.out.go hb).new ⟨t0, t1, t2, t3⟩); clear hb K5 c_g0 c_g1 c_g2 c_g3 c_gl
  have c_r0 := K6.out.2.2.2.2.1.c0; have c_r1 := K6.out.2.2.2.2.1.c1; have c_r2 := K6.out.2.2.2.2.1.c2; have c_r3 := K6.out.2.2.2.2.1.c3; have c_rl := K6.out.2.2.2.2.1.lt
  go_wp2_with fail
  refine (HO.out _).mono ?_
  rintro e1 w7 ⟨rfl, hb⟩
  have K7 := Lib.hid ((K6.out.go hb).new ⟨t0, t1, t2, t3⟩); clear hb K6 c_r0 c_r1 c_r2 c_r3 c_rl
  have c_r0 := K7.out.2.2.2.2.2.1.c0; have c_r1 := K7.out.2.2.2.2.2.1.c1; have c_r2 := K7.out.2.2.2.2.2.1.c2; have c_r3 := K7.out.2.2.2.2.2.1.c3; have c_rl := K7.out.2.2.2.2.2.1.lt; have c_g0 := K7.out.2.2.2.2.1.c0; have c_g1 := K7.out.2.2.2.2.1.c1; have c_g2 := K7.out.2.2.2.2.1.c2; have c_g3 := K7.out.2.2.2.2.1.c3; have c_gl := K7.out.2.2.2.2.1.lt
  go_wp2_with fail
  refine (HI.out _).mono ?_
  rintro e1 w8 ⟨rfl, hb⟩
  have K8 := Lib.hid (K7.out.go hb); clear hb K7 c_r0 c_r1 c_r2 c_r3 c_rl c_g0 c_g1 c_g2 c_g3 c_gl
  clear HG HS HB HT HO HI
  rcases HK.out with q0 | ⟨q0, q1⟩ | ⟨q0, q1, q2⟩ | ⟨q0, q1, q2, q3⟩ | ⟨q0, q1, q2, q3, rfl, rfl, rfl, rfl, rfl⟩
  all_goals
    clear HK
    rcases HL.out with ⟨rfl, rfl, rfl, rfl, rfl, p0 | ⟨p0, p1⟩⟩ | ⟨rfl, p0, p1, p2, p3, hs⟩
    · as_aux_lemma =>
      have c_r0 := K8.out.2.2.2.2.2.1.c0; have c_r1 := K8.out.2.2.2.2.2.1.c1; have c_r2 := K8.out.2.2.2.2.2.1.c2; have c_r3 := K8.out.2.2.2.2.2.1.c3; have c_rl := K8.out.2.2.2.2.2.1.lt; have c_g0 := K8.out.2.2.2.2.1.c0; have c_g1 := K8.out.2.2.2.2.1.c1; have c_g2 := K8.out.2.2.2.2.1.c2; have c_g3 := K8.out.2.2.2.2.1.c3; have c_gl := K8.out.2.2.2.2.1.lt; have c_s0 := K8.out.2.2.2.1.c0; have c_s1 := K8.out.2.2.2.1.c1; have c_s2 := K8.out.2.2.2.1.c2; have c_s3 := K8.out.2.2.2.1.c3; have c_sl := K8.out.2.2.2.1.lt; have c_k0 := K8.out.2.2.1.c0; have c_k1 := K8.out.2.2.1.c1; have c_k2 := K8.out.2.2.1.c2; have c_k3 := K8.out.2.2.1.c3; have c_kl := K8.out.2.2.1.lt; have c_t0 := K8.out.2.1.c0; have c_t1 := K8.out.2.1.c1; have c_t2 := K8.out.2.1.c2; have c_t3 := K8.out.2.1.c3; have c_tl := K8.out.2.1.lt; have c_u0 := K8.out.1.c0; have c_u1 := K8.out.1.c1; have c_u2 := K8.out.1.c2; have c_u3 := K8.out.1.c3; have c_ul := K8.out.1.lt
      clear HL
      go_wp2_with fail
      go_ret
      exact ⟨rfl, K8.out.below⟩
    · as_aux_lemma =>
      have c_r0 := K8.out.2.2.2.2.2.1.c0; have c_r1 := K8.out.2.2.2.2.2.1.c1; have c_r2 := K8.out.2.2.2.2.2.1.c2; have c_r3 := K8.out.2.2.2.2.2.1.c3; have c_rl := K8.out.2.2.2.2.2.1.lt; have c_g0 := K8.out.2.2.2.2.1.c0; have c_g1 := K8.out.2.2.2.2.1.c1; have c_g2 := K8.out.2.2.2.2.1.c2; have c_g3 := K8.out.2.2.2.2.1.c3; have c_gl := K8.out.2.2.2.2.1.lt; have c_s0 := K8.out.2.2.2.1.c0; have c_s1 := K8.out.2.2.2.1.c1; have c_s2 := K8.out.2.2.2.1.c2; have c_s3 := K8.out.2.2.2.1.c3; have c_sl := K8.out.2.2.2.1.lt; have c_k0 := K8.out.2.2.1.c0; have c_k1 := K8.out.2.2.1.c1; have c_k2 := K8.out.2.2.1.c2; have c_k3 := K8.out.2.2.1.c3; have c_kl := K8.out.2.2.1.lt; have c_t0 := K8.out.2.1.c0; have c_t1 := K8.out.2.1.c1; have c_t2 := K8.out.2.1.c2; have c_t3 := K8.out.2.1.c3; have c_tl := K8.out.2.1.lt; have c_u0 := K8.out.1.c0; have c_u1 := K8.out.1.c1; have c_u2 := K8.out.1.c2; have c_u3 := K8.out.1.c3; have c_ul := K8.out.1.lt
      clear HL
      go_wp2_with fail
      go_ret
      exact ⟨rfl, K8.out.below⟩
    · as_aux_lemma =>
      have HS2 := Lib.hid hs; clear hs HL
      have c_r0 := K8.out.2.2.2.2.2.1.c0; have c_r1 := K8.out.2.2.2.2.2.1.c1; have c_r2 := K8.out.2.2.2.2.2.1.c2; have c_r3 := K8.out.2.2.2.2.2.1.c3; have c_rl := K8.out.2.2.2.2.2.1.lt; have c_g0 := K8.out.2.2.2.2.1.c0; have c_g1 := K8.out.2.2.2.2.1.c1; have c_g2 := K8.out.2.2.2.2.1.c2; have c_g3 := K8.out.2.2.2.2.1.c3; have c_gl := K8.out.2.2.2.2.1.lt; have c_s0 := K8.out.2.2.2.1.c0; have c_s1 := K8.out.2.2.2.1.c1; have c_s2 := K8.out.2.2.2.1.c2; have c_s3 := K8.out.2.2.2.1.c3; have c_sl := K8.out.2.2.2.1.lt; have c_k0 := K8.out.2.2.1.c0; have c_k1 := K8.out.2.2.1.c1; have c_k2 := K8.out.2.2.1.c2; have c_k3 := K8.out.2.2.1.c3; have c_kl := K8.out.2.2.1.lt; have c_t0 := K8.out.2.1.c0; have c_t1 := K8.out.2.1.c1; have c_t2 := K8.out.2.1.c2; have c_t3 := K8.out.2.1.c3; have c_tl := K8.out.2.1.lt; have c_u0 := K8.out.1.c0; have c_u1 := K8.out.1.c1; have c_u2 := K8.out.1.c2; have c_u3 := K8.out.1.c3; have c_ul := K8.out.1.lt
      go_wp2_with fail
      refine (HS2.out _).mono ?_
      rintro e1 w9 ⟨rfl, hb⟩
      have K9 := Lib.hid ((K8.out.go hb).new ⟨r0, r1, r2, r3⟩); clear hb K8 c_r0 c_r1 c_r2 c_r3 c_rl c_g0 c_g1 c_g2 c_g3 c_gl c_s0 c_s1 c_s2 c_s3 c_sl c_k0 c_k1 c_k2 c_k3 c_kl c_t0 c_t1 c_t2 c_t3 c_tl c_u0 c_u1 c_u2 c_u3 c_ul
      have c_r0 := K9.out.2.2.2.2.2.2.1.c0; have c_r1 := K9.out.2.2.2.2.2.2.1.c1; have c_r2 := K9.out.2.2.2.2.2.2.1.c2; have c_r3 := K9.out.2.2.2.2.2.2.1.c3; have c_rl := K9.out.2.2.2.2.2.2.1.lt; have c_s0 := K9.out.2.2.2.2.1.c0; have c_s1 := K9.out.2.2.2.2.1.c1; have c_s2 := K9.out.2.2.2.2.1.c2; have c_s3 := K9.out.2.2.2.2.1.c3; have c_sl := K9.out.2.2.2.2.1.lt; have c_o0 := K9.out.1.c0; have c_o1 := K9.out.1.c1; have c_o2 := K9.out.1.c2; have c_o3 := K9.out.1.c3; have c_ol := K9.out.1.lt
      go_wp2_with fail
      go_ret
      exact ⟨rfl, K9.out.below⟩

theorem grows_walk (r : Rc) (d m : Int) (ir : InR r) (hd : In64 d) (hm : In64 m) (w : World) : Calls Try.prog 6 #[.agg #[.int .i64 r.X0, .int .i64 r.Y0, .int .i64 r.X1, .int .i64 r.Y1], .int .i64 d, .int .i64 m] w (BlIs true w) := by
  by_cases h : d < 0 ∨ (¬ d < 0 ∧ 2000000 < d) ∨ (¬ d < 0 ∧ ¬ 2000000 < d ∧ m < 0) ∨ (¬ d < 0 ∧ ¬ 2000000 < d ∧ ¬ m < 0 ∧ 2000000 < m)
  · exact grows_out r.X0 r.Y0 r.X1 r.Y1 d m h w
  · have h1 : ¬ d < 0 := by omega
    have h2 : ¬ 2000000 < d := by omega
    have h3 : ¬ m < 0 := by omega
    have h4 : ¬ 2000000 < m := by omega
    clear h
    by_cases k : ROk r
    · have hd0 : 0 ≤ d := by omega
      have hm0 : 0 ≤ m := by omega
      have gk := grown_ok k hd0
      have hG : ∀ w, Calls Try.prog 12 #[.agg #[.int .i64 r.X0, .int .i64 r.Y0, .int .i64 r.X1, .int .i64 r.Y1], .int .i64 d] w (RbIs (grownR r d, true) w) := fun w => by
        have := tgrow_any r d hd w
        rwa [grow_is k hd0] at this
      have hT : ∀ w, Calls Try.prog 12 #[.agg #[.int .i64 (grownR r d).X0, .int .i64 (grownR r d).Y0, .int .i64 (grownR r d).X1, .int .i64 (grownR r d).Y1], .int .i64 m] w (RbIs (grownR r (d + m), true) w) := fun w => by
        have := tgrow_any (grownR r d) m hm w
        rwa [grow_is gk hm0, grown_twice k hd0 hm0] at this
      have hO : ∀ w, Calls Try.prog 12 #[.agg #[.int .i64 r.X0, .int .i64 r.Y0, .int .i64 r.X1, .int .i64 r.Y1], .int .i64 (d + m)] w (RbIs (grownR r (d + m), true) w) := fun w => by
        have := tgrow_any r (d + m) ⟨by omega, by omega⟩ w
        rwa [grow_is k (by omega)] at this
      have hS := fun w => tshrink_any r d hd w
      have hB := fun w => tshrink_any (grownR r d) d hd w
      have hI : ∀ w, Calls Try.prog 22 #[.agg #[.int .i64 r.X0, .int .i64 r.Y0, .int .i64 r.X1, .int .i64 r.Y1], .agg #[.int .i64 (grownR r d).X0, .int .i64 (grownR r d).Y0, .int .i64 (grownR r d).X1, .int .i64 (grownR r d).Y1]] w (BlIs true w) := fun w => by
        have := tinside_any r (grownR r d) w
        rwa [decide_eq_true (inside_grown k hd0)] at this
      have hsg : GridR (shrinkR r d).1 := by
        unfold shrinkR
        split
        · rename_i q; exact q.2.2.grid
        · show GridR zR; unfold GridR zR; decide
      have hkk := shrunk_grown k hd0
      have hsi := shrink_iff k hd0
      have hgs := fun q => grown_shrunk k hd0 q
      have kg := k.grid
      generalize hs : shrinkR r d = s at *
      generalize hb : shrinkR (grownR r d) d = b at *
      obtain ⟨s, left⟩ := s
      obtain ⟨b, kept⟩ := b
      refine grows_core r.X0 r.Y0 r.X1 r.Y1 (grownR r d).X0 (grownR r d).Y0 (grownR r d).X1 (grownR r d).Y1 s.X0 s.Y0 s.X1 s.Y1 b.X0 b.Y0 b.X1 b.Y1 (grownR r (d + m)).X0 (grownR r (d + m)).Y0 (grownR r (d + m)).X1 (grownR r (d + m)).Y1 d m left kept ((rokB_iff r).2 k) h1 h2 h3 h4 kg.1 kg.2.1 kg.2.2.1 kg.2.2.2 hsg.1 hsg.2.1 hsg.2.2.1 hsg.2.2.2 ?_ ?_ (Lib.hid hG) (Lib.hid hS) (Lib.hid hB) (Lib.hid hT) (Lib.hid hO) (Lib.hid hI) w
      · by_cases q : 0 < (grownR r d).X0 ∧ 0 < (grownR r d).Y0 ∧ (grownR r d).X1 < 1048576 ∧ (grownR r d).Y1 < 1048576
        · have e := hkk q
          have e1 := congrArg Prod.fst e; have e2 := congrArg Prod.snd e
          simp only [] at e1 e2
          subst e1; subst e2
          exact Or.inr (Or.inr (Or.inr (Or.inr ⟨q.1, q.2.1, q.2.2.1, q.2.2.2, rfl, rfl, rfl, rfl, rfl⟩)))
        · omega
      · unfold shrinkR at hs
        by_cases q : ROk (shrunkR r d)
        · rw [if_pos ⟨k, hd0, q⟩] at hs
          have e1 := congrArg Prod.fst hs; have e2 := congrArg Prod.snd hs
          simp only [] at e1 e2
          subst e1; subst e2
          refine Or.inr ⟨rfl, ?_, ?_, ?_, ?_, fun w => ?_⟩
          · simp only [shrunkR, beq_iff_eq]; omega
          · simp only [shrunkR, beq_iff_eq]; omega
          · have := hsi.1 q; omega
          · have := hsi.1 q; omega
          · have := tgrow_any (shrunkR r d) d hd w
            rwa [grow_is q hd0, hgs q] at this
        · rw [if_neg (fun h => q h.2.2)] at hs
          have e1 := congrArg Prod.fst hs; have e2 := congrArg Prod.snd hs
          simp only [] at e1 e2
          subst e1; subst e2
          have := mt hsi.2 q
          exact Or.inl ⟨rfl, rfl, rfl, rfl, rfl, by omega⟩
    · have hG : ∀ w, Calls Try.prog 12 #[.agg #[.int .i64 r.X0, .int .i64 r.Y0, .int .i64 r.X1, .int .i64 r.Y1], .int .i64 d] w (RbIs (⟨0, 0, 0, 0⟩, false) w) := fun w => by
        have := tgrow_any r d hd w
        rwa [grow_no (fun h => k h.1)] at this
      have hS : ∀ w, Calls Try.prog 14 #[.agg #[.int .i64 r.X0, .int .i64 r.Y0, .int .i64 r.X1, .int .i64 r.Y1], .int .i64 d] w (RbIs (⟨0, 0, 0, 0⟩, false) w) := fun w => by
        have := tshrink_any r d hd w
        rwa [shrink_no (fun h => k h.1)] at this
      exact grows_no r.X0 r.Y0 r.X1 r.Y1 d m ((rokB_no r).2 k) h1 h2 h3 h4 (Lib.hid hG) (Lib.hid hS) w
end Go.Proofs.Ytpbkmphpgjdpfaa
