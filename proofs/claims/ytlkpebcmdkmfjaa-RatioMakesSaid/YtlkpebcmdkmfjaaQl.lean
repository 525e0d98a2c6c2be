/-
  The walk of RatioMakes.
-/
import Derived.Test.YtlkpebcmdkmfjaaQk
set_option linter.unusedVariables false
set_option maxRecDepth 100000
namespace Go.Proofs.Ytlkpebcmdkmfjaa
open Go.RowKit

theorem makes_out (n d k : Int) (h : n < -1073741824 ∨ (¬ n < -1073741824 ∧ 1073741824 < n) ∨ (¬ n < -1073741824 ∧ ¬ 1073741824 < n ∧ d < -1073741824) ∨ (¬ n < -1073741824 ∧ ¬ 1073741824 < n ∧ ¬ d < -1073741824 ∧ 1073741824 < d)) (w : World) :
    Calls Try.prog 4 #[.int .i64 n, .int .i64 d, .int .i64 k] w (BlIs true w) := by
  rcases h with h | ⟨h1, h⟩ | ⟨h1, h2, h⟩ | ⟨h1, h2, h3, h⟩
  all_goals
    go_enter Try.func4, Try.ntmps4
    go_wp2_with fail
    refine (small_any _).mono ?_
    rintro e w1 ⟨rfl, hb⟩
    have HB := Lib.hid hb; clear hb
    go_wp2
    go_ret
    exact ⟨rfl, HB.out⟩

set_option maxHeartbeats 4000000 in
theorem makes_zero (n k : Int) (a1 : -1073741824 ≤ n) (a2 : n ≤ 1073741824) (w : World) : Calls Try.prog 4 #[.int .i64 n, .int .i64 0, .int .i64 k] w (BlIs true w) := by
  have hm := fun w => make_any n 0 ⟨by omega, by omega⟩ ⟨by omega, by omega⟩ w
  rw [mkF_zero] at hm
  have HM : Hid (∀ w, Calls Try.prog 10 #[.int .i64 n, .int .i64 0] w (FrIs (⟨0, 0⟩, 1) w)) := Lib.hid hm; clear hm
  go_enter Try.func4, Try.ntmps4
  go_wp2_with fail
  refine (small_any _).mono ?_
  rintro e w1 ⟨rfl, hb⟩
  have K1 := Lib.hid ((Keep.nil w).go hb); clear hb
  go_wp2_with fail
  refine (HM.out _).mono ?_
  rintro e w2 ⟨rfl, hb⟩
  have K2 := Lib.hid (K1.out.go hb); clear hb K1
  go_wp2
  go_ret
  exact ⟨rfl, by have hk := K2.out.below; have hs := hk.size; (repeat' first | exact Below.refl _ _ | assumption | (apply below_drewN) | (refine Below.setCell ?_ (by (try simp); (try omega)) _) | (refine Below.alloc ?_ (by (try simp); (try omega)) _) | (refine Below.trans ?_ (Below.mono (Hid.out (by assumption)) (by (try simp); (try omega)))))⟩

set_option maxHeartbeats 8000000 in
theorem makes_more (n d k : Int) (a1 : -1073741824 ≤ n) (a2 : n ≤ 1073741824) (b1 : -1073741824 ≤ d) (b2 : d ≤ 1073741824) (hd : d ≠ 0) (hk : In64 k) (w : World) : Calls Try.prog 4 #[.int .i64 n, .int .i64 d, .int .i64 k] w (BlIs true w) := by
  have hm := fun w => make_any n d ⟨by omega, by omega⟩ ⟨by omega, by omega⟩ w
  have h0 := mkF_small (n := n) (d := d) (by omega) (by omega) hd
  obtain ⟨ok, _, hc⟩ := mkF_ok h0
  have hsc := fun hk0 : k ≠ 0 => mkF_scale (n := n) (k := k) hd hk0
  have hx : mkF n d = ((mkF n d).1, 0) := Prod.ext rfl h0
  rw [hx] at hm hsc
  generalize (mkF n d).1 = x at *
  have ho : okB ⟨x.N, x.D⟩ = true := (okB_iff x).2 ok
  have m1 := mul_bd (x := x.N) (y := d) ok.abs.1 (by omega)
  have m2 := mul_bd (x := n) (y := x.D) (by omega) ok.abs.2
  have hne : (x.N * d != n * x.D) = false := by simp [hc]
  have xi := ok.inF
  obtain ⟨xn, xd⟩ := xi
  have hd0 : (d == 0) = false := by simp [hd]
  have HM := Lib.hid hm; clear hm h0 hx
  have HC := Lib.hid hc; clear hc
  have HOK := Lib.hid ok; clear ok
  have HD := Lib.hid hd; clear hd
  have HS := Lib.hid hsc; clear hsc
  by_cases k0 : k = 0
  · have k0' : (k == 0) = true := by simp [k0]
    clear k0 HS
    go_enter Try.func4, Try.ntmps4
    go_wp2_with fail
    refine (small_any _).mono ?_
    rintro e w1 ⟨rfl, hb⟩
    have K1 := Lib.hid ((Keep.nil w).go hb); clear hb
    go_wp2_with fail
    refine (HM.out _).mono ?_
    rintro e w2 ⟨rfl, hb⟩
    have K2 := Lib.hid ((K1.out.go hb).new x); clear hb K1
    go_wp2_with fail
    refine (right_nd _ _ xn xd _).mono ?_
    rintro e w3 ⟨rfl, hb⟩
    have K3 := Lib.hid (K2.out.go hb); clear hb K2
    have c0a := K3.out.1.cell0; have c0b := K3.out.1.cell1; have l0 := K3.out.1.lt
    go_wp2
    go_ret
    exact ⟨rfl, K3.out.below⟩
  · have k0' : (k == 0) = false := by simp [k0]
    by_cases k1 : k < -1073741824
    · clear k0 HS
      go_enter Try.func4, Try.ntmps4
      go_wp2_with fail
      refine (small_any _).mono ?_
      rintro e w1 ⟨rfl, hb⟩
      have K1 := Lib.hid ((Keep.nil w).go hb); clear hb
      go_wp2_with fail
      refine (HM.out _).mono ?_
      rintro e w2 ⟨rfl, hb⟩
      have K2 := Lib.hid ((K1.out.go hb).new x); clear hb K1
      go_wp2_with fail
      refine (right_nd _ _ xn xd _).mono ?_
      rintro e w3 ⟨rfl, hb⟩
      have K3 := Lib.hid (K2.out.go hb); clear hb K2
      have c0a := K3.out.1.cell0; have c0b := K3.out.1.cell1; have l0 := K3.out.1.lt
      go_wp2
      go_ret
      exact ⟨rfl, K3.out.below⟩
    · by_cases k2 : 1073741824 < k
      · clear k0 HS
        go_enter Try.func4, Try.ntmps4
        go_wp2_with fail
        refine (small_any _).mono ?_
        rintro e w1 ⟨rfl, hb⟩
        have K1 := Lib.hid ((Keep.nil w).go hb); clear hb
        go_wp2_with fail
        refine (HM.out _).mono ?_
        rintro e w2 ⟨rfl, hb⟩
        have K2 := Lib.hid ((K1.out.go hb).new x); clear hb K1
        go_wp2_with fail
        refine (right_nd _ _ xn xd _).mono ?_
        rintro e w3 ⟨rfl, hb⟩
        have K3 := Lib.hid (K2.out.go hb); clear hb K2
        have c0a := K3.out.1.cell0; have c0b := K3.out.1.cell1; have l0 := K3.out.1.lt
        go_wp2
        go_ret
        exact ⟨rfl, K3.out.below⟩
      · have q1 := mul_bd (x := n) (y := k) (by omega) (by omega)
        have q2 := mul_bd (x := d) (y := k) (by omega) (by omega)
        have hk2 := fun w => make_any (n * k) (d * k) ⟨by omega, by omega⟩ ⟨by omega, by omega⟩ w
        rw [HS.out k0] at hk2
        have HK := Lib.hid hk2
        clear hk2 k0 HS
        go_enter Try.func4, Try.ntmps4
        go_wp2_with fail
        refine (small_any _).mono ?_
        rintro e w1 ⟨rfl, hb⟩
        have K1 := Lib.hid ((Keep.nil w).go hb); clear hb
        go_wp2_with fail
        refine (HM.out _).mono ?_
        rintro e w2 ⟨rfl, hb⟩
        have K2 := Lib.hid ((K1.out.go hb).new x); clear hb K1
        go_wp2_with fail
        refine (right_nd _ _ xn xd _).mono ?_
        rintro e w3 ⟨rfl, hb⟩
        have K3 := Lib.hid (K2.out.go hb); clear hb K2
        have c0a := K3.out.1.cell0; have c0b := K3.out.1.cell1; have l0 := K3.out.1.lt
        go_wp2_with fail
        refine (HK.out _).mono ?_
        rintro e w4 ⟨rfl, hb⟩
        have K4 := Lib.hid ((K3.out.go hb).new x); clear hb K3 c0a c0b l0
        have c0a := K4.out.2.1.cell0; have c0b := K4.out.2.1.cell1
        have c1a := K4.out.1.cell0; have c1b := K4.out.1.cell1
        go_wp2
        go_ret
        exact ⟨rfl, K4.out.below⟩

theorem makes_walk (n d k : Int) (hn : In64 n) (hd : In64 d) (hk : In64 k) (w : World) : Calls Try.prog 4 #[.int .i64 n, .int .i64 d, .int .i64 k] w (BlIs true w) := by
  by_cases h : n < -1073741824 ∨ (¬ n < -1073741824 ∧ 1073741824 < n) ∨ (¬ n < -1073741824 ∧ ¬ 1073741824 < n ∧ d < -1073741824) ∨ (¬ n < -1073741824 ∧ ¬ 1073741824 < n ∧ ¬ d < -1073741824 ∧ 1073741824 < d)
  · exact makes_out n d k h w
  · by_cases h0 : d = 0
    · subst h0; exact makes_zero n k (by omega) (by omega) w
    · exact makes_more n d k (by omega) (by omega) (by omega) (by omega) h0 hk w
end Go.Proofs.Ytlkpebcmdkmfjaa
