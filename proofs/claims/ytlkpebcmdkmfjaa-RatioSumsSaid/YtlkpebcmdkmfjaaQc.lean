/-
  Contracts of package ratio: Right, Floor, Ceil.
-/
import Derived.Test.YtlkpebcmdkmfjaaQb
set_option linter.unusedVariables false
set_option maxRecDepth 100000
namespace Go.Proofs.Ytlkpebcmdkmfjaa
open Go.RowKit

def InF (r : Fr) : Prop := In64 r.N ∧ In64 r.D
theorem FOk.inF {r : Fr} (h : FOk r) : InF r := by obtain ⟨h1, h2, h3, h4, _⟩ := h; exact ⟨⟨by omega, by omega⟩, by omega, by omega⟩
/-- a bool, in new memory. -/
def BlIs (b : Bool) (w : World) (e : Ending) (w' : World) : Prop := e = .returned (.bool b) ∧ Below w.heap.size w w'
def InIs (n : Int) (w : World) (e : Ending) (w' : World) : Prop := e = .returned (.int .i64 n) ∧ Below w.heap.size w w'

set_option maxHeartbeats 2000000 in
theorem right_yes (r : Fr) (h : FOk r) (w : World) : Calls Try.prog 16 #[.agg #[.int .i64 r.N, .int .i64 r.D]] w (BlIs true w) := by
  have hm := fun w => make_any r.N r.D h.inF.1 h.inF.2 w
  rw [mkF_self h] at hm
  have HM := Lib.hid hm; clear hm h
  go_enter Try.func16, Try.ntmps16
  go_wp2_with (go_at_call 10; refine (HM.out _).mono ?_; rintro e w1 ⟨rfl, hb⟩; obtain ⟨hc, hf⟩ := bcell hb; have hz := hb.size; (try simp at hz); have hz0 : w.heap.size < w1.heap.size := (by omega); have HBl := Lib.hid hb; clear hb)
  go_ret
  exact ⟨rfl, by (repeat' first | exact Below.refl _ _ | assumption | (apply below_drewN) | (refine Below.setCell ?_ (by (try simp); (try omega)) _) | (refine Below.alloc ?_ (by (try simp); (try omega)) _) | (refine Below.trans ?_ (Below.mono (Hid.out (by assumption)) (by (try simp); (try omega)))))⟩

set_option maxHeartbeats 2000000 in
theorem right_no (r : Fr) (h : ¬ FOk r) (hr : InF r) (w : World) : Calls Try.prog 16 #[.agg #[.int .i64 r.N, .int .i64 r.D]] w (BlIs false w) := by
  have hm := fun w => make_any r.N r.D hr.1 hr.2 w
  have hk : ¬ ((mkF r.N r.D).2 = 0 ∧ (mkF r.N r.D).1 = r) := fun hh => h ((okB_iff r).1 ((right_mk r).2 hh))
  generalize mkF r.N r.D = x at *
  obtain ⟨⟨a, b⟩, c⟩ := x
  have HM := Lib.hid hm; clear hm h
  by_cases hc0 : c = 0
  · subst hc0
    have hne : ¬ (a = r.N ∧ b = r.D) := fun hh => hk ⟨rfl, Fr.eq hh.1 hh.2⟩
    clear hk
    go_enter Try.func16, Try.ntmps16
    go_wp2_with (go_at_call 10; refine (HM.out _).mono ?_; rintro e w1 ⟨rfl, hb⟩; obtain ⟨hc, hf⟩ := bcell hb; have hz := hb.size; (try simp at hz); have hz0 : w.heap.size < w1.heap.size := (by omega); have HBl := Lib.hid hb; clear hb)
    all_goals
      go_ret
      exact ⟨rfl, by (repeat' first | exact Below.refl _ _ | assumption | (apply below_drewN) | (refine Below.setCell ?_ (by (try simp); (try omega)) _) | (refine Below.alloc ?_ (by (try simp); (try omega)) _) | (refine Below.trans ?_ (Below.mono (Hid.out (by assumption)) (by (try simp); (try omega)))))⟩
  · have hcz : (c == 0) = false := by simp [hc0]
    clear hk
    go_enter Try.func16, Try.ntmps16
    go_wp2_with (go_at_call 10; refine (HM.out _).mono ?_; rintro e w1 ⟨rfl, hb⟩; obtain ⟨hc, hf⟩ := bcell hb; have hz := hb.size; (try simp at hz); have hz0 : w.heap.size < w1.heap.size := (by omega); have HBl := Lib.hid hb; clear hb)
    go_ret
    exact ⟨rfl, by (repeat' first | exact Below.refl _ _ | assumption | (apply below_drewN) | (refine Below.setCell ?_ (by (try simp); (try omega)) _) | (refine Below.alloc ?_ (by (try simp); (try omega)) _) | (refine Below.trans ?_ (Below.mono (Hid.out (by assumption)) (by (try simp); (try omega)))))⟩

theorem right_any (r : Fr) (hr : InF r) (w : World) : Calls Try.prog 16 #[.agg #[.int .i64 r.N, .int .i64 r.D]] w (BlIs (okB r) w) := by
  cases h : okB r with
  | true => exact right_yes r ((okB_iff r).1 h) w
  | false => exact right_no r ((okB_no r).1 h) hr w

theorem InIs.of {n m : Int} {w w' : World} (h : n = m) (hb : Below w.heap.size w w') : InIs m w (.returned (.int .i64 n)) w' := by subst h; exact ⟨rfl, hb⟩
set_option maxHeartbeats 2000000 in
theorem floor_no (r : Fr) (h : ¬ FOk r) (hr : InF r) (w : World) : Calls Try.prog 24 #[.agg #[.int .i64 r.N, .int .i64 r.D]] w (InIs 0 w) := by
  have HM := Lib.hid (fun w => right_no r h hr w); clear h
  go_enter Try.func24, Try.ntmps24
  go_wp2_with (go_at_call 16; refine (HM.out _).mono ?_; rintro e w1 ⟨rfl, hb⟩; obtain ⟨hc, hf⟩ := bcell hb; have hz := hb.size; (try simp at hz); have hz0 : w.heap.size < w1.heap.size := (by omega); have HBl := Lib.hid hb; clear hb)
  go_ret
  exact ⟨rfl, by (repeat' first | exact Below.refl _ _ | assumption | (apply below_drewN) | (refine Below.setCell ?_ (by (try simp); (try omega)) _) | (refine Below.alloc ?_ (by (try simp); (try omega)) _) | (refine Below.trans ?_ (Below.mono (Hid.out (by assumption)) (by (try simp); (try omega)))))⟩

theorem tdiv_floor (n d : Int) (hd : 1 ≤ d) : (n.tdiv d * d > n → n / d = n.tdiv d - 1) ∧ (¬ n.tdiv d * d > n → n / d = n.tdiv d) := by
  have m2 := Int.mul_ediv_add_emod n d
  have m3 := Int.emod_nonneg n (show d ≠ 0 by omega)
  have m4 := Int.emod_lt_of_pos n (show 0 < d by omega)
  rcases Int.lt_or_le n 0 with hn | hn
  · have t1 : n.tdiv d = -((-n) / d) := by
      have : (-(-n)).tdiv d = -((-n).tdiv d) := Int.neg_tdiv _ _
      rw [Int.neg_neg] at this
      rw [this, Int.tdiv_eq_ediv_of_nonneg (by omega)]
    have a1 := Int.ediv_mul_le (-n) (show d ≠ 0 by omega)
    have a2 := Int.lt_ediv_add_one_mul_self (-n) (show 0 < d by omega)
    rw [t1]
    generalize (-n) / d = y at *
    generalize n / d = x at *
    generalize n % d = z at *
    have e1 : (y + 1) * d = y * d + d := by grind
    have e2 : -y * d = -(y * d) := by grind
    have e3 : d * x = x * d := by grind
    rw [e1] at a2
    rw [e3] at m2
    rw [e2]
    constructor
    · intro h
      -- x * d <= n < -y*d, and -(y*d) - d < n
      have b1 : (x + y) * d < 0 := by have : (x + y) * d = x * d + y * d := by grind
                                      omega
      have b2 : -2 * d < (x + y) * d := by have : (x + y) * d = x * d + y * d := by grind
                                           omega
      have w1 : x + y < 0 := by
        rcases Int.lt_or_le (x + y) 0 with q | q
        · exact q
        · have := Int.mul_nonneg q (show (0 : Int) ≤ d by omega); omega
      have w2 : -2 < x + y := Int.lt_of_mul_lt_mul_right b2 (by omega)
      omega
    · intro h
      have b1 : (x + y) * d < 1 * d := by have : (x + y) * d = x * d + y * d := by grind
                                          omega
      have b2 : -1 * d < (x + y) * d := by have : (x + y) * d = x * d + y * d := by grind
                                           omega
      have w1 : x + y < 1 := Int.lt_of_mul_lt_mul_right b1 (by omega)
      have w2 : -1 < x + y := Int.lt_of_mul_lt_mul_right b2 (by omega)
      omega
  · rw [Int.tdiv_eq_ediv_of_nonneg hn]
    have a1 := Int.ediv_mul_le n (show d ≠ 0 by omega)
    exact ⟨fun h => by omega, fun _ => rfl⟩

theorem tdiv_bd (n d : Int) (hd : 1 ≤ d) (h1 : -1073741824 ≤ n) (h2 : n ≤ 1073741824) : -1073741824 ≤ n.tdiv d ∧ n.tdiv d ≤ 1073741824 ∧ -1152921504606846976 ≤ n.tdiv d * d ∧ n.tdiv d * d ≤ 1152921504606846976 := by
  have hb : (n.tdiv d).natAbs ≤ n.natAbs := by rw [Int.natAbs_tdiv]; exact Nat.div_le_self _ _
  have hm : (n.tdiv d * d).natAbs ≤ n.natAbs := by
    rw [Int.natAbs_mul, Int.natAbs_tdiv]; exact Nat.div_mul_le_self _ _
  omega

set_option maxHeartbeats 2000000 in
theorem floor_yes (r : Fr) (h : FOk r) (w : World) : Calls Try.prog 24 #[.agg #[.int .i64 r.N, .int .i64 r.D]] w (InIs (r.N / r.D) w) := by
  have HM := Lib.hid (fun w => right_yes r h w)
  obtain ⟨h1, h2, h3, h4, _⟩ := h
  obtain ⟨t1, t2⟩ := tdiv_floor r.N r.D h1
  obtain ⟨b1, b2, b3, b4⟩ := tdiv_bd r.N r.D h1 h3 h4
  have hd0 : (r.D == 0) = false := by simp; omega
  have T1 := Lib.hid t1; clear t1
  have T2 := Lib.hid t2; clear t2
  by_cases hgt : r.N < r.N.tdiv r.D * r.D
  · have hE := Lib.hid (T1.out hgt)
    clear T1 T2
    go_enter Try.func24, Try.ntmps24
    go_wp2_with (go_at_call 16; refine (HM.out _).mono ?_; rintro e w1 ⟨rfl, hb⟩; obtain ⟨hc, hf⟩ := bcell hb; have hz := hb.size; (try simp at hz); have hz0 : w.heap.size < w1.heap.size := (by omega); have HBl := Lib.hid hb; clear hb)
    go_ret
    exact InIs.of hE.out.symm (by (repeat' first | exact Below.refl _ _ | assumption | (apply below_drewN) | (refine Below.setCell ?_ (by (try simp); (try omega)) _) | (refine Below.alloc ?_ (by (try simp); (try omega)) _) | (refine Below.trans ?_ (Below.mono (Hid.out (by assumption)) (by (try simp); (try omega))))))
  · have hE := Lib.hid (T2.out hgt)
    clear T1 T2
    go_enter Try.func24, Try.ntmps24
    go_wp2_with (go_at_call 16; refine (HM.out _).mono ?_; rintro e w1 ⟨rfl, hb⟩; obtain ⟨hc, hf⟩ := bcell hb; have hz := hb.size; (try simp at hz); have hz0 : w.heap.size < w1.heap.size := (by omega); have HBl := Lib.hid hb; clear hb)
    go_ret
    exact InIs.of hE.out.symm (by (repeat' first | exact Below.refl _ _ | assumption | (apply below_drewN) | (refine Below.setCell ?_ (by (try simp); (try omega)) _) | (refine Below.alloc ?_ (by (try simp); (try omega)) _) | (refine Below.trans ?_ (Below.mono (Hid.out (by assumption)) (by (try simp); (try omega))))))

theorem floor_any (r : Fr) (hr : InF r) (w : World) : Calls Try.prog 24 #[.agg #[.int .i64 r.N, .int .i64 r.D]] w (InIs (floorF r) w) := by
  unfold floorF
  cases h : okB r with
  | true => exact floor_yes r ((okB_iff r).1 h) w
  | false => exact floor_no r ((okB_no r).1 h) hr w

theorem neg_ok_iff (r : Fr) : FOk ⟨-r.N, r.D⟩ ↔ FOk r := ⟨fun h => by have := neg_ok h; simpa using this, neg_ok⟩
set_option maxHeartbeats 2000000 in
theorem ceil_any (r : Fr) (hr : InF r) (w : World) : Calls Try.prog 26 #[.agg #[.int .i64 r.N, .int .i64 r.D]] w (InIs (ceilF r) w) := by
  by_cases hmin : r.N = -9223372036854775808
  · have hno : ¬ FOk r := fun h => by obtain ⟨_, _, h3, _⟩ := h; omega
    have hc : ceilF r = 0 := by unfold ceilF; rw [(okB_no r).2 hno]; rfl
    rw [hc]; clear hc
    have HM := Lib.hid (fun w => floor_no r hno hr w)
    have hw : wrap64 (-r.N) = r.N := by rw [hmin]; unfold wrap64; omega
    have H0 := Lib.hid hmin; clear hmin hno hr
    go_enter Try.func26, Try.ntmps26
    go_wp2_with (go_at_call 24; refine (HM.out _).mono ?_; rintro e w1 ⟨rfl, hb⟩; obtain ⟨hc, hf⟩ := bcell hb; have hz := hb.size; (try simp at hz); have hz0 : w.heap.size < w1.heap.size := (by omega); have HBl := Lib.hid hb; clear hb)
    go_ret
    exact ⟨rfl, by (repeat' first | exact Below.refl _ _ | assumption | (apply below_drewN) | (refine Below.setCell ?_ (by (try simp); (try omega)) _) | (refine Below.alloc ?_ (by (try simp); (try omega)) _) | (refine Below.trans ?_ (Below.mono (Hid.out (by assumption)) (by (try simp); (try omega)))))⟩
  · have hi : InF ⟨-r.N, r.D⟩ := ⟨⟨by have := hr.1.2; simp only []; omega, by have := hr.1.1; simp only []; omega⟩, hr.2⟩
    have HM := Lib.hid (fun w => floor_any ⟨-r.N, r.D⟩ hi w)
    have hf1 : floorF ⟨-r.N, r.D⟩ = -ceilF r := by
      have e : okB ⟨-r.N, r.D⟩ = okB r := by
        rw [Bool.eq_iff_iff, okB_iff, okB_iff, neg_ok_iff]
      unfold floorF ceilF; rw [e]; split <;> simp
    rw [hf1] at HM
    have hb1 : -9223372036854775807 ≤ ceilF r ∧ ceilF r ≤ 9223372036854775807 := by
      cases h : okB r with
      | true =>
        have h2 := (okB_iff r).1 h
        have := floor_bd (neg_ok h2)
        omega
      | false => unfold ceilF; rw [h]; simp
    have hlo := hr.1.1
    have hhi := hr.1.2
    have HR := Lib.hid hr
    clear hf1 hi hr
    generalize ceilF r = c at *
    obtain ⟨hb2, hb3⟩ := hb1
    go_enter Try.func26, Try.ntmps26
    go_wp2_with (go_at_call 24; refine (HM.out _).mono ?_; rintro e w1 ⟨rfl, hb⟩; obtain ⟨hc, hf⟩ := bcell hb; have hz := hb.size; (try simp at hz); have hz0 : w.heap.size < w1.heap.size := (by omega); have HBl := Lib.hid hb; clear hb)
    go_ret
    exact InIs.of (by omega) (by (repeat' first | exact Below.refl _ _ | assumption | (apply below_drewN) | (refine Below.setCell ?_ (by (try simp); (try omega)) _) | (refine Below.alloc ?_ (by (try simp); (try omega)) _) | (refine Below.trans ?_ (Below.mono (Hid.out (by assumption)) (by (try simp); (try omega))))))
end Go.Proofs.Ytlkpebcmdkmfjaa
