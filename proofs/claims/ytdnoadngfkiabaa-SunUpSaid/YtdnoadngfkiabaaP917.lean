/-
  Contracts of the program's layer 11, 1: the comparisons, points and directions, the bounds of an interval.
  Contracts of the program's layer 11, 2: some, narrow, meets, Blocked, Ray.
  Contracts of the program's layer 11, 3: meets, Blocked, Ray.
  Contracts of the program's layer 11, 4: Blocked, Ray.
-/
import Derived.Test.YtdnoadngfkiabaaP901
import Derived.Deep.RegionHeld3
import Derived.BigQuiet
import Derived.BigRegion
import Derived.Test.YtdnoadngfkiabaaP916
set_option linter.unusedVariables false
set_option maxRecDepth 100000
namespace Go.Proofs.Ytdnoadngfkiabaa
open Go.RowKit

def cmpI (x y : Int) : Int := if x < y then -1 else if y < x then 1 else 0
theorem cmpI_zero (x y : Int) : cmpI x y = 0 ↔ x = y := by unfold cmpI; split <;> (try split) <;> omega
theorem nan_any (n : Int) (w : World) : Calls Try.prog 100 #[.int .i64 n] w fun e w' => e = .returned (.bool false) ∧ w = w' := by
  go_enter Try.func100, Try.ntmps100
  go_wp2
  go_ret
  exact ⟨rfl, rfl⟩
theorem cmp_any (x y : Int) (w : World) : Calls Try.prog 73 #[.int .i64 x, .int .i64 y] w fun e w' => e = .returned (.int .i64 (cmpI x y)) ∧ w = w' := by
  rcases Int.lt_trichotomy x y with h | h | h
  · have hc : cmpI x y = -1 := by unfold cmpI; rw [if_pos h]
    rw [hc]; clear hc
    go_enter Try.func73, Try.ntmps73
    go_wp2_with (go_at_call 100; refine (nan_any _ _).mono ?_; rintro e w' ⟨rfl, rfl⟩)
    go_ret
    exact ⟨rfl, rfl⟩
  · subst h
    rw [(cmpI_zero x x).2 rfl]
    have hl : ¬ x < x := by omega
    go_enter Try.func73, Try.ntmps73
    go_wp2_with (go_at_call 100; refine (nan_any _ _).mono ?_; rintro e w' ⟨rfl, rfl⟩)
    go_ret
    exact ⟨rfl, rfl⟩
  · have hc : cmpI x y = 1 := by unfold cmpI; rw [if_neg (by omega), if_pos h]
    rw [hc]; clear hc
    have hl : ¬ x < y := by omega
    go_enter Try.func73, Try.ntmps73
    go_wp2_with (go_at_call 100; refine (nan_any _ _).mono ?_; rintro e w' ⟨rfl, rfl⟩)
    go_ret
    exact ⟨rfl, rfl⟩
theorem bd_mul {x y : Int} (hx : -2097152 ≤ x ∧ x ≤ 2097152) (hy : 0 ≤ y ∧ y ≤ 2097152) : -4398046511104 ≤ x * y ∧ x * y ≤ 4398046511104 := by
  have h := Nat.mul_le_mul (show x.natAbs ≤ 2097152 by omega) (show y.natAbs ≤ 2097152 by omega)
  rw [← Int.natAbs_mul] at h
  omega
theorem BdIn.mul {a b : Bd} (ha : BdIn a) (hb : BdIn b) : -4398046511104 ≤ a.n * b.d ∧ a.n * b.d ≤ 4398046511104 := bd_mul ⟨ha.1, ha.2.1⟩ ⟨hb.2.2.1, hb.2.2.2⟩
set_option maxHeartbeats 4000000 in
theorem scmp_nd (an ad : Int) (ac : Bool) (bn bd : Int) (bc : Bool) (ha : BdIn ⟨an, ad, ac⟩) (hb : BdIn ⟨bn, bd, bc⟩) (w : World) : Calls Try.prog 106 #[.agg #[.int .i64 an, .int .i64 ad, .bool ac], .agg #[.int .i64 bn, .int .i64 bd, .bool bc]] w (InIs (cmpI (an * bd) (bn * ad)) w) := by
  have m1 : -4398046511104 ≤ an * bd ∧ an * bd ≤ 4398046511104 := ha.mul hb
  have m2 : -4398046511104 ≤ bn * ad ∧ bn * ad ≤ 4398046511104 := hb.mul ha
  clear ha hb
  go_enter Try.func106, Try.ntmps106
  go_wp2_with (go_at_call 73; refine (cmp_any _ _ _).mono ?_; rintro e w' ⟨rfl, rfl⟩)
  go_ret
  exact ⟨rfl, by (repeat' first | exact Below.refl _ _ | assumption | (apply below_drewN) | (refine Below.setCell ?_ (by (try simp); (try omega)) _) | (refine Below.alloc ?_ (by (try simp); (try omega)) _) | (refine Below.trans ?_ (Below.mono (Hid.out (by assumption)) (by (try simp); (try omega)))))⟩
theorem scmp_any (a b : Bd) (ha : BdIn a) (hb : BdIn b) (w : World) : Calls Try.prog 106 #[.agg #[.int .i64 a.n, .int .i64 a.d, .bool a.c], .agg #[.int .i64 b.n, .int .i64 b.d, .bool b.c]] w (InIs (cmpI (a.n * b.d) (b.n * a.d)) w) := scmp_nd a.n a.d a.c b.n b.d b.c ha hb w
/-! ### points -/
theorem sisB_any (l n g : Int) (w : World) : Calls Try.prog 83 #[.int .i64 l, .int .i64 n, .int .i64 g] w fun e w' => e = .returned (.bool (decide (l ≤ n ∧ n ≤ g))) ∧ w = w' := by
  by_cases h1 : l ≤ n
  · by_cases h2 : n ≤ g
    · rw [show decide (l ≤ n ∧ n ≤ g) = true from decide_eq_true ⟨h1, h2⟩]
      go_enter Try.func83, Try.ntmps83
      go_wp2
      go_ret
      exact ⟨rfl, rfl⟩
    · rw [show decide (l ≤ n ∧ n ≤ g) = false from decide_eq_false (fun h => h2 h.2)]
      go_enter Try.func83, Try.ntmps83
      go_wp2
      go_ret
      exact ⟨rfl, rfl⟩
  · rw [show decide (l ≤ n ∧ n ≤ g) = false from decide_eq_false (fun h => h1 h.1)]
    go_enter Try.func83, Try.ntmps83
    go_wp2
    go_ret
    exact ⟨rfl, rfl⟩
def PtOk (p : V3) : Prop := (0 ≤ p.x ∧ p.x ≤ 1048576) ∧ (0 ≤ p.y ∧ p.y ≤ 1048576) ∧ (0 ≤ p.z ∧ p.z ≤ 4096)
def DiOk (d : V3) : Prop := (d.x ≠ 0 ∨ d.y ≠ 0 ∨ d.z ≠ 0) ∧ (-1048576 ≤ d.x ∧ d.x ≤ 1048576) ∧ (-1048576 ≤ d.y ∧ d.y ≤ 1048576) ∧ (-1048576 ≤ d.z ∧ d.z ≤ 1048576)
instance (p : V3) : Decidable (PtOk p) := by unfold PtOk; infer_instance
instance (p : V3) : Decidable (DiOk p) := by unfold DiOk; infer_instance
set_option maxHeartbeats 4000000 in
theorem sisP_nd (x y z : Int) (w : World) : Calls Try.prog 65 #[.agg #[.int .i64 x, .int .i64 y, .int .i64 z]] w (BlIs (decide (PtOk ⟨x, y, z⟩)) w) := by
  have HB := Lib.hid (fun a b c w' => sisB_any a b c w')
  by_cases c0 : 0 ≤ x ∧ x ≤ 1048576
  · have d0 : decide (0 ≤ x ∧ x ≤ 1048576) = true := decide_eq_true c0
    by_cases c1 : 0 ≤ y ∧ y ≤ 1048576
    · have d1 : decide (0 ≤ y ∧ y ≤ 1048576) = true := decide_eq_true c1
      by_cases c2 : 0 ≤ z ∧ z ≤ 4096
      · have d2 : decide (0 ≤ z ∧ z ≤ 4096) = true := decide_eq_true c2
        rw [show decide (PtOk ⟨x, y, z⟩) = true from decide_eq_true ⟨c0, c1, c2⟩]
        clear c0 c1 c2
        go_enter Try.func65, Try.ntmps65
        go_wp2_with (go_at_call 83; refine (HB.out _ _ _ _).mono ?_; rintro e w' ⟨rfl, rfl⟩)
        go_ret
        exact ⟨rfl, by (repeat' first | exact Below.refl _ _ | assumption | (apply below_drewN) | (refine Below.setCell ?_ (by (try simp); (try omega)) _) | (refine Below.alloc ?_ (by (try simp); (try omega)) _) | (refine Below.trans ?_ (Below.mono (Hid.out (by assumption)) (by (try simp); (try omega)))))⟩
      · have d2 : decide (0 ≤ z ∧ z ≤ 4096) = false := decide_eq_false c2
        rw [show decide (PtOk ⟨x, y, z⟩) = false from decide_eq_false (fun h => c2 h.2.2)]
        clear c0 c1 c2
        go_enter Try.func65, Try.ntmps65
        go_wp2_with (go_at_call 83; refine (HB.out _ _ _ _).mono ?_; rintro e w' ⟨rfl, rfl⟩)
        go_ret
        exact ⟨rfl, by (repeat' first | exact Below.refl _ _ | assumption | (apply below_drewN) | (refine Below.setCell ?_ (by (try simp); (try omega)) _) | (refine Below.alloc ?_ (by (try simp); (try omega)) _) | (refine Below.trans ?_ (Below.mono (Hid.out (by assumption)) (by (try simp); (try omega)))))⟩
    · have d1 : decide (0 ≤ y ∧ y ≤ 1048576) = false := decide_eq_false c1
      rw [show decide (PtOk ⟨x, y, z⟩) = false from decide_eq_false (fun h => c1 h.2.1)]
      have c2 := trivial
      clear c0 c1 c2
      go_enter Try.func65, Try.ntmps65
      go_wp2_with (go_at_call 83; refine (HB.out _ _ _ _).mono ?_; rintro e w' ⟨rfl, rfl⟩)
      go_ret
      exact ⟨rfl, by (repeat' first | exact Below.refl _ _ | assumption | (apply below_drewN) | (refine Below.setCell ?_ (by (try simp); (try omega)) _) | (refine Below.alloc ?_ (by (try simp); (try omega)) _) | (refine Below.trans ?_ (Below.mono (Hid.out (by assumption)) (by (try simp); (try omega)))))⟩
  · have d0 : decide (0 ≤ x ∧ x ≤ 1048576) = false := decide_eq_false c0
    rw [show decide (PtOk ⟨x, y, z⟩) = false from decide_eq_false (fun h => c0 h.1)]
    have c1 := trivial
    have c2 := trivial
    clear c0 c1 c2
    go_enter Try.func65, Try.ntmps65
    go_wp2_with (go_at_call 83; refine (HB.out _ _ _ _).mono ?_; rintro e w' ⟨rfl, rfl⟩)
    go_ret
    exact ⟨rfl, by (repeat' first | exact Below.refl _ _ | assumption | (apply below_drewN) | (refine Below.setCell ?_ (by (try simp); (try omega)) _) | (refine Below.alloc ?_ (by (try simp); (try omega)) _) | (refine Below.trans ?_ (Below.mono (Hid.out (by assumption)) (by (try simp); (try omega)))))⟩
set_option maxHeartbeats 4000000 in
theorem sisD_1 (x y z : Int) (hx : ¬ x = 0) (w : World) : Calls Try.prog 66 #[.agg #[.int .i64 x, .int .i64 y, .int .i64 z]] w (BlIs (decide (DiOk ⟨x, y, z⟩)) w) := by
  have nz : (x : Int) ≠ 0 ∨ (y : Int) ≠ 0 ∨ (z : Int) ≠ 0 := Or.inl hx
  by_cases c0 : (-1048576 : Int) ≤ x ∧ x ≤ 1048576
  · have HX : Hid (∀ w', Calls Try.prog 83 #[.int .i64 (-1048576), .int .i64 x, .int .i64 1048576] w' fun e w'' => e = .returned (.bool true) ∧ w' = w'') := Lib.hid (fun w' => by have := sisB_any (-1048576) x 1048576 w'; rw [decide_eq_true c0] at this; exact this)
    by_cases c1 : (-1048576 : Int) ≤ y ∧ y ≤ 1048576
    · have HY : Hid (∀ w', Calls Try.prog 83 #[.int .i64 (-1048576), .int .i64 y, .int .i64 1048576] w' fun e w'' => e = .returned (.bool true) ∧ w' = w'') := Lib.hid (fun w' => by have := sisB_any (-1048576) y 1048576 w'; rw [decide_eq_true c1] at this; exact this)
      by_cases c2 : (-1048576 : Int) ≤ z ∧ z ≤ 1048576
      · have HZ : Hid (∀ w', Calls Try.prog 83 #[.int .i64 (-1048576), .int .i64 z, .int .i64 1048576] w' fun e w'' => e = .returned (.bool true) ∧ w' = w'') := Lib.hid (fun w' => by have := sisB_any (-1048576) z 1048576 w'; rw [decide_eq_true c2] at this; exact this)
        rw [show decide (DiOk ⟨x, y, z⟩) = true from decide_eq_true (⟨nz, c0, c1, c2⟩)]
        clear c0 c1 c2 nz
        go_enter Try.func66, Try.ntmps66
        go_wp2_with (go_at_call 83; (first | (with_reducible refine Calls.mono (HX.out _) ?_) | (with_reducible refine Calls.mono (HY.out _) ?_) | (with_reducible refine Calls.mono (HZ.out _) ?_)); rintro e w' ⟨rfl, rfl⟩)
        go_ret
        exact ⟨rfl, by (repeat' first | exact Below.refl _ _ | assumption | (apply below_drewN) | (refine Below.setCell ?_ (by (try simp); (try omega)) _) | (refine Below.alloc ?_ (by (try simp); (try omega)) _) | (refine Below.trans ?_ (Below.mono (Hid.out (by assumption)) (by (try simp); (try omega)))))⟩
      · have HZ : Hid (∀ w', Calls Try.prog 83 #[.int .i64 (-1048576), .int .i64 z, .int .i64 1048576] w' fun e w'' => e = .returned (.bool false) ∧ w' = w'') := Lib.hid (fun w' => by have := sisB_any (-1048576) z 1048576 w'; rw [decide_eq_false c2] at this; exact this)
        rw [show decide (DiOk ⟨x, y, z⟩) = false from decide_eq_false (fun h => c2 h.2.2.2)]
        clear c0 c1 c2 nz
        go_enter Try.func66, Try.ntmps66
        go_wp2_with (go_at_call 83; (first | (with_reducible refine Calls.mono (HX.out _) ?_) | (with_reducible refine Calls.mono (HY.out _) ?_) | (with_reducible refine Calls.mono (HZ.out _) ?_)); rintro e w' ⟨rfl, rfl⟩)
        go_ret
        exact ⟨rfl, by (repeat' first | exact Below.refl _ _ | assumption | (apply below_drewN) | (refine Below.setCell ?_ (by (try simp); (try omega)) _) | (refine Below.alloc ?_ (by (try simp); (try omega)) _) | (refine Below.trans ?_ (Below.mono (Hid.out (by assumption)) (by (try simp); (try omega)))))⟩
    · have HY : Hid (∀ w', Calls Try.prog 83 #[.int .i64 (-1048576), .int .i64 y, .int .i64 1048576] w' fun e w'' => e = .returned (.bool false) ∧ w' = w'') := Lib.hid (fun w' => by have := sisB_any (-1048576) y 1048576 w'; rw [decide_eq_false c1] at this; exact this)
      rw [show decide (DiOk ⟨x, y, z⟩) = false from decide_eq_false (fun h => c1 h.2.2.1)]
      have HZ := HY; have c2 := trivial
      clear c0 c1 c2 nz
      go_enter Try.func66, Try.ntmps66
      go_wp2_with (go_at_call 83; (first | (with_reducible refine Calls.mono (HX.out _) ?_) | (with_reducible refine Calls.mono (HY.out _) ?_) | (with_reducible refine Calls.mono (HZ.out _) ?_)); rintro e w' ⟨rfl, rfl⟩)
      go_ret
      exact ⟨rfl, by (repeat' first | exact Below.refl _ _ | assumption | (apply below_drewN) | (refine Below.setCell ?_ (by (try simp); (try omega)) _) | (refine Below.alloc ?_ (by (try simp); (try omega)) _) | (refine Below.trans ?_ (Below.mono (Hid.out (by assumption)) (by (try simp); (try omega)))))⟩
  · have HX : Hid (∀ w', Calls Try.prog 83 #[.int .i64 (-1048576), .int .i64 x, .int .i64 1048576] w' fun e w'' => e = .returned (.bool false) ∧ w' = w'') := Lib.hid (fun w' => by have := sisB_any (-1048576) x 1048576 w'; rw [decide_eq_false c0] at this; exact this)
    rw [show decide (DiOk ⟨x, y, z⟩) = false from decide_eq_false (fun h => c0 h.2.1)]
    have HY := HX; have HZ := HX; have c1 := trivial; have c2 := trivial
    clear c0 c1 c2 nz
    go_enter Try.func66, Try.ntmps66
    go_wp2_with (go_at_call 83; (first | (with_reducible refine Calls.mono (HX.out _) ?_) | (with_reducible refine Calls.mono (HY.out _) ?_) | (with_reducible refine Calls.mono (HZ.out _) ?_)); rintro e w' ⟨rfl, rfl⟩)
    go_ret
    exact ⟨rfl, by (repeat' first | exact Below.refl _ _ | assumption | (apply below_drewN) | (refine Below.setCell ?_ (by (try simp); (try omega)) _) | (refine Below.alloc ?_ (by (try simp); (try omega)) _) | (refine Below.trans ?_ (Below.mono (Hid.out (by assumption)) (by (try simp); (try omega)))))⟩
set_option maxHeartbeats 4000000 in
theorem sisD_2 (y z : Int) (hy : ¬ y = 0) (w : World) : Calls Try.prog 66 #[.agg #[.int .i64 0, .int .i64 y, .int .i64 z]] w (BlIs (decide (DiOk ⟨0, y, z⟩)) w) := by
  have nz : (0 : Int) ≠ 0 ∨ (y : Int) ≠ 0 ∨ (z : Int) ≠ 0 := Or.inr (Or.inl hy)
  have c0 : (-1048576 : Int) ≤ 0 ∧ (0 : Int) ≤ 1048576 := by decide
  have HX : Hid (∀ w', Calls Try.prog 83 #[.int .i64 (-1048576), .int .i64 0, .int .i64 1048576] w' fun e w'' => e = .returned (.bool true) ∧ w' = w'') := Lib.hid (fun w' => by have := sisB_any (-1048576) 0 1048576 w'; rw [decide_eq_true c0] at this; exact this)
  by_cases c1 : (-1048576 : Int) ≤ y ∧ y ≤ 1048576
  · have HY : Hid (∀ w', Calls Try.prog 83 #[.int .i64 (-1048576), .int .i64 y, .int .i64 1048576] w' fun e w'' => e = .returned (.bool true) ∧ w' = w'') := Lib.hid (fun w' => by have := sisB_any (-1048576) y 1048576 w'; rw [decide_eq_true c1] at this; exact this)
    by_cases c2 : (-1048576 : Int) ≤ z ∧ z ≤ 1048576
    · have HZ : Hid (∀ w', Calls Try.prog 83 #[.int .i64 (-1048576), .int .i64 z, .int .i64 1048576] w' fun e w'' => e = .returned (.bool true) ∧ w' = w'') := Lib.hid (fun w' => by have := sisB_any (-1048576) z 1048576 w'; rw [decide_eq_true c2] at this; exact this)
      rw [show decide (DiOk ⟨0, y, z⟩) = true from decide_eq_true (⟨nz, c0, c1, c2⟩)]
      clear c0 c1 c2 nz
      go_enter Try.func66, Try.ntmps66
      go_wp2_with (go_at_call 83; (first | (with_reducible refine Calls.mono (HX.out _) ?_) | (with_reducible refine Calls.mono (HY.out _) ?_) | (with_reducible refine Calls.mono (HZ.out _) ?_)); rintro e w' ⟨rfl, rfl⟩)
      go_ret
      exact ⟨rfl, by (repeat' first | exact Below.refl _ _ | assumption | (apply below_drewN) | (refine Below.setCell ?_ (by (try simp); (try omega)) _) | (refine Below.alloc ?_ (by (try simp); (try omega)) _) | (refine Below.trans ?_ (Below.mono (Hid.out (by assumption)) (by (try simp); (try omega)))))⟩
    · have HZ : Hid (∀ w', Calls Try.prog 83 #[.int .i64 (-1048576), .int .i64 z, .int .i64 1048576] w' fun e w'' => e = .returned (.bool false) ∧ w' = w'') := Lib.hid (fun w' => by have := sisB_any (-1048576) z 1048576 w'; rw [decide_eq_false c2] at this; exact this)
      rw [show decide (DiOk ⟨0, y, z⟩) = false from decide_eq_false (fun h => c2 h.2.2.2)]
      clear c0 c1 c2 nz
      go_enter Try.func66, Try.ntmps66
      go_wp2_with (go_at_call 83; (first | (with_reducible refine Calls.mono (HX.out _) ?_) | (with_reducible refine Calls.mono (HY.out _) ?_) | (with_reducible refine Calls.mono (HZ.out _) ?_)); rintro e w' ⟨rfl, rfl⟩)
      go_ret
      exact ⟨rfl, by (repeat' first | exact Below.refl _ _ | assumption | (apply below_drewN) | (refine Below.setCell ?_ (by (try simp); (try omega)) _) | (refine Below.alloc ?_ (by (try simp); (try omega)) _) | (refine Below.trans ?_ (Below.mono (Hid.out (by assumption)) (by (try simp); (try omega)))))⟩
  · have HY : Hid (∀ w', Calls Try.prog 83 #[.int .i64 (-1048576), .int .i64 y, .int .i64 1048576] w' fun e w'' => e = .returned (.bool false) ∧ w' = w'') := Lib.hid (fun w' => by have := sisB_any (-1048576) y 1048576 w'; rw [decide_eq_false c1] at this; exact this)
    rw [show decide (DiOk ⟨0, y, z⟩) = false from decide_eq_false (fun h => c1 h.2.2.1)]
    have HZ := HY; have c2 := trivial
    clear c0 c1 c2 nz
    go_enter Try.func66, Try.ntmps66
    go_wp2_with (go_at_call 83; (first | (with_reducible refine Calls.mono (HX.out _) ?_) | (with_reducible refine Calls.mono (HY.out _) ?_) | (with_reducible refine Calls.mono (HZ.out _) ?_)); rintro e w' ⟨rfl, rfl⟩)
    go_ret
    exact ⟨rfl, by (repeat' first | exact Below.refl _ _ | assumption | (apply below_drewN) | (refine Below.setCell ?_ (by (try simp); (try omega)) _) | (refine Below.alloc ?_ (by (try simp); (try omega)) _) | (refine Below.trans ?_ (Below.mono (Hid.out (by assumption)) (by (try simp); (try omega)))))⟩
set_option maxHeartbeats 4000000 in
theorem sisD_3 (z : Int) (hz : ¬ z = 0) (w : World) : Calls Try.prog 66 #[.agg #[.int .i64 0, .int .i64 0, .int .i64 z]] w (BlIs (decide (DiOk ⟨0, 0, z⟩)) w) := by
  have nz : (0 : Int) ≠ 0 ∨ (0 : Int) ≠ 0 ∨ (z : Int) ≠ 0 := Or.inr (Or.inr hz)
  have c0 : (-1048576 : Int) ≤ 0 ∧ (0 : Int) ≤ 1048576 := by decide
  have HX : Hid (∀ w', Calls Try.prog 83 #[.int .i64 (-1048576), .int .i64 0, .int .i64 1048576] w' fun e w'' => e = .returned (.bool true) ∧ w' = w'') := Lib.hid (fun w' => by have := sisB_any (-1048576) 0 1048576 w'; rw [decide_eq_true c0] at this; exact this)
  have c1 : (-1048576 : Int) ≤ 0 ∧ (0 : Int) ≤ 1048576 := by decide
  have HY : Hid (∀ w', Calls Try.prog 83 #[.int .i64 (-1048576), .int .i64 0, .int .i64 1048576] w' fun e w'' => e = .returned (.bool true) ∧ w' = w'') := Lib.hid (fun w' => by have := sisB_any (-1048576) 0 1048576 w'; rw [decide_eq_true c1] at this; exact this)
  by_cases c2 : (-1048576 : Int) ≤ z ∧ z ≤ 1048576
  · have HZ : Hid (∀ w', Calls Try.prog 83 #[.int .i64 (-1048576), .int .i64 z, .int .i64 1048576] w' fun e w'' => e = .returned (.bool true) ∧ w' = w'') := Lib.hid (fun w' => by have := sisB_any (-1048576) z 1048576 w'; rw [decide_eq_true c2] at this; exact this)
    rw [show decide (DiOk ⟨0, 0, z⟩) = true from decide_eq_true (⟨nz, c0, c1, c2⟩)]
    clear c0 c1 c2 nz
    go_enter Try.func66, Try.ntmps66
    go_wp2_with (go_at_call 83; (first | (with_reducible refine Calls.mono (HX.out _) ?_) | (with_reducible refine Calls.mono (HY.out _) ?_) | (with_reducible refine Calls.mono (HZ.out _) ?_)); rintro e w' ⟨rfl, rfl⟩)
    go_ret
    exact ⟨rfl, by (repeat' first | exact Below.refl _ _ | assumption | (apply below_drewN) | (refine Below.setCell ?_ (by (try simp); (try omega)) _) | (refine Below.alloc ?_ (by (try simp); (try omega)) _) | (refine Below.trans ?_ (Below.mono (Hid.out (by assumption)) (by (try simp); (try omega)))))⟩
  · have HZ : Hid (∀ w', Calls Try.prog 83 #[.int .i64 (-1048576), .int .i64 z, .int .i64 1048576] w' fun e w'' => e = .returned (.bool false) ∧ w' = w'') := Lib.hid (fun w' => by have := sisB_any (-1048576) z 1048576 w'; rw [decide_eq_false c2] at this; exact this)
    rw [show decide (DiOk ⟨0, 0, z⟩) = false from decide_eq_false (fun h => c2 h.2.2.2)]
    clear c0 c1 c2 nz
    go_enter Try.func66, Try.ntmps66
    go_wp2_with (go_at_call 83; (first | (with_reducible refine Calls.mono (HX.out _) ?_) | (with_reducible refine Calls.mono (HY.out _) ?_) | (with_reducible refine Calls.mono (HZ.out _) ?_)); rintro e w' ⟨rfl, rfl⟩)
    go_ret
    exact ⟨rfl, by (repeat' first | exact Below.refl _ _ | assumption | (apply below_drewN) | (refine Below.setCell ?_ (by (try simp); (try omega)) _) | (refine Below.alloc ?_ (by (try simp); (try omega)) _) | (refine Below.trans ?_ (Below.mono (Hid.out (by assumption)) (by (try simp); (try omega)))))⟩
theorem sisD_nd (x y z : Int) (w : World) : Calls Try.prog 66 #[.agg #[.int .i64 x, .int .i64 y, .int .i64 z]] w (BlIs (decide (DiOk ⟨x, y, z⟩)) w) := by
  by_cases hx : x = 0
  · subst hx
    by_cases hy : y = 0
    · subst hy
      by_cases hz : z = 0
      · subst hz
        rw [show decide (DiOk ⟨0, 0, 0⟩) = false from decide_eq_false (fun h => by rcases h.1 with h | h | h <;> exact h rfl)]
        go_enter Try.func66, Try.ntmps66
        go_wp2_with fail
        go_ret
        exact ⟨rfl, by (repeat' first | exact Below.refl _ _ | assumption | (apply below_drewN) | (refine Below.setCell ?_ (by (try simp); (try omega)) _) | (refine Below.alloc ?_ (by (try simp); (try omega)) _) | (refine Below.trans ?_ (Below.mono (Hid.out (by assumption)) (by (try simp); (try omega)))))⟩
      · exact sisD_3 z hz w
    · exact sisD_2 y z hy w
  · exact sisD_1 x y z hx w

/-! ### an interval at a block -/
def IvAt (w : World) (r : Nat) (i : Iv) : Prop := w.heap[r]? = some (.cells #[.int .i64 i.lo.n, .int .i64 i.lo.d, .bool i.lo.c, .int .i64 i.hi.n, .int .i64 i.hi.d, .bool i.hi.c] 92 (0, 0))
section
variable {w w' : World} {r : Nat} {i : Iv}
theorem IvAt.lt (h : IvAt w r i) : r < w.heap.size := (Array.getElem?_eq_some_iff.1 h).1
theorem IvAt.c0 (h : IvAt w r i) : w.cell? ⟨r, 0, none⟩ = some (.int .i64 i.lo.n) := by rw [Lib.cell_of_heap h]; rfl
theorem IvAt.c1 (h : IvAt w r i) : w.cell? ⟨r, 1, none⟩ = some (.int .i64 i.lo.d) := by rw [Lib.cell_of_heap h]; rfl
theorem IvAt.c2 (h : IvAt w r i) : w.cell? ⟨r, 2, none⟩ = some (.bool i.lo.c) := by rw [Lib.cell_of_heap h]; rfl
theorem IvAt.c3 (h : IvAt w r i) : w.cell? ⟨r, 3, none⟩ = some (.int .i64 i.hi.n) := by rw [Lib.cell_of_heap h]; rfl
theorem IvAt.c4 (h : IvAt w r i) : w.cell? ⟨r, 4, none⟩ = some (.int .i64 i.hi.d) := by rw [Lib.cell_of_heap h]; rfl
theorem IvAt.c5 (h : IvAt w r i) : w.cell? ⟨r, 5, none⟩ = some (.bool i.hi.c) := by rw [Lib.cell_of_heap h]; rfl
theorem IvAt.froz (h : IvAt w r i) (k : Nat) : w.frozen? ⟨r, k, none⟩ = false := Lib.frozen_of_heap h k
theorem IvAt.setlo (h : IvAt w r i) (b : Bd) : IvAt (((w.setCell ⟨r, 0, none⟩ (.int .i64 b.n)).setCell ⟨r, 1, none⟩ (.int .i64 b.d)).setCell ⟨r, 2, none⟩ (.bool b.c)) r ⟨b, i.hi⟩ := by
  unfold IvAt at h ⊢
  simp [World.setCell, Array.getElem?_modify, h]
theorem IvAt.sethi (h : IvAt w r i) (b : Bd) : IvAt (((w.setCell ⟨r, 3, none⟩ (.int .i64 b.n)).setCell ⟨r, 4, none⟩ (.int .i64 b.d)).setCell ⟨r, 5, none⟩ (.bool b.c)) r ⟨i.lo, b⟩ := by
  unfold IvAt at h ⊢
  simp [World.setCell, Array.getElem?_modify, h]
theorem IvAt.below {B : Nat} (h : IvAt w r i) (hg : Below B w w') (hr : r < B) : IvAt w' r i := (hg.block r hr).trans h
theorem IvAt.go (h : IvAt w r i) (hg : Below w.heap.size w w') : IvAt w' r i := h.below hg h.lt
end
theorem below_set3 {B r : Nat} {W w : World} (h : Below B W w) (hr : B ≤ r) (a b c : Value) (i j k : Nat) : Below B W (((w.setCell ⟨r, i, none⟩ a).setCell ⟨r, j, none⟩ b).setCell ⟨r, k, none⟩ c) := ((h.setCell hr _).setCell hr _).setCell hr _
/-- what a comparison reads: a bound at g, one at r. -/
def Sq11 (g r o0 o1 o2 : Nat) (n d : Int) (c : Bool) (n2 d2 : Int) (c2 : Bool) (w0 w : World) : Prop := w.cell? ⟨g, 0, none⟩ = some (.int .i64 n) ∧ w.cell? ⟨g, 1, none⟩ = some (.int .i64 d) ∧ w.cell? ⟨g, 2, none⟩ = some (.bool c) ∧ w.cell? ⟨r, o0, none⟩ = some (.int .i64 n2) ∧ w.cell? ⟨r, o1, none⟩ = some (.int .i64 d2) ∧ w.cell? ⟨r, o2, none⟩ = some (.bool c2) ∧ g < w.heap.size ∧ r < w.heap.size ∧ Hid (Below w0.heap.size w0 w)
theorem Sq11.go {g r o0 o1 o2 : Nat} {n d : Int} {c : Bool} {n2 d2 : Int} {c2 : Bool} {w0 w w' : World} (h : Sq11 g r o0 o1 o2 n d c n2 d2 c2 w0 w) (hb : Below w.heap.size w w') : Sq11 g r o0 o1 o2 n d c n2 d2 c2 w0 w' := by
  obtain ⟨h0, h1, h2, h3, h4, h5, h6, h7, h8⟩ := h
  have cp := fun i => hb.cell (p := ⟨g, i, none⟩) h6
  have cb := fun i => hb.cell (p := ⟨r, i, none⟩) h7
  exact ⟨(cp _).trans h0, (cp _).trans h1, (cp _).trans h2, (cb _).trans h3, (cb _).trans h4, (cb _).trans h5, Nat.lt_of_lt_of_le h6 hb.size, Nat.lt_of_lt_of_le h7 hb.size, Lib.hid (h8.out.trans (hb.mono h8.out.size))⟩
theorem Sq11.drewN {g r o0 o1 o2 : Nat} {n d : Int} {c : Bool} {n2 d2 : Int} {c2 : Bool} {w0 w : World} (h : Sq11 g r o0 o1 o2 n d c n2 d2 c2 w0 w) (k : Nat) : Sq11 g r o0 o1 o2 n d c n2 d2 c2 w0 (w.drewN k) := h.go (below_drewN (Below.refl _ _) k)
/-- the interval at r has turned, and nothing that lay before it. -/
def NarIs (r : Nat) (i : Iv) (w : World) (e : Ending) (w' : World) : Prop := e = .returned (.tuple #[]) ∧ IvAt w' r i ∧ Below r w w'
set_option maxHeartbeats 8000000 in
theorem saft_nd (r : Nat) (i : Iv) (n d : Int) (c : Bool) (w : World) (hr : IvAt w r i) (hi : IvIn i) (hb : BdIn ⟨n, d, c⟩) : Calls Try.prog 104 #[.pointer (some ⟨r, 0, none⟩), .agg #[.int .i64 n, .int .i64 d, .bool c]] w (NarIs r ⟨afterB i.lo ⟨n, d, c⟩, i.hi⟩ w) := by
  obtain ⟨wb, hwb⟩ : ∃ wb, wb = w.alloc (.cells #[.int .i64 n, .int .i64 d, .bool c] 90) := ⟨_, rfl⟩
  have hA : Below w.heap.size w wb := by rw [hwb]; exact (Below.refl _ _).alloc (Nat.le_refl _) _
  have hR := hr.go hA
  have hg := heap_alloc_new w (.cells #[.int .i64 n, .int .i64 d, .bool c] 90)
  rw [← hwb] at hg
  have E0 : Hid (Sq11 w.heap.size r 0 1 2 n d c i.lo.n i.lo.d i.lo.c wb wb) := Lib.hid ⟨by rw [Lib.cell_of_heap hg]; rfl, by rw [Lib.cell_of_heap hg]; rfl, by rw [Lib.cell_of_heap hg]; rfl, hR.c0, hR.c1, hR.c2, (Array.getElem?_eq_some_iff.1 hg).1, hR.lt, Lib.hid (Below.refl _ _)⟩
  have HC := Lib.hid (fun w' => scmp_any ⟨n, d, c⟩ i.lo hb hi.1 w')
  have HBR : Hid (∀ w', Below wb.heap.size wb w' → IvAt w' r i ∧ Below r w w') := Lib.hid (fun w' h => ⟨hR.go h, (hA.mono (Nat.le_of_lt hr.lt)).trans (h.mono (Nat.le_trans (Nat.le_of_lt hr.lt) hA.size))⟩)
  have HY : Hid (i.lo.n * d < n * i.lo.d → afterB i.lo ⟨n, d, c⟩ = ⟨n, d, c⟩) := Lib.hid (fun h => by unfold afterB; rw [if_pos (Or.inl h)])
  have HZ : Hid (n * i.lo.d = i.lo.n * d → c = false → afterB i.lo ⟨n, d, c⟩ = ⟨n, d, c⟩) := Lib.hid (fun h k => by unfold afterB; rw [if_pos (Or.inr ⟨h, k⟩)])
  have HN1 : Hid (n * i.lo.d < i.lo.n * d → afterB i.lo ⟨n, d, c⟩ = i.lo) := Lib.hid (fun h => by unfold afterB; rw [if_neg (by rintro (k | ⟨k, _⟩) <;> simp only at k <;> omega)])
  have HN2 : Hid (n * i.lo.d = i.lo.n * d → c = true → afterB i.lo ⟨n, d, c⟩ = i.lo) := Lib.hid (fun h k => by unfold afterB; rw [if_neg (by rintro (q | ⟨_, q⟩); (simp only at q; omega); (simp only at q; rw [k] at q; cases q))])
  clear hr hi hb hA hR hg
  rcases Int.lt_trichotomy (n * i.lo.d) (i.lo.n * d) with k | k | k
  · have HCV : Hid (cmpI (n * i.lo.d) (i.lo.n * d) = -1) := Lib.hid (by unfold cmpI; rw [if_pos k])
    have HT := Lib.hid (HN1.out k)
    clear k HY HZ HN1 HN2
    have HC2 := HC; rw [show cmpI (n * i.lo.d) (i.lo.n * d) = -1 from HCV.out] at HC2; clear HC HCV
    subst hwb
    obtain ⟨x0, x1, x2, x3, x4, x5, x6, x7, _⟩ := E0.out
    go_enter Try.func104, Try.ntmps104
    go_wp2_with fail
    generalize World.alloc w _ = wb at *
    go_region_held3 (fun w' => w'.cell? ⟨w.heap.size, 0, none⟩ = some (.int .i64 n) ∧ w'.cell? ⟨w.heap.size, 1, none⟩ = some (.int .i64 d) ∧ w'.cell? ⟨w.heap.size, 2, none⟩ = some (.bool c) ∧ w'.cell? ⟨r, 0, none⟩ = some (.int .i64 i.lo.n) ∧ w'.cell? ⟨r, 1, none⟩ = some (.int .i64 i.lo.d) ∧ w'.cell? ⟨r, 2, none⟩ = some (.bool i.lo.c) ∧ w.heap.size < w'.heap.size ∧ r < w'.heap.size ∧ Hid (Below wb.heap.size wb w'))
      (first | exact E0.out | exact Sq11.drewN E0.out 1 | exact Sq11.go ‹_› ‹_› | assumption)
      (first | (go_at_call 106; refine (HC2.out _).mono ?_; rintro e w30 ⟨rfl, hb⟩) | fail)
    have E2 : Sq11 w.heap.size r 0 1 2 n d c i.lo.n i.lo.d i.lo.c wb w30 := by assumption
    obtain ⟨IV, BL⟩ := HBR.out _ E2.2.2.2.2.2.2.2.2.out
    have f0 := IV.froz 0; have f1 := IV.froz 1; have f2 := IV.froz 2
    obtain ⟨z0, z1, z2, z3, z4, z5, z6, z7, _⟩ := E2
    have HIV := Lib.hid IV; have HBL := Lib.hid BL; clear IV BL
    clear E0 HBR x0 x1 x2 x3 x4 x5 x6 x7 HC2
    go_wp2_with fail
    go_end0
    rw [HT.out]
    exact ⟨rfl, HIV.out, HBL.out⟩
  · have HCV : Hid (cmpI (n * i.lo.d) (i.lo.n * d) = 0) := Lib.hid ((cmpI_zero _ _).2 k)
    cases c with
    | false =>
      have HT := Lib.hid (HZ.out k rfl)
      clear k HY HZ HN1 HN2
      have HC2 := HC; rw [show cmpI (n * i.lo.d) (i.lo.n * d) = 0 from HCV.out] at HC2; clear HC HCV
      subst hwb
      obtain ⟨x0, x1, x2, x3, x4, x5, x6, x7, _⟩ := E0.out
      go_enter Try.func104, Try.ntmps104
      go_wp2_with fail
      generalize World.alloc w _ = wb at *
      go_region_held3 (fun w' => w'.cell? ⟨w.heap.size, 0, none⟩ = some (.int .i64 n) ∧ w'.cell? ⟨w.heap.size, 1, none⟩ = some (.int .i64 d) ∧ w'.cell? ⟨w.heap.size, 2, none⟩ = some (.bool false) ∧ w'.cell? ⟨r, 0, none⟩ = some (.int .i64 i.lo.n) ∧ w'.cell? ⟨r, 1, none⟩ = some (.int .i64 i.lo.d) ∧ w'.cell? ⟨r, 2, none⟩ = some (.bool i.lo.c) ∧ w.heap.size < w'.heap.size ∧ r < w'.heap.size ∧ Hid (Below wb.heap.size wb w'))
        (first | exact E0.out | exact Sq11.drewN E0.out 1 | exact Sq11.go ‹_› ‹_› | assumption)
        (first | (go_at_call 106; refine (HC2.out _).mono ?_; rintro e w30 ⟨rfl, hb⟩) | fail)
      have E2 : Sq11 w.heap.size r 0 1 2 n d false i.lo.n i.lo.d i.lo.c wb w30 := by assumption
      obtain ⟨IV, BL⟩ := HBR.out _ E2.2.2.2.2.2.2.2.2.out
      have f0 := IV.froz 0; have f1 := IV.froz 1; have f2 := IV.froz 2
      obtain ⟨z0, z1, z2, z3, z4, z5, z6, z7, _⟩ := E2
      have HIV := Lib.hid IV; have HBL := Lib.hid BL; clear IV BL
      clear E0 HBR x0 x1 x2 x3 x4 x5 x6 x7 HC2
      go_wp2_with fail
      go_end0
      rw [HT.out]
      exact ⟨rfl, HIV.out.setlo ⟨n, d, false⟩, below_set3 HBL.out (Nat.le_refl _) _ _ _ _ _ _⟩
    | true =>
      have HT := Lib.hid (HN2.out k rfl)
      clear k HY HZ HN1 HN2
      have HC2 := HC; rw [show cmpI (n * i.lo.d) (i.lo.n * d) = 0 from HCV.out] at HC2; clear HC HCV
      subst hwb
      obtain ⟨x0, x1, x2, x3, x4, x5, x6, x7, _⟩ := E0.out
      go_enter Try.func104, Try.ntmps104
      go_wp2_with fail
      generalize World.alloc w _ = wb at *
      go_region_held3 (fun w' => w'.cell? ⟨w.heap.size, 0, none⟩ = some (.int .i64 n) ∧ w'.cell? ⟨w.heap.size, 1, none⟩ = some (.int .i64 d) ∧ w'.cell? ⟨w.heap.size, 2, none⟩ = some (.bool true) ∧ w'.cell? ⟨r, 0, none⟩ = some (.int .i64 i.lo.n) ∧ w'.cell? ⟨r, 1, none⟩ = some (.int .i64 i.lo.d) ∧ w'.cell? ⟨r, 2, none⟩ = some (.bool i.lo.c) ∧ w.heap.size < w'.heap.size ∧ r < w'.heap.size ∧ Hid (Below wb.heap.size wb w'))
        (first | exact E0.out | exact Sq11.drewN E0.out 1 | exact Sq11.go ‹_› ‹_› | assumption)
        (first | (go_at_call 106; refine (HC2.out _).mono ?_; rintro e w30 ⟨rfl, hb⟩) | fail)
      have E2 : Sq11 w.heap.size r 0 1 2 n d true i.lo.n i.lo.d i.lo.c wb w30 := by assumption
      obtain ⟨IV, BL⟩ := HBR.out _ E2.2.2.2.2.2.2.2.2.out
      have f0 := IV.froz 0; have f1 := IV.froz 1; have f2 := IV.froz 2
      obtain ⟨z0, z1, z2, z3, z4, z5, z6, z7, _⟩ := E2
      have HIV := Lib.hid IV; have HBL := Lib.hid BL; clear IV BL
      clear E0 HBR x0 x1 x2 x3 x4 x5 x6 x7 HC2
      go_wp2_with fail
      go_end0
      rw [HT.out]
      exact ⟨rfl, HIV.out, HBL.out⟩
  · have HCV : Hid (cmpI (n * i.lo.d) (i.lo.n * d) = 1) := Lib.hid (by unfold cmpI; rw [if_neg (by omega), if_pos k])
    have HT := Lib.hid (HY.out k)
    clear k HY HZ HN1 HN2
    have HC2 := HC; rw [show cmpI (n * i.lo.d) (i.lo.n * d) = 1 from HCV.out] at HC2; clear HC HCV
    subst hwb
    obtain ⟨x0, x1, x2, x3, x4, x5, x6, x7, _⟩ := E0.out
    go_enter Try.func104, Try.ntmps104
    go_wp2_with fail
    generalize World.alloc w _ = wb at *
    go_region_held3 (fun w' => w'.cell? ⟨w.heap.size, 0, none⟩ = some (.int .i64 n) ∧ w'.cell? ⟨w.heap.size, 1, none⟩ = some (.int .i64 d) ∧ w'.cell? ⟨w.heap.size, 2, none⟩ = some (.bool c) ∧ w'.cell? ⟨r, 0, none⟩ = some (.int .i64 i.lo.n) ∧ w'.cell? ⟨r, 1, none⟩ = some (.int .i64 i.lo.d) ∧ w'.cell? ⟨r, 2, none⟩ = some (.bool i.lo.c) ∧ w.heap.size < w'.heap.size ∧ r < w'.heap.size ∧ Hid (Below wb.heap.size wb w'))
      (first | exact E0.out | exact Sq11.drewN E0.out 1 | exact Sq11.go ‹_› ‹_› | assumption)
      (first | (go_at_call 106; refine (HC2.out _).mono ?_; rintro e w30 ⟨rfl, hb⟩) | fail)
    have E2 : Sq11 w.heap.size r 0 1 2 n d c i.lo.n i.lo.d i.lo.c wb w30 := by assumption
    obtain ⟨IV, BL⟩ := HBR.out _ E2.2.2.2.2.2.2.2.2.out
    have f0 := IV.froz 0; have f1 := IV.froz 1; have f2 := IV.froz 2
    obtain ⟨z0, z1, z2, z3, z4, z5, z6, z7, _⟩ := E2
    have HIV := Lib.hid IV; have HBL := Lib.hid BL; clear IV BL
    clear E0 HBR x0 x1 x2 x3 x4 x5 x6 x7 HC2
    go_wp2_with fail
    go_end0
    rw [HT.out]
    exact ⟨rfl, HIV.out.setlo ⟨n, d, c⟩, below_set3 HBL.out (Nat.le_refl _) _ _ _ _ _ _⟩
set_option maxHeartbeats 8000000 in
theorem sbef_nd (r : Nat) (i : Iv) (n d : Int) (c : Bool) (w : World) (hr : IvAt w r i) (hi : IvIn i) (hb : BdIn ⟨n, d, c⟩) : Calls Try.prog 105 #[.pointer (some ⟨r, 0, none⟩), .agg #[.int .i64 n, .int .i64 d, .bool c]] w (NarIs r ⟨i.lo, beforeB i.hi ⟨n, d, c⟩⟩ w) := by
  obtain ⟨wb, hwb⟩ : ∃ wb, wb = w.alloc (.cells #[.int .i64 n, .int .i64 d, .bool c] 90) := ⟨_, rfl⟩
  have hA : Below w.heap.size w wb := by rw [hwb]; exact (Below.refl _ _).alloc (Nat.le_refl _) _
  have hR := hr.go hA
  have hg := heap_alloc_new w (.cells #[.int .i64 n, .int .i64 d, .bool c] 90)
  rw [← hwb] at hg
  have E0 : Hid (Sq11 w.heap.size r 3 4 5 n d c i.hi.n i.hi.d i.hi.c wb wb) := Lib.hid ⟨by rw [Lib.cell_of_heap hg]; rfl, by rw [Lib.cell_of_heap hg]; rfl, by rw [Lib.cell_of_heap hg]; rfl, hR.c3, hR.c4, hR.c5, (Array.getElem?_eq_some_iff.1 hg).1, hR.lt, Lib.hid (Below.refl _ _)⟩
  have HC := Lib.hid (fun w' => scmp_any ⟨n, d, c⟩ i.hi hb hi.2 w')
  have HBR : Hid (∀ w', Below wb.heap.size wb w' → IvAt w' r i ∧ Below r w w') := Lib.hid (fun w' h => ⟨hR.go h, (hA.mono (Nat.le_of_lt hr.lt)).trans (h.mono (Nat.le_trans (Nat.le_of_lt hr.lt) hA.size))⟩)
  have HY : Hid (n * i.hi.d < i.hi.n * d → beforeB i.hi ⟨n, d, c⟩ = ⟨n, d, c⟩) := Lib.hid (fun h => by unfold beforeB; rw [if_pos (Or.inl h)])
  have HZ : Hid (n * i.hi.d = i.hi.n * d → c = false → beforeB i.hi ⟨n, d, c⟩ = ⟨n, d, c⟩) := Lib.hid (fun h k => by unfold beforeB; rw [if_pos (Or.inr ⟨h, k⟩)])
  have HN1 : Hid (i.hi.n * d < n * i.hi.d → beforeB i.hi ⟨n, d, c⟩ = i.hi) := Lib.hid (fun h => by unfold beforeB; rw [if_neg (by rintro (k | ⟨k, _⟩) <;> simp only at k <;> omega)])
  have HN2 : Hid (n * i.hi.d = i.hi.n * d → c = true → beforeB i.hi ⟨n, d, c⟩ = i.hi) := Lib.hid (fun h k => by unfold beforeB; rw [if_neg (by rintro (q | ⟨_, q⟩); (simp only at q; omega); (simp only at q; rw [k] at q; cases q))])
  clear hr hi hb hA hR hg
  rcases Int.lt_trichotomy (n * i.hi.d) (i.hi.n * d) with k | k | k
  · have HCV : Hid (cmpI (n * i.hi.d) (i.hi.n * d) = -1) := Lib.hid (by unfold cmpI; rw [if_pos k])
    have HT := Lib.hid (HY.out k)
    clear k HY HZ HN1 HN2
    have HC2 := HC; rw [show cmpI (n * i.hi.d) (i.hi.n * d) = -1 from HCV.out] at HC2; clear HC HCV
    subst hwb
    obtain ⟨x0, x1, x2, x3, x4, x5, x6, x7, _⟩ := E0.out
    go_enter Try.func105, Try.ntmps105
    go_wp2_with fail
    generalize World.alloc w _ = wb at *
    go_region_held3 (fun w' => w'.cell? ⟨w.heap.size, 0, none⟩ = some (.int .i64 n) ∧ w'.cell? ⟨w.heap.size, 1, none⟩ = some (.int .i64 d) ∧ w'.cell? ⟨w.heap.size, 2, none⟩ = some (.bool c) ∧ w'.cell? ⟨r, 3, none⟩ = some (.int .i64 i.hi.n) ∧ w'.cell? ⟨r, 4, none⟩ = some (.int .i64 i.hi.d) ∧ w'.cell? ⟨r, 5, none⟩ = some (.bool i.hi.c) ∧ w.heap.size < w'.heap.size ∧ r < w'.heap.size ∧ Hid (Below wb.heap.size wb w'))
      (first | exact E0.out | exact Sq11.drewN E0.out 1 | exact Sq11.go ‹_› ‹_› | assumption)
      (first | (go_at_call 106; refine (HC2.out _).mono ?_; rintro e w30 ⟨rfl, hb⟩) | fail)
    have E2 : Sq11 w.heap.size r 3 4 5 n d c i.hi.n i.hi.d i.hi.c wb w30 := by assumption
    obtain ⟨IV, BL⟩ := HBR.out _ E2.2.2.2.2.2.2.2.2.out
    have f0 := IV.froz 3; have f1 := IV.froz 4; have f2 := IV.froz 5
    obtain ⟨z0, z1, z2, z3, z4, z5, z6, z7, _⟩ := E2
    have HIV := Lib.hid IV; have HBL := Lib.hid BL; clear IV BL
    clear E0 HBR x0 x1 x2 x3 x4 x5 x6 x7 HC2
    go_wp2_with fail
    go_end0
    rw [HT.out]
    exact ⟨rfl, HIV.out.sethi ⟨n, d, c⟩, below_set3 HBL.out (Nat.le_refl _) _ _ _ _ _ _⟩
  · have HCV : Hid (cmpI (n * i.hi.d) (i.hi.n * d) = 0) := Lib.hid ((cmpI_zero _ _).2 k)
    cases c with
    | false =>
      have HT := Lib.hid (HZ.out k rfl)
      clear k HY HZ HN1 HN2
      have HC2 := HC; rw [show cmpI (n * i.hi.d) (i.hi.n * d) = 0 from HCV.out] at HC2; clear HC HCV
      subst hwb
      obtain ⟨x0, x1, x2, x3, x4, x5, x6, x7, _⟩ := E0.out
      go_enter Try.func105, Try.ntmps105
      go_wp2_with fail
      generalize World.alloc w _ = wb at *
      go_region_held3 (fun w' => w'.cell? ⟨w.heap.size, 0, none⟩ = some (.int .i64 n) ∧ w'.cell? ⟨w.heap.size, 1, none⟩ = some (.int .i64 d) ∧ w'.cell? ⟨w.heap.size, 2, none⟩ = some (.bool false) ∧ w'.cell? ⟨r, 3, none⟩ = some (.int .i64 i.hi.n) ∧ w'.cell? ⟨r, 4, none⟩ = some (.int .i64 i.hi.d) ∧ w'.cell? ⟨r, 5, none⟩ = some (.bool i.hi.c) ∧ w.heap.size < w'.heap.size ∧ r < w'.heap.size ∧ Hid (Below wb.heap.size wb w'))
        (first | exact E0.out | exact Sq11.drewN E0.out 1 | exact Sq11.go ‹_› ‹_› | assumption)
        (first | (go_at_call 106; refine (HC2.out _).mono ?_; rintro e w30 ⟨rfl, hb⟩) | fail)
      have E2 : Sq11 w.heap.size r 3 4 5 n d false i.hi.n i.hi.d i.hi.c wb w30 := by assumption
      obtain ⟨IV, BL⟩ := HBR.out _ E2.2.2.2.2.2.2.2.2.out
      have f0 := IV.froz 3; have f1 := IV.froz 4; have f2 := IV.froz 5
      obtain ⟨z0, z1, z2, z3, z4, z5, z6, z7, _⟩ := E2
      have HIV := Lib.hid IV; have HBL := Lib.hid BL; clear IV BL
      clear E0 HBR x0 x1 x2 x3 x4 x5 x6 x7 HC2
      go_wp2_with fail
      go_end0
      rw [HT.out]
      exact ⟨rfl, HIV.out.sethi ⟨n, d, false⟩, below_set3 HBL.out (Nat.le_refl _) _ _ _ _ _ _⟩
    | true =>
      have HT := Lib.hid (HN2.out k rfl)
      clear k HY HZ HN1 HN2
      have HC2 := HC; rw [show cmpI (n * i.hi.d) (i.hi.n * d) = 0 from HCV.out] at HC2; clear HC HCV
      subst hwb
      obtain ⟨x0, x1, x2, x3, x4, x5, x6, x7, _⟩ := E0.out
      go_enter Try.func105, Try.ntmps105
      go_wp2_with fail
      generalize World.alloc w _ = wb at *
      go_region_held3 (fun w' => w'.cell? ⟨w.heap.size, 0, none⟩ = some (.int .i64 n) ∧ w'.cell? ⟨w.heap.size, 1, none⟩ = some (.int .i64 d) ∧ w'.cell? ⟨w.heap.size, 2, none⟩ = some (.bool true) ∧ w'.cell? ⟨r, 3, none⟩ = some (.int .i64 i.hi.n) ∧ w'.cell? ⟨r, 4, none⟩ = some (.int .i64 i.hi.d) ∧ w'.cell? ⟨r, 5, none⟩ = some (.bool i.hi.c) ∧ w.heap.size < w'.heap.size ∧ r < w'.heap.size ∧ Hid (Below wb.heap.size wb w'))
        (first | exact E0.out | exact Sq11.drewN E0.out 1 | exact Sq11.go ‹_› ‹_› | assumption)
        (first | (go_at_call 106; refine (HC2.out _).mono ?_; rintro e w30 ⟨rfl, hb⟩) | fail)
      have E2 : Sq11 w.heap.size r 3 4 5 n d true i.hi.n i.hi.d i.hi.c wb w30 := by assumption
      obtain ⟨IV, BL⟩ := HBR.out _ E2.2.2.2.2.2.2.2.2.out
      have f0 := IV.froz 3; have f1 := IV.froz 4; have f2 := IV.froz 5
      obtain ⟨z0, z1, z2, z3, z4, z5, z6, z7, _⟩ := E2
      have HIV := Lib.hid IV; have HBL := Lib.hid BL; clear IV BL
      clear E0 HBR x0 x1 x2 x3 x4 x5 x6 x7 HC2
      go_wp2_with fail
      go_end0
      rw [HT.out]
      exact ⟨rfl, HIV.out, HBL.out⟩
  · have HCV : Hid (cmpI (n * i.hi.d) (i.hi.n * d) = 1) := Lib.hid (by unfold cmpI; rw [if_neg (by omega), if_pos k])
    have HT := Lib.hid (HN1.out k)
    clear k HY HZ HN1 HN2
    have HC2 := HC; rw [show cmpI (n * i.hi.d) (i.hi.n * d) = 1 from HCV.out] at HC2; clear HC HCV
    subst hwb
    obtain ⟨x0, x1, x2, x3, x4, x5, x6, x7, _⟩ := E0.out
    go_enter Try.func105, Try.ntmps105
    go_wp2_with fail
    generalize World.alloc w _ = wb at *
    go_region_held3 (fun w' => w'.cell? ⟨w.heap.size, 0, none⟩ = some (.int .i64 n) ∧ w'.cell? ⟨w.heap.size, 1, none⟩ = some (.int .i64 d) ∧ w'.cell? ⟨w.heap.size, 2, none⟩ = some (.bool c) ∧ w'.cell? ⟨r, 3, none⟩ = some (.int .i64 i.hi.n) ∧ w'.cell? ⟨r, 4, none⟩ = some (.int .i64 i.hi.d) ∧ w'.cell? ⟨r, 5, none⟩ = some (.bool i.hi.c) ∧ w.heap.size < w'.heap.size ∧ r < w'.heap.size ∧ Hid (Below wb.heap.size wb w'))
      (first | exact E0.out | exact Sq11.drewN E0.out 1 | exact Sq11.go ‹_› ‹_› | assumption)
      (first | (go_at_call 106; refine (HC2.out _).mono ?_; rintro e w30 ⟨rfl, hb⟩) | fail)
    have E2 : Sq11 w.heap.size r 3 4 5 n d c i.hi.n i.hi.d i.hi.c wb w30 := by assumption
    obtain ⟨IV, BL⟩ := HBR.out _ E2.2.2.2.2.2.2.2.2.out
    have f0 := IV.froz 3; have f1 := IV.froz 4; have f2 := IV.froz 5
    obtain ⟨z0, z1, z2, z3, z4, z5, z6, z7, _⟩ := E2
    have HIV := Lib.hid IV; have HBL := Lib.hid BL; clear IV BL
    clear E0 HBR x0 x1 x2 x3 x4 x5 x6 x7 HC2
    go_wp2_with fail
    go_end0
    rw [HT.out]
    exact ⟨rfl, HIV.out, HBL.out⟩
end Go.Proofs.Ytdnoadngfkiabaa
namespace Go.Proofs.Ytdnoadngfkiabaa
open Go.RowKit

/-- what some reads. -/
def Si11 (r : Nat) (i : Iv) (w0 w : World) : Prop := w.cell? ⟨r, 0, none⟩ = some (.int .i64 i.lo.n) ∧ w.cell? ⟨r, 1, none⟩ = some (.int .i64 i.lo.d) ∧ w.cell? ⟨r, 2, none⟩ = some (.bool i.lo.c) ∧ w.cell? ⟨r, 3, none⟩ = some (.int .i64 i.hi.n) ∧ w.cell? ⟨r, 4, none⟩ = some (.int .i64 i.hi.d) ∧ w.cell? ⟨r, 5, none⟩ = some (.bool i.hi.c) ∧ r < w.heap.size ∧ Hid (Below w0.heap.size w0 w)
theorem Si11.go {r : Nat} {i : Iv} {w0 w w' : World} (h : Si11 r i w0 w) (hb : Below w.heap.size w w') : Si11 r i w0 w' := by
  obtain ⟨h0, h1, h2, h3, h4, h5, h6, h8⟩ := h
  have cp := fun k => hb.cell (p := ⟨r, k, none⟩) h6
  exact ⟨(cp _).trans h0, (cp _).trans h1, (cp _).trans h2, (cp _).trans h3, (cp _).trans h4, (cp _).trans h5, Nat.lt_of_lt_of_le h6 hb.size, Lib.hid (h8.out.trans (hb.mono h8.out.size))⟩
theorem Si11.drewN {r : Nat} {i : Iv} {w0 w : World} (h : Si11 r i w0 w) (k : Nat) : Si11 r i w0 (w.drewN k) := h.go (below_drewN (Below.refl _ _) k)
set_option maxHeartbeats 8000000 in
theorem ssome_any (r : Nat) (i : Iv) (w : World) (hr : IvAt w r i) (hi : IvIn i) : Calls Try.prog 85 #[.pointer (some ⟨r, 0, none⟩)] w (BlIs (someB i) w) := by
  have E0 : Hid (Si11 r i w w) := Lib.hid ⟨hr.c0, hr.c1, hr.c2, hr.c3, hr.c4, hr.c5, hr.lt, Lib.hid (Below.refl _ _)⟩
  have HC := Lib.hid (fun w' => scmp_any i.lo i.hi hi.1 hi.2 w')
  have HV : Hid (someB i = (decide (i.lo.n * i.hi.d < i.hi.n * i.lo.d) || (decide (i.lo.n * i.hi.d = i.hi.n * i.lo.d) && (i.lo.c && i.hi.c)))) := Lib.hid rfl
  clear hr hi
  obtain ⟨⟨n, d, c⟩, ⟨n2, d2, c2⟩⟩ := i
  simp only at HC HV
  rcases Int.lt_trichotomy (n * d2) (n2 * d) with k | k | k
  · have HCV : Hid (cmpI (n * d2) (n2 * d) = -1) := Lib.hid (by unfold cmpI; rw [if_pos k])
    have HT := Lib.hid (HV.out.trans (b := _) (c := true) (by rw [decide_eq_true k, Bool.true_or]))
    clear k
    have Hc2 := HC; rw [show cmpI (n * d2) (n2 * d) = -1 from HCV.out] at Hc2; clear HC HCV
    rw [HT.out]; clear HT HV
    obtain ⟨x0, x1, x2, x3, x4, x5, x6, _⟩ := E0.out
    simp only at x0 x1 x2 x3 x4 x5
    go_enter Try.func85, Try.ntmps85
    go_wp2_with fail
    go_region_held3 (fun w' => w'.cell? ⟨r, 0, none⟩ = some (.int .i64 n) ∧ w'.cell? ⟨r, 1, none⟩ = some (.int .i64 d) ∧ w'.cell? ⟨r, 2, none⟩ = some (.bool c) ∧ w'.cell? ⟨r, 3, none⟩ = some (.int .i64 n2) ∧ w'.cell? ⟨r, 4, none⟩ = some (.int .i64 d2) ∧ w'.cell? ⟨r, 5, none⟩ = some (.bool c2) ∧ r < w'.heap.size ∧ Hid (Below w.heap.size w w'))
      (first | exact E0.out | exact Si11.drewN E0.out 1 | exact Si11.go (i := ⟨⟨n, d, c⟩, ⟨n2, d2, c2⟩⟩) ‹_› ‹_› | assumption)
      (first | (go_at_call 106; refine (Hc2.out _).mono ?_; rintro e w30 ⟨rfl, hb⟩) | fail)
    have E2 : Si11 r ⟨⟨n, d, c⟩, ⟨n2, d2, c2⟩⟩ w w30 := by assumption
    obtain ⟨z0, z1, z2, z3, z4, z5, z6, z8⟩ := E2
    simp only at z0 z1 z2 z3 z4 z5
    clear E0 x0 x1 x2 x3 x4 x5 x6 Hc2
    go_wp2_with fail
    go_ret
    exact ⟨rfl, z8.out⟩
  · have HCV : Hid (cmpI (n * d2) (n2 * d) = 0) := Lib.hid ((cmpI_zero _ _).2 k)
    have HT0 := Lib.hid (HV.out.trans (b := _) (c := (c && c2)) (by rw [decide_eq_true k, decide_eq_false (by omega), Bool.false_or, Bool.true_and]))
    clear k
    cases c with
    | false =>
      cases c2 with
      | false =>
        have HT : Hid (_ = false) := HT0
        clear HT0
        have Hfalse := HC; rw [show cmpI (n * d2) (n2 * d) = 0 from HCV.out] at Hfalse; clear HC HCV
        rw [HT.out]; clear HT HV
        obtain ⟨x0, x1, x2, x3, x4, x5, x6, _⟩ := E0.out
        simp only at x0 x1 x2 x3 x4 x5
        go_enter Try.func85, Try.ntmps85
        go_wp2_with fail
        go_region_held3 (fun w' => w'.cell? ⟨r, 0, none⟩ = some (.int .i64 n) ∧ w'.cell? ⟨r, 1, none⟩ = some (.int .i64 d) ∧ w'.cell? ⟨r, 2, none⟩ = some (.bool false) ∧ w'.cell? ⟨r, 3, none⟩ = some (.int .i64 n2) ∧ w'.cell? ⟨r, 4, none⟩ = some (.int .i64 d2) ∧ w'.cell? ⟨r, 5, none⟩ = some (.bool false) ∧ r < w'.heap.size ∧ Hid (Below w.heap.size w w'))
          (first | exact E0.out | exact Si11.drewN E0.out 1 | exact Si11.go (i := ⟨⟨n, d, false⟩, ⟨n2, d2, false⟩⟩) ‹_› ‹_› | assumption)
          (first | (go_at_call 106; refine (Hfalse.out _).mono ?_; rintro e w30 ⟨rfl, hb⟩) | fail)
        have E2 : Si11 r ⟨⟨n, d, false⟩, ⟨n2, d2, false⟩⟩ w w30 := by assumption
        obtain ⟨z0, z1, z2, z3, z4, z5, z6, z8⟩ := E2
        simp only at z0 z1 z2 z3 z4 z5
        clear E0 x0 x1 x2 x3 x4 x5 x6 Hfalse
        go_wp2_with fail
        go_ret
        exact ⟨rfl, z8.out⟩
      | true =>
        have HT : Hid (_ = false) := HT0
        clear HT0
        have Htrue := HC; rw [show cmpI (n * d2) (n2 * d) = 0 from HCV.out] at Htrue; clear HC HCV
        rw [HT.out]; clear HT HV
        obtain ⟨x0, x1, x2, x3, x4, x5, x6, _⟩ := E0.out
        simp only at x0 x1 x2 x3 x4 x5
        go_enter Try.func85, Try.ntmps85
        go_wp2_with fail
        go_region_held3 (fun w' => w'.cell? ⟨r, 0, none⟩ = some (.int .i64 n) ∧ w'.cell? ⟨r, 1, none⟩ = some (.int .i64 d) ∧ w'.cell? ⟨r, 2, none⟩ = some (.bool false) ∧ w'.cell? ⟨r, 3, none⟩ = some (.int .i64 n2) ∧ w'.cell? ⟨r, 4, none⟩ = some (.int .i64 d2) ∧ w'.cell? ⟨r, 5, none⟩ = some (.bool true) ∧ r < w'.heap.size ∧ Hid (Below w.heap.size w w'))
          (first | exact E0.out | exact Si11.drewN E0.out 1 | exact Si11.go (i := ⟨⟨n, d, false⟩, ⟨n2, d2, true⟩⟩) ‹_› ‹_› | assumption)
          (first | (go_at_call 106; refine (Htrue.out _).mono ?_; rintro e w30 ⟨rfl, hb⟩) | fail)
        have E2 : Si11 r ⟨⟨n, d, false⟩, ⟨n2, d2, true⟩⟩ w w30 := by assumption
        obtain ⟨z0, z1, z2, z3, z4, z5, z6, z8⟩ := E2
        simp only at z0 z1 z2 z3 z4 z5
        clear E0 x0 x1 x2 x3 x4 x5 x6 Htrue
        go_wp2_with fail
        go_ret
        exact ⟨rfl, z8.out⟩
    | true =>
      cases c2 with
      | false =>
        have HT : Hid (_ = false) := HT0
        clear HT0
        have Hfalse := HC; rw [show cmpI (n * d2) (n2 * d) = 0 from HCV.out] at Hfalse; clear HC HCV
        rw [HT.out]; clear HT HV
        obtain ⟨x0, x1, x2, x3, x4, x5, x6, _⟩ := E0.out
        simp only at x0 x1 x2 x3 x4 x5
        go_enter Try.func85, Try.ntmps85
        go_wp2_with fail
        go_region_held3 (fun w' => w'.cell? ⟨r, 0, none⟩ = some (.int .i64 n) ∧ w'.cell? ⟨r, 1, none⟩ = some (.int .i64 d) ∧ w'.cell? ⟨r, 2, none⟩ = some (.bool true) ∧ w'.cell? ⟨r, 3, none⟩ = some (.int .i64 n2) ∧ w'.cell? ⟨r, 4, none⟩ = some (.int .i64 d2) ∧ w'.cell? ⟨r, 5, none⟩ = some (.bool false) ∧ r < w'.heap.size ∧ Hid (Below w.heap.size w w'))
          (first | exact E0.out | exact Si11.drewN E0.out 1 | exact Si11.go (i := ⟨⟨n, d, true⟩, ⟨n2, d2, false⟩⟩) ‹_› ‹_› | assumption)
          (first | (go_at_call 106; refine (Hfalse.out _).mono ?_; rintro e w30 ⟨rfl, hb⟩) | fail)
        have E2 : Si11 r ⟨⟨n, d, true⟩, ⟨n2, d2, false⟩⟩ w w30 := by assumption
        obtain ⟨z0, z1, z2, z3, z4, z5, z6, z8⟩ := E2
        simp only at z0 z1 z2 z3 z4 z5
        clear E0 x0 x1 x2 x3 x4 x5 x6 Hfalse
        go_wp2_with fail
        go_ret
        exact ⟨rfl, z8.out⟩
      | true =>
        have HT : Hid (_ = true) := HT0
        clear HT0
        have Htrue := HC; rw [show cmpI (n * d2) (n2 * d) = 0 from HCV.out] at Htrue; clear HC HCV
        rw [HT.out]; clear HT HV
        obtain ⟨x0, x1, x2, x3, x4, x5, x6, _⟩ := E0.out
        simp only at x0 x1 x2 x3 x4 x5
        go_enter Try.func85, Try.ntmps85
        go_wp2_with fail
        go_region_held3 (fun w' => w'.cell? ⟨r, 0, none⟩ = some (.int .i64 n) ∧ w'.cell? ⟨r, 1, none⟩ = some (.int .i64 d) ∧ w'.cell? ⟨r, 2, none⟩ = some (.bool true) ∧ w'.cell? ⟨r, 3, none⟩ = some (.int .i64 n2) ∧ w'.cell? ⟨r, 4, none⟩ = some (.int .i64 d2) ∧ w'.cell? ⟨r, 5, none⟩ = some (.bool true) ∧ r < w'.heap.size ∧ Hid (Below w.heap.size w w'))
          (first | exact E0.out | exact Si11.drewN E0.out 1 | exact Si11.go (i := ⟨⟨n, d, true⟩, ⟨n2, d2, true⟩⟩) ‹_› ‹_› | assumption)
          (first | (go_at_call 106; refine (Htrue.out _).mono ?_; rintro e w30 ⟨rfl, hb⟩) | fail)
        have E2 : Si11 r ⟨⟨n, d, true⟩, ⟨n2, d2, true⟩⟩ w w30 := by assumption
        obtain ⟨z0, z1, z2, z3, z4, z5, z6, z8⟩ := E2
        simp only at z0 z1 z2 z3 z4 z5
        clear E0 x0 x1 x2 x3 x4 x5 x6 Htrue
        go_wp2_with fail
        go_ret
        exact ⟨rfl, z8.out⟩
  · have HCV : Hid (cmpI (n * d2) (n2 * d) = 1) := Lib.hid (by unfold cmpI; rw [if_neg (by omega), if_pos k])
    have HT := Lib.hid (HV.out.trans (b := _) (c := false) (by rw [decide_eq_false (by omega), decide_eq_false (by omega), Bool.false_or, Bool.false_and]))
    clear k
    have Hc2 := HC; rw [show cmpI (n * d2) (n2 * d) = 1 from HCV.out] at Hc2; clear HC HCV
    rw [HT.out]; clear HT HV
    obtain ⟨x0, x1, x2, x3, x4, x5, x6, _⟩ := E0.out
    simp only at x0 x1 x2 x3 x4 x5
    go_enter Try.func85, Try.ntmps85
    go_wp2_with fail
    go_region_held3 (fun w' => w'.cell? ⟨r, 0, none⟩ = some (.int .i64 n) ∧ w'.cell? ⟨r, 1, none⟩ = some (.int .i64 d) ∧ w'.cell? ⟨r, 2, none⟩ = some (.bool c) ∧ w'.cell? ⟨r, 3, none⟩ = some (.int .i64 n2) ∧ w'.cell? ⟨r, 4, none⟩ = some (.int .i64 d2) ∧ w'.cell? ⟨r, 5, none⟩ = some (.bool c2) ∧ r < w'.heap.size ∧ Hid (Below w.heap.size w w'))
      (first | exact E0.out | exact Si11.drewN E0.out 1 | exact Si11.go (i := ⟨⟨n, d, c⟩, ⟨n2, d2, c2⟩⟩) ‹_› ‹_› | assumption)
      (first | (go_at_call 106; refine (Hc2.out _).mono ?_; rintro e w30 ⟨rfl, hb⟩) | fail)
    have E2 : Si11 r ⟨⟨n, d, c⟩, ⟨n2, d2, c2⟩⟩ w w30 := by assumption
    obtain ⟨z0, z1, z2, z3, z4, z5, z6, z8⟩ := E2
    simp only at z0 z1 z2 z3 z4 z5
    clear E0 x0 x1 x2 x3 x4 x5 x6 Hc2
    go_wp2_with fail
    go_ret
    exact ⟨rfl, z8.out⟩
set_option maxHeartbeats 8000000 in
theorem snar_any (r : Nat) (i : Iv) (p d f g : Int) (w : World) (hr : IvAt w r i) (hi : IvIn i) (hp : 0 ≤ p ∧ p ≤ 1048576) (hd : -1048576 ≤ d ∧ d ≤ 1048576) (hf : 0 ≤ f ∧ f ≤ 1048576) (hg : 0 ≤ g ∧ g ≤ 1048576) : Calls Try.prog 84 #[.pointer (some ⟨r, 0, none⟩), .int .i64 p, .int .i64 d, .int .i64 f, .int .i64 g] w (NarIs r (nar i p d f g) w) := by
  have HR := Lib.hid hr; clear hr
  rcases Int.lt_trichotomy d 0 with k | k | k
  · have e : nar i p d f g = ⟨afterB i.lo ⟨p - g, -d, false⟩, beforeB i.hi ⟨p - f, -d, true⟩⟩ := by unfold nar; rw [if_neg (by omega), if_pos k]
    rw [e]; clear e
    have b1 : BdIn ⟨p - g, -d, false⟩ := by unfold BdIn; simp only; omega
    have b2 : BdIn ⟨p - f, -d, true⟩ := by unfold BdIn; simp only; omega
    have HA := Lib.hid (saft_nd r i (p - g) (-d) false w HR.out hi b1)
    have hi2 : IvIn ⟨afterB i.lo ⟨p - g, -d, false⟩, i.hi⟩ := ⟨after_in hi.1 b1, hi.2⟩
    have HB := Lib.hid (fun w' h => sbef_nd r ⟨afterB i.lo ⟨p - g, -d, false⟩, i.hi⟩ (p - f) (-d) true w' h hi2 b2)
    have c1 : ¬ 0 < d := by omega
    clear b1 b2 hi hi2
    go_enter Try.func84, Try.ntmps84
    go_wp2_with fail
    refine HA.out.mono ?_
    rintro e w1 ⟨rfl, hv, hb⟩
    have HB2 := Lib.hid (HB.out _ hv); have HBL := Lib.hid hb
    clear hv hb HB HA
    go_wp2_with fail
    refine HB2.out.mono ?_
    rintro e w2 ⟨rfl, hv, hb⟩
    have HV := Lib.hid hv; have HBL2 := Lib.hid (HBL.out.trans hb)
    clear hv hb HB2 HBL
    go_wp2_with fail
    go_end0
    exact ⟨rfl, HV.out, HBL2.out⟩
  · subst k
    by_cases c : p < f
    · have e : nar i p 0 f g = ⟨i.lo, beforeB i.hi ⟨0, 1, false⟩⟩ := by unfold nar; rw [if_neg (by omega), if_neg (by omega), if_pos (Or.inl c)]
      rw [e]; clear e
      have HA := Lib.hid (sbef_nd r i 0 1 false w HR.out hi (by unfold BdIn; simp only; omega))
      clear hi
      go_enter Try.func84, Try.ntmps84
      go_wp2_with fail
      refine HA.out.mono ?_
      rintro e w1 ⟨rfl, hv, hb⟩
      have HV := Lib.hid hv; have HBL := Lib.hid hb
      clear hv hb HA
      go_wp2_with fail
      go_end0
      exact ⟨rfl, HV.out, HBL.out⟩
    · by_cases c2 : g ≤ p
      · have e : nar i p 0 f g = ⟨i.lo, beforeB i.hi ⟨0, 1, false⟩⟩ := by unfold nar; rw [if_neg (by omega), if_neg (by omega), if_pos (Or.inr c2)]
        rw [e]; clear e
        have HA := Lib.hid (sbef_nd r i 0 1 false w HR.out hi (by unfold BdIn; simp only; omega))
        clear hi
        go_enter Try.func84, Try.ntmps84
        go_wp2_with fail
        refine HA.out.mono ?_
        rintro e w1 ⟨rfl, hv, hb⟩
        have HV := Lib.hid hv; have HBL := Lib.hid hb
        clear hv hb HA
        go_wp2_with fail
        go_end0
        exact ⟨rfl, HV.out, HBL.out⟩
      · have e : nar i p 0 f g = i := by unfold nar; rw [if_neg (by omega), if_neg (by omega), if_neg (by omega)]
        rw [e]; clear e hi
        go_enter Try.func84, Try.ntmps84
        go_wp2_with fail
        go_end0
        exact ⟨rfl, HR.out, Below.refl _ _⟩
  · have e : nar i p d f g = ⟨afterB i.lo ⟨f - p, d, true⟩, beforeB i.hi ⟨g - p, d, false⟩⟩ := by unfold nar; rw [if_pos k]
    rw [e]; clear e
    have b1 : BdIn ⟨f - p, d, true⟩ := by unfold BdIn; simp only; omega
    have b2 : BdIn ⟨g - p, d, false⟩ := by unfold BdIn; simp only; omega
    have HA := Lib.hid (saft_nd r i (f - p) d true w HR.out hi b1)
    have hi2 : IvIn ⟨afterB i.lo ⟨f - p, d, true⟩, i.hi⟩ := ⟨after_in hi.1 b1, hi.2⟩
    have HB := Lib.hid (fun w' h => sbef_nd r ⟨afterB i.lo ⟨f - p, d, true⟩, i.hi⟩ (g - p) d false w' h hi2 b2)
    clear b1 b2 hi hi2
    go_enter Try.func84, Try.ntmps84
    go_wp2_with fail
    refine HA.out.mono ?_
    rintro e w1 ⟨rfl, hv, hb⟩
    have HB2 := Lib.hid (HB.out _ hv); have HBL := Lib.hid hb
    clear hv hb HB HA
    go_wp2_with fail
    refine HB2.out.mono ?_
    rintro e w2 ⟨rfl, hv, hb⟩
    have HV := Lib.hid hv; have HBL2 := Lib.hid (HBL.out.trans hb)
    clear hv hb HB2 HBL
    go_wp2_with fail
    go_end0
    exact ⟨rfl, HV.out, HBL2.out⟩
end Go.Proofs.Ytdnoadngfkiabaa
namespace Go.Proofs.Ytdnoadngfkiabaa
open Go.RowKit

theorem meetB_append (i : Iv) (p v : V3) (l m : List Bx) : meetB i p v (l ++ m) = (meetB i p v l || meetB i p v m) := by unfold meetB; rw [List.any_append]
theorem meetB_one (i : Iv) (p v : V3) (b : Bx) : meetB i p v [b] = someB (nar3 i p v b) := by unfold meetB; simp
theorem meetB_in {i : Iv} {p v : V3} {l : List Bx} {b : Bx} (hb : b ∈ l) (h : someB (nar3 i p v b) = true) : meetB i p v l = true := by unfold meetB; exact List.any_eq_true.2 ⟨b, hb, h⟩
/-- what a round of meets reads: a point, a direction, a rectangle, a slab. -/
def Mt11 (g gv rb sb : Nat) (p v : V3) (q : Rc) (u : Sl) (w : World) : Prop := w.cell? ⟨g, 0, none⟩ = some (.int .i64 p.x) ∧ w.cell? ⟨g, 1, none⟩ = some (.int .i64 p.y) ∧ w.cell? ⟨g, 2, none⟩ = some (.int .i64 p.z) ∧ w.cell? ⟨gv, 0, none⟩ = some (.int .i64 v.x) ∧ w.cell? ⟨gv, 1, none⟩ = some (.int .i64 v.y) ∧ w.cell? ⟨gv, 2, none⟩ = some (.int .i64 v.z) ∧ w.cell? ⟨rb, 0, none⟩ = some (.int .i64 q.X0) ∧ w.cell? ⟨rb, 1, none⟩ = some (.int .i64 q.Y0) ∧ w.cell? ⟨rb, 2, none⟩ = some (.int .i64 q.X1) ∧ w.cell? ⟨rb, 3, none⟩ = some (.int .i64 q.Y1) ∧ w.cell? ⟨sb, 0, none⟩ = some (.int .i64 u.z0) ∧ w.cell? ⟨sb, 1, none⟩ = some (.int .i64 u.z1)
theorem Mt11.turn {g gv rb sb : Nat} {p v : V3} {q : Rc} {u : Sl} {r : Nat} {w w' : World} (h : Mt11 g gv rb sb p v q u w) (hb : Below r w w') (l0 : g < r) (l1 : gv < r) (l2 : rb < r) (l3 : sb < r) : Mt11 g gv rb sb p v q u w' := by
  obtain ⟨a0, a1, a2, a3, a4, a5, a6, a7, a8, a9, b0, b1⟩ := h
  have c0 := fun k => hb.cell (p := ⟨g, k, none⟩) l0
  have c1 := fun k => hb.cell (p := ⟨gv, k, none⟩) l1
  have c2 := fun k => hb.cell (p := ⟨rb, k, none⟩) l2
  have c3 := fun k => hb.cell (p := ⟨sb, k, none⟩) l3
  exact ⟨(c0 _).trans a0, (c0 _).trans a1, (c0 _).trans a2, (c1 _).trans a3, (c1 _).trans a4, (c1 _).trans a5, (c2 _).trans a6, (c2 _).trans a7, (c2 _).trans a8, (c2 _).trans a9, (c3 _).trans b0, (c3 _).trans b1⟩
theorem heap3 (w : World) (a b c : Obj) : (((w.alloc a).alloc b).alloc c).heap[w.heap.size]? = some a ∧ (((w.alloc a).alloc b).alloc c).heap[w.heap.size + 1]? = some b ∧ (((w.alloc a).alloc b).alloc c).heap[w.heap.size + 1 + 1]? = some c := by
  have k1 : Below (w.alloc a).heap.size (w.alloc a) (((w.alloc a).alloc b).alloc c) := ((Below.refl _ _).alloc (Nat.le_refl _) _).alloc (by simp) _
  have k2 : Below ((w.alloc a).alloc b).heap.size ((w.alloc a).alloc b) (((w.alloc a).alloc b).alloc c) := (Below.refl _ _).alloc (Nat.le_refl _) _
  have s1 : (w.alloc a).heap.size = w.heap.size + 1 := by simp
  have s2 : ((w.alloc a).alloc b).heap.size = w.heap.size + 1 + 1 := by simp
  have h0 := heap_alloc_new w a
  have h1 := heap_alloc_new (w.alloc a) b
  have h2 := heap_alloc_new ((w.alloc a).alloc b) c
  rw [s1] at h1
  rw [s2] at h2
  exact ⟨(k1.block _ (by rw [s1]; omega)).trans h0, (k2.block _ (by rw [s2]; omega)).trans h1, h2⟩
theorem heap2 (w : World) (a b : Obj) : ((w.alloc a).alloc b).heap[w.heap.size]? = some a ∧ ((w.alloc a).alloc b).heap[w.heap.size + 1]? = some b := by
  have k1 : Below (w.alloc a).heap.size (w.alloc a) ((w.alloc a).alloc b) := (Below.refl _ _).alloc (Nat.le_refl _) _
  have s1 : (w.alloc a).heap.size = w.heap.size + 1 := by simp
  have h0 := heap_alloc_new w a
  have h1 := heap_alloc_new (w.alloc a) b
  rw [s1] at h1
  exact ⟨(k1.block _ (by rw [s1]; omega)).trans h0, h1⟩
def VOk (v : V3) : Prop := (-1048576 ≤ v.x ∧ v.x ≤ 1048576) ∧ (-1048576 ≤ v.y ∧ v.y ≤ 1048576) ∧ (-1048576 ≤ v.z ∧ v.z ≤ 1048576)
/-- what lies behind a call of meets: its arguments' cells. -/
structure Ma11 (g gv gi : Nat) (p v : V3) (i : Iv) (W : World) : Prop where
  a0 : W.cell? ⟨g, 0, none⟩ = some (.int .i64 p.x)
  a1 : W.cell? ⟨g, 1, none⟩ = some (.int .i64 p.y)
  a2 : W.cell? ⟨g, 2, none⟩ = some (.int .i64 p.z)
  b0 : W.cell? ⟨gv, 0, none⟩ = some (.int .i64 v.x)
  b1 : W.cell? ⟨gv, 1, none⟩ = some (.int .i64 v.y)
  b2 : W.cell? ⟨gv, 2, none⟩ = some (.int .i64 v.z)
  c : IvAt W gi i
theorem nar3_in {i : Iv} (h : IvIn i) {p v : V3} {b : Bx} (hp : PtOk p) (hv : VOk v) (hb : BOk b) : IvIn (nar i p.x v.x b.r.X0 b.r.X1) ∧ IvIn (nar (nar i p.x v.x b.r.X0 b.r.X1) p.y v.y b.r.Y0 b.r.Y1) ∧ IvIn (nar3 i p v b) := by
  obtain ⟨⟨⟨x0, x1, x2⟩, y0, y1, y2⟩, z0, z1, z2⟩ := hb
  obtain ⟨p0, p1, p2⟩ := hp
  obtain ⟨v0, v1, v2⟩ := hv
  have k1 := nar_in h (p := p.x) (d := v.x) (f := b.r.X0) (e := b.r.X1) p0 v0 (by omega) (by omega)
  have k2 := nar_in k1 (p := p.y) (d := v.y) (f := b.r.Y0) (e := b.r.Y1) p1 v1 (by omega) (by omega)
  exact ⟨k1, k2, nar_in k2 (p := p.z) (d := v.z) (f := b.z0) (e := b.z1) (by omega) v2 (by omega) (by omega)⟩
set_option maxHeartbeats 40000000 in
theorem smeets_yes {A : Option Addr} {cap : Nat} {S : List Sl} {w : World} (p v : V3) (i : Iv) (h : SIn w A cap S) (hs : SolP S) (hp : PtOk p) (hv : VOk v) (hi : IvIn i) : Calls Try.prog 67 #[.slice A S.length cap, .agg #[.int .i64 p.x, .int .i64 p.y, .int .i64 p.z], .agg #[.int .i64 v.x, .int .i64 v.y, .int .i64 v.z], .agg #[.int .i64 i.lo.n, .int .i64 i.lo.d, .bool i.lo.c, .int .i64 i.hi.n, .int .i64 i.hi.d, .bool i.hi.c]] w (BlIs (meetB i p v (boxesS S)) w) := by
  have H1 := Lib.hid h.row
  have HS := Lib.hid hs
  have hlen := hs.len
  have HP := Lib.hid hp; have HVO := Lib.hid hv; have HI := Lib.hid hi
  clear h hs hp hv hi
  obtain ⟨W, hW⟩ : ∃ W, W = ((w.alloc (.cells #[.int .i64 p.x, .int .i64 p.y, .int .i64 p.z] 25)).alloc (.cells #[.int .i64 v.x, .int .i64 v.y, .int .i64 v.z] 25)).alloc (.cells #[.int .i64 i.lo.n, .int .i64 i.lo.d, .bool i.lo.c, .int .i64 i.hi.n, .int .i64 i.hi.d, .bool i.hi.c] 92) := ⟨_, rfl⟩
  have HW : Hid (Below w.heap.size w W) := Lib.hid (by rw [hW]; exact (((Below.refl _ _).alloc (Nat.le_refl _) _).alloc (by simp) _).alloc (by simp; omega) _)
  have HM : Hid (Ma11 w.heap.size (w.heap.size + 1) (w.heap.size + 1 + 1) p v i W) := Lib.hid (by
    rw [hW]
    obtain ⟨h0, h1, h2⟩ := heap3 w (.cells #[.int .i64 p.x, .int .i64 p.y, .int .i64 p.z] 25) (.cells #[.int .i64 v.x, .int .i64 v.y, .int .i64 v.z] 25) (.cells #[.int .i64 i.lo.n, .int .i64 i.lo.d, .bool i.lo.c, .int .i64 i.hi.n, .int .i64 i.hi.d, .bool i.hi.c] 92)
    exact ⟨by rw [Lib.cell_of_heap h0]; rfl, by rw [Lib.cell_of_heap h0]; rfl, by rw [Lib.cell_of_heap h0]; rfl, by rw [Lib.cell_of_heap h1]; rfl, by rw [Lib.cell_of_heap h1]; rfl, by rw [Lib.cell_of_heap h1]; rfl, h2⟩)
  have hgw : w.heap.size + 1 + 1 < W.heap.size := HM.out.c.lt
  go_enter Try.func67, Try.ntmps67
  go_wp2_with fail
  rw [← hW]
  clear hW
  have K0 : Hid (Below W.heap.size W W) := Lib.hid (Below.refl _ _)
  have hgo : w.heap.size < W.heap.size ∧ w.heap.size + 1 < W.heap.size := ⟨by omega, by omega⟩
  have HWs := Lib.hid HW.out.size
  generalize w.heap.size + 1 + 1 = gi at hgw HM ⊢
  generalize w.heap.size + 1 = gv at hgo HM ⊢
  obtain ⟨g, hg⟩ : ∃ g, g = w.heap.size := ⟨_, rfl⟩
  rw [← hg] at hgo HM
  simp only [← hg]
  obtain ⟨hgp, hgv⟩ := hgo
  clear hg
  go_loopw [17] (fun t wr => ∃ (k : Nat), k ≤ S.length ∧ t = .int .i64 k ∧ Hid (Below W.heap.size W wr) ∧ Hid (meetB i p v (boxesS (S.take k)) = false)) (fun t _ => S.length - (intOf t).toNat)
  case atStart => exact ⟨0, Nat.zero_le _, rfl, K0, Lib.hid rfl⟩
  case round =>
    clear K0
    obtain ⟨k, hk, rfl, HB, HT⟩ := hrel
    by_cases hlt : k < S.length
    · obtain ⟨b1, o1, rfl, hb1, hv1⟩ := H1.out (by omega)
      obtain ⟨x0, x1, Aj, cj, x2, hr⟩ := hv1 k hlt
      have HWR := Lib.hid (HW.out.trans (HB.out.mono HW.out.size))
      have wc := fun o => HWR.out.cell (p := ⟨b1, o, none⟩) hb1
      have x0 := (wc _).trans x0; have x1 := (wc _).trans x1; have x2 := (wc _).trans x2
      have hbw : b1 < wr.heap.size := Nat.lt_of_lt_of_le hb1 HWR.out.size
      have n0 : (0 : Int) ≤ (k : Int) := by omega
      have n1 : (k : Int) < (S.length : Int) := by omega
      have HN : Hid (boxesS (S.take (k + 1)) = boxesS (S.take k) ++ boxL S[k]) := Lib.hid (boxesS_next S k hlt)
      have hul := HS.out.rects _ (List.getElem_mem hlt)
      have HIN : Hid (∀ b ∈ boxL S[k], b ∈ boxesS S ∧ BOk b) := Lib.hid (fun b hb => by
        have : b ∈ boxesS S := List.mem_flatMap.2 ⟨_, List.getElem_mem hlt, hb⟩
        exact ⟨this, boxes_ok HS.out.form b this⟩)
      obtain ⟨u, hu⟩ : ∃ u, u = S[k] := ⟨_, rfl⟩
      rw [← hu] at x0 x1 x2 hr HN hul HIN
      have HRR := Lib.hid (hr.below HW.out)
      clear hu hv1 wc hr
      obtain ⟨wq, rfl⟩ : ∃ wq : World, wq = wr := ⟨_, rfl⟩
      obtain ⟨wo, hwo⟩ : ∃ wo : World, wo = wq.alloc (.cells #[.int .i64 u.z0, .int .i64 u.z1, .slice Aj u.ar.length cj] 50) := ⟨_, rfl⟩
      have HSA : Hid (SlAt wo wq.heap.size u Aj cj) := Lib.hid (by rw [hwo]; exact SlAt.new wq u Aj cj _ rfl)
      have hwr2 : wq.heap.size < wo.heap.size := HSA.out.lt
      have B1 : Hid (Below W.heap.size W wo) := Lib.hid (by rw [hwo]; exact HB.out.alloc HB.out.size _)
      have hWq := HB.out.size
      have HBQ := HB
      have s2 := HSA.out.c2
      clear HB HWR
      go_wp2_with fail
      rw [← hwo]
      clear hwo
      have B0 : Hid (meetB i p v ((boxL u).take 0) = false) := Lib.hid rfl
      go_loopw [24] (fun t w2 => ∃ (j : Nat), j ≤ u.ar.length ∧ t = .int .i64 j ∧ Hid (Below W.heap.size W w2) ∧ Hid (SlAt w2 wq.heap.size u Aj cj) ∧ Hid (meetB i p v ((boxL u).take j) = false)) (fun t _ => u.ar.length - (intOf t).toNat)
      case atStart => exact ⟨0, Nat.zero_le _, rfl, B1, HSA, B0⟩
      case round =>
        clear B0 B1 HSA s2 x0 x1 x2
        obtain ⟨j, hj, rfl, HB, HSA, HJ⟩ := hrel
        by_cases hjt : j < u.ar.length
        · obtain ⟨b2, o2, rfl, hb2, hv2⟩ := HRR.out.row (by omega)
          obtain ⟨q0, q1, q2, q3⟩ := hv2 j hjt
          have wc := fun o => HB.out.cell (p := ⟨b2, o, none⟩) hb2
          have q0 := (wc _).trans q0; have q1 := (wc _).trans q1; have q2 := (wc _).trans q2; have q3 := (wc _).trans q3
          have hbwr : b2 < wr.heap.size := Nat.lt_of_lt_of_le hb2 HB.out.size
          have hWr := HB.out.size
          have hsb := HSA.out.lt
          have j0 : (0 : Int) ≤ (j : Int) := by omega
          have j1 : (j : Int) < (u.ar.length : Int) := by omega
          have HNJ : Hid ((boxL u).take (j + 1) = (boxL u).take j ++ [⟨u.ar[j], u.z0, u.z1⟩]) := Lib.hid (by rw [List.take_succ_eq_append_getElem (by simp [boxL]; omega)]; simp [boxL])
          have HBX := Lib.hid (HIN.out ⟨u.ar[j], u.z0, u.z1⟩ (List.mem_map.2 ⟨_, List.getElem_mem hjt, rfl⟩))
          obtain ⟨q, hq⟩ : ∃ q, q = u.ar[j] := ⟨_, rfl⟩
          rw [← hq] at q0 q1 q2 q3 HNJ HBX
          clear hq hv2 wc
          obtain ⟨wt, rfl⟩ : ∃ wt : World, wt = wr := ⟨_, rfl⟩
          obtain ⟨w3, hw3⟩ : ∃ w3, w3 = (wt.alloc (.cells #[.int .i64 q.X0, .int .i64 q.Y0, .int .i64 q.X1, .int .i64 q.Y1] 43)).alloc (.cells #[.int .i64 i.lo.n, .int .i64 i.lo.d, .bool i.lo.c, .int .i64 i.hi.n, .int .i64 i.hi.d, .bool i.hi.c] 92) := ⟨_, rfl⟩
          have HB3 : Hid (Below wt.heap.size wt w3) := Lib.hid (by rw [hw3]; exact ((Below.refl _ _).alloc (Nat.le_refl _) _).alloc (by simp) _)
          have HV3 : Hid (IvAt w3 (wt.heap.size + 1) i) := Lib.hid (by
            rw [hw3]; exact (heap2 wt _ _).2)
          have HR3 : Hid (wt.heap.size + 1 ≤ w3.heap.size) := Lib.hid (Nat.le_of_lt HV3.out.lt)
          have HMW : Hid (Ma11 g gv gi p v i wt) := Lib.hid (by
            have cp := fun (b : Nat) (hb : b < W.heap.size) k => HB.out.cell (p := ⟨b, k, none⟩) hb
            obtain ⟨a0, a1, a2, c0, c1, c2, hc⟩ := HM.out
            exact ⟨(cp _ (by omega) _).trans a0, (cp _ (by omega) _).trans a1, (cp _ (by omega) _).trans a2, (cp _ (by omega) _).trans c0, (cp _ (by omega) _).trans c1, (cp _ (by omega) _).trans c2, hc.below HB.out hgw⟩)
          have E3 : Hid (Mt11 g gv wt.heap.size wq.heap.size p v q u w3) := Lib.hid (by
            have cp := fun (b : Nat) (hb : b < wt.heap.size) k => HB3.out.cell (p := ⟨b, k, none⟩) hb
            obtain ⟨a0, a1, a2, c0, c1, c2, _⟩ := HMW.out
            refine ⟨(cp _ (by omega) _).trans a0, (cp _ (by omega) _).trans a1, (cp _ (by omega) _).trans a2, (cp _ (by omega) _).trans c0, (cp _ (by omega) _).trans c1, (cp _ (by omega) _).trans c2, ?_, ?_, ?_, ?_, (cp _ hsb _).trans HSA.out.c0, (cp _ hsb _).trans HSA.out.c1⟩
            all_goals (rw [hw3, Lib.cell_of_heap (heap2 wt _ _).1]; rfl))
          have m0 := HMW.out.c.c0; have m1 := HMW.out.c.c1; have m2 := HMW.out.c.c2; have m3 := HMW.out.c.c3; have m4 := HMW.out.c.c4; have m5 := HMW.out.c.c5
          have hgt : gi < wt.heap.size := by omega
          have KX := Lib.hid (nar3_in HI.out HP.out HVO.out HBX.out.2)
          have BQ : Hid (BOk ⟨q, u.z0, u.z1⟩) := Lib.hid HBX.out.2
          have HL1 : Hid (gv < wt.heap.size + 1) := Lib.hid (by omega)
          have HL0 : Hid (g < wt.heap.size + 1) := Lib.hid (by omega)
          have HL3 : Hid (wq.heap.size < wt.heap.size + 1) := Lib.hid (by omega)
          have HWT : Hid (W.heap.size ≤ wt.heap.size + 1) := Lib.hid (by omega)
          have HLW : Hid (Below W.heap.size W w3) := Lib.hid (HB.out.trans (HB3.out.mono HB.out.size))
          have HA1 : Hid (Calls Try.prog 84 #[.pointer (some ⟨wt.heap.size + 1, 0, none⟩), .int .i64 p.x, .int .i64 v.x, .int .i64 q.X0, .int .i64 q.X1] w3 (NarIs (wt.heap.size + 1) (nar i p.x v.x q.X0 q.X1) w3)) := Lib.hid (by
            obtain ⟨⟨⟨x0, x1, x2⟩, y0, y1, y2⟩, z0, z1, z2⟩ := BQ.out
            simp only at x0 x1 x2 y0 y1 y2 z0 z1 z2
            exact snar_any _ i p.x v.x q.X0 q.X1 w3 HV3.out HI.out HP.out.1 HVO.out.1 (by omega) (by omega))
          have HA2 : Hid (∀ w', IvAt w' (wt.heap.size + 1) (nar i p.x v.x q.X0 q.X1) → Calls Try.prog 84 #[.pointer (some ⟨wt.heap.size + 1, 0, none⟩), .int .i64 p.y, .int .i64 v.y, .int .i64 q.Y0, .int .i64 q.Y1] w' (NarIs (wt.heap.size + 1) (nar (nar i p.x v.x q.X0 q.X1) p.y v.y q.Y0 q.Y1) w')) := Lib.hid (fun w' hh => by
            obtain ⟨⟨⟨x0, x1, x2⟩, y0, y1, y2⟩, z0, z1, z2⟩ := BQ.out
            simp only at x0 x1 x2 y0 y1 y2 z0 z1 z2
            exact snar_any _ _ p.y v.y q.Y0 q.Y1 w' hh KX.out.1 HP.out.2.1 HVO.out.2.1 (by omega) (by omega))
          have HA3 : Hid (∀ w', IvAt w' (wt.heap.size + 1) (nar (nar i p.x v.x q.X0 q.X1) p.y v.y q.Y0 q.Y1) → Calls Try.prog 84 #[.pointer (some ⟨wt.heap.size + 1, 0, none⟩), .int .i64 p.z, .int .i64 v.z, .int .i64 u.z0, .int .i64 u.z1] w' (NarIs (wt.heap.size + 1) (nar3 i p v ⟨q, u.z0, u.z1⟩) w')) := Lib.hid (fun w' hh => by
            obtain ⟨⟨⟨x0, x1, x2⟩, y0, y1, y2⟩, z0, z1, z2⟩ := BQ.out
            simp only at x0 x1 x2 y0 y1 y2 z0 z1 z2
            have hp2 := HP.out.2.2
            exact snar_any _ _ p.z v.z u.z0 u.z1 w' hh KX.out.2.1 (by omega) HVO.out.2.2 (by omega) (by omega))
          have HA4 : Hid (∀ w', IvAt w' (wt.heap.size + 1) (nar3 i p v ⟨q, u.z0, u.z1⟩) → Calls Try.prog 85 #[.pointer (some ⟨wt.heap.size + 1, 0, none⟩)] w' (BlIs (someB (nar3 i p v ⟨q, u.z0, u.z1⟩)) w')) := Lib.hid (fun w' hh => ssome_any _ _ w' hh KX.out.2.2)
          have HYES : Hid (someB (nar3 i p v ⟨q, u.z0, u.z1⟩) = true → meetB i p v (boxesS S) = true) := Lib.hid (fun hh => meetB_in HBX.out.1 hh)
          have HNO : Hid (someB (nar3 i p v ⟨q, u.z0, u.z1⟩) = false → meetB i p v ((boxL u).take (j + 1)) = false) := Lib.hid (fun hh => by rw [HNJ.out, meetB_append, HJ.out, meetB_one, hh]; rfl)
          have HSK : Hid (∀ w', Below (wt.heap.size + 1) w3 w' → SlAt w' wq.heap.size u (some ⟨b2, o2, none⟩) cj) := Lib.hid (fun w' hh => (hh.block _ HL3.out).trans ((HB3.out.block _ hsb).trans HSA.out))
          clear HJ HNJ HBX HB HMW HV3 KX BQ HSA
          generalize nar i p.x v.x q.X0 q.X1 = i1 at *
          generalize nar i1 p.y v.y q.Y0 q.Y1 = i2 at *
          generalize nar3 i p v ⟨q, u.z0, u.z1⟩ = i3 at *
          have HW3 := Lib.hid hw3; clear hw3
          clear hWr hsb hb2 hwr2 hWq hbw hb1
          go_upto_region 9 with fail
          simp only [← HW3.out]
          clear HW3 m0 m1 m2 m3 m4 m5 q0 q1 q2 q3
          obtain ⟨a0, a1, a2, a3, a4, a5, a6, a7, a8, a9, c0, c1⟩ := E3.out
          go_wp2_with fail
          refine HA1.out.mono ?_
          rintro e w4 ⟨rfl, hvv, hbb⟩
          have E4 := Lib.hid (E3.out.turn hbb HL0.out HL1.out (Nat.lt_succ_self _) HL3.out)
          have HC2 := Lib.hid (HA2.out _ hvv)
          have HBB := Lib.hid hbb
          clear hvv hbb E3 a0 a1 a2 a3 a4 a5 a6 a7 a8 a9 c0 c1 HA1 HA2
          obtain ⟨a0, a1, a2, a3, a4, a5, a6, a7, a8, a9, c0, c1⟩ := E4.out
          go_wp2_with fail
          refine HC2.out.mono ?_
          rintro e w5 ⟨rfl, hvv, hbb⟩
          have E5 := Lib.hid (E4.out.turn hbb HL0.out HL1.out (Nat.lt_succ_self _) HL3.out)
          have HC3 := Lib.hid (HA3.out _ hvv)
          have HBB2 := Lib.hid (HBB.out.trans hbb)
          clear hvv hbb E4 a0 a1 a2 a3 a4 a5 a6 a7 a8 a9 c0 c1 HC2 HA3 HBB
          obtain ⟨a0, a1, a2, a3, a4, a5, a6, a7, a8, a9, c0, c1⟩ := E5.out
          go_wp2_with fail
          refine HC3.out.mono ?_
          rintro e w6 ⟨rfl, hvv, hbb⟩
          have HC4 := Lib.hid (HA4.out _ hvv)
          have HBB3 := Lib.hid (HBB2.out.trans hbb)
          clear hvv hbb E5 a0 a1 a2 a3 a4 a5 a6 a7 a8 a9 c0 c1 HC3 HA4 HBB2
          generalize someB i3 = bb at *
          go_wp2_with fail
          refine HC4.out.mono ?_
          rintro e w7 ⟨rfl, hbb⟩
          have HZ3 : Hid (wt.heap.size + 1 ≤ w6.heap.size) := Lib.hid (Nat.le_trans HR3.out HBB3.out.size)
          have HBB4 : Hid (Below (wt.heap.size + 1) w3 w7) := Lib.hid (HBB3.out.trans (hbb.mono HZ3.out))
          clear hbb HBB3 HC4
          cases bb with
          | true =>
            have HF := Lib.hid (HYES.out rfl)
            go_wp2_with fail
            go_ret
            exact ⟨by rw [HF.out]; rfl, HW.out.trans ((HLW.out.trans (HBB4.out.mono HWT.out)).mono HW.out.size)⟩
          | false =>
            have HF := Lib.hid (HNO.out rfl)
            have HG := Lib.hid (HSK.out _ HBB4.out)
            have HH := Lib.hid (HLW.out.trans (HBB4.out.mono HWT.out))
            go_wp2_with fail
            go_roundw
            case rel => exact ⟨j + 1, by omega, by go_num, HH, HG, HF⟩
            case measure => simp [intOf]; omega
        · obtain rfl : j = u.ar.length := by omega
          have HX : Hid (meetB i p v (boxesS (S.take (k + 1))) = false) := Lib.hid (by
            have := HJ.out
            rw [List.take_of_length_le (by simp [boxL])] at this
            rw [HN.out, meetB_append, HT.out, this]; rfl)
          go_wp2_with fail
          go_roundw
          case rel => exact ⟨k + 1, by omega, by go_num, HB, HX⟩
          case measure => simp [intOf]; omega
    · obtain rfl : k = S.length := by omega
      have FIN : Hid (meetB i p v (boxesS S) = false) := Lib.hid (by have := HT.out; rw [List.take_length] at this; exact this)
      have HF := Lib.hid (HW.out.trans (HB.out.mono HW.out.size))
      go_wp2_with fail
      go_ret
      exact ⟨by rw [FIN.out]; rfl, HF.out⟩
end Go.Proofs.Ytdnoadngfkiabaa
namespace Go.Proofs.Ytdnoadngfkiabaa
open Go.RowKit

/-! ### Blocked, Ray -/
noncomputable def solPB (S : List Sl) : Bool := @decide (SolP S) (Classical.propDecidable _)
theorem solPB_yes {S : List Sl} (h : SolP S) : solPB S = true := @decide_eq_true _ (Classical.propDecidable _) h
theorem solPB_no {S : List Sl} (h : ¬ SolP S) : solPB S = false := @decide_eq_false _ (Classical.propDecidable _) h
noncomputable def bkB (S : List Sl) (p q : V3) : Bool := decide (PtOk p) && (decide (PtOk q) && (solPB S && meetB iSeg p (q.sub p) (boxesS S)))
noncomputable def ryB (S : List Sl) (p d : V3) : Bool := decide (PtOk p) && (decide (DiOk d) && (solPB S && meetB iRay p d (boxesS S)))
/-- two points in memory. -/
def Pq11 (g gq : Nat) (p q : V3) (w : World) : Prop := w.cell? ⟨g, 0, none⟩ = some (.int .i64 p.x) ∧ w.cell? ⟨g, 1, none⟩ = some (.int .i64 p.y) ∧ w.cell? ⟨g, 2, none⟩ = some (.int .i64 p.z) ∧ w.cell? ⟨gq, 0, none⟩ = some (.int .i64 q.x) ∧ w.cell? ⟨gq, 1, none⟩ = some (.int .i64 q.y) ∧ w.cell? ⟨gq, 2, none⟩ = some (.int .i64 q.z) ∧ g < w.heap.size ∧ gq < w.heap.size
theorem Pq11.go {g gq : Nat} {p q : V3} {w w' : World} (h : Pq11 g gq p q w) (hb : Below w.heap.size w w') : Pq11 g gq p q w' := by
  obtain ⟨a0, a1, a2, a3, a4, a5, l0, l1⟩ := h
  have c0 := fun k => hb.cell (p := ⟨g, k, none⟩) l0
  have c1 := fun k => hb.cell (p := ⟨gq, k, none⟩) l1
  exact ⟨(c0 _).trans a0, (c0 _).trans a1, (c0 _).trans a2, (c1 _).trans a3, (c1 _).trans a4, (c1 _).trans a5, Nat.lt_of_lt_of_le l0 hb.size, Nat.lt_of_lt_of_le l1 hb.size⟩
theorem Pq11.new (w : World) (p q : V3) : Pq11 w.heap.size (w.heap.size + 1) p q ((w.alloc (.cells #[.int .i64 p.x, .int .i64 p.y, .int .i64 p.z] 25)).alloc (.cells #[.int .i64 q.x, .int .i64 q.y, .int .i64 q.z] 25)) := by
  obtain ⟨h0, h1⟩ := heap2 w (.cells #[.int .i64 p.x, .int .i64 p.y, .int .i64 p.z] 25) (.cells #[.int .i64 q.x, .int .i64 q.y, .int .i64 q.z] 25)
  exact ⟨by rw [Lib.cell_of_heap h0]; rfl, by rw [Lib.cell_of_heap h0]; rfl, by rw [Lib.cell_of_heap h0]; rfl, by rw [Lib.cell_of_heap h1]; rfl, by rw [Lib.cell_of_heap h1]; rfl, by rw [Lib.cell_of_heap h1]; rfl, by simp; omega, by simp⟩
set_option maxHeartbeats 16000000 in
theorem sray_any (A : Option Addr) (cap : Nat) (S : List Sl) (p q : V3) (w : World) (h : SIn w A cap S) : Calls Try.prog 45 #[.slice A S.length cap, .agg #[.int .i64 p.x, .int .i64 p.y, .int .i64 p.z], .agg #[.int .i64 q.x, .int .i64 q.y, .int .i64 q.z]] w (BlIs (ryB S p q) w) := by
  have HP := Lib.hid (fun w' => sisP_nd p.x p.y p.z w')
  have HQ := Lib.hid (fun w' => sisD_nd q.x q.y q.z w')
  obtain ⟨W, hW⟩ : ∃ W, W = (w.alloc (.cells #[.int .i64 p.x, .int .i64 p.y, .int .i64 p.z] 25)).alloc (.cells #[.int .i64 q.x, .int .i64 q.y, .int .i64 q.z] 25) := ⟨_, rfl⟩
  have HW : Hid (Below w.heap.size w W) := Lib.hid (by rw [hW]; exact ((Below.refl _ _).alloc (Nat.le_refl _) _).alloc (by simp) _)
  have E0 : Hid (Pq11 w.heap.size (w.heap.size + 1) p q W) := Lib.hid (by rw [hW]; exact Pq11.new w p q)
  have HWW := Lib.hid hW; clear hW
  have HSI := Lib.hid h; clear h
  by_cases cp : PtOk p
  · rw [show decide (PtOk ⟨p.x, p.y, p.z⟩) = true from decide_eq_true cp] at HP
    by_cases cq : DiOk q
    · rw [show decide (DiOk ⟨q.x, q.y, q.z⟩) = true from decide_eq_true cq] at HQ
      by_cases cs : SolP S
      · have HR := Lib.hid (fun w' (hb : Below w.heap.size w w') => bright_yes (HSI.out.below hb) cs)
        have HM : Hid (∀ w', Below w.heap.size w w' → Calls Try.prog 67 #[.slice A S.length cap, .agg #[.int .i64 p.x, .int .i64 p.y, .int .i64 p.z], .agg #[.int .i64 q.x, .int .i64 q.y, .int .i64 q.z], .agg #[.int .i64 0, .int .i64 1, .bool false, .int .i64 1, .int .i64 0, .bool false]] w' (BlIs (ryB S p q) w')) := Lib.hid (fun w' hb => by
          have e : ryB S p q = meetB iRay p q (boxesS S) := by unfold ryB; rw [decide_eq_true cp, decide_eq_true cq, solPB_yes cs, Bool.true_and, Bool.true_and, Bool.true_and]
          rw [e]
          exact smeets_yes p q iRay (HSI.out.below hb) cs cp cq.2 iRay_in)
        clear cs cp cq HSI
        go_enter Try.func45, Try.ntmps45
        go_upto_region 1 with fail
        rw [← HWW.out]; clear HWW
        generalize w.heap.size + 1 = gq at *
        obtain ⟨g, hg⟩ : ∃ g, g = w.heap.size := ⟨_, rfl⟩
        rw [← hg] at E0
        simp only [← hg]
        clear hg
        obtain ⟨x0, x1, x2, y0, y1, y2, l0, l1⟩ := E0.out
        go_wp2_with fail
        refine (HP.out _).mono ?_
        rintro e w1 ⟨rfl, hb⟩
        have E1 := Lib.hid (E0.out.go hb)
        have HB1 := Lib.hid (HW.out.trans (hb.mono HW.out.size))
        clear hb HP E0 HW x0 x1 x2 y0 y1 y2 l0 l1
        obtain ⟨x0, x1, x2, y0, y1, y2, l0, l1⟩ := E1.out
        go_wp2_with fail
        refine (HQ.out _).mono ?_
        rintro e w2 ⟨rfl, hb⟩
        have E2 := Lib.hid (E1.out.go hb)
        have HB2 := Lib.hid (HB1.out.trans (hb.mono HB1.out.size))
        clear hb E1 HB1 x0 x1 x2 y0 y1 y2 l0 l1
        obtain ⟨x0, x1, x2, y0, y1, y2, l0, l1⟩ := E2.out
        go_wp2_with fail
        refine (HR.out _ HB2.out).mono ?_
        rintro e w3 ⟨rfl, hb⟩
        have E3 := Lib.hid (E2.out.go hb)
        have HB3 := Lib.hid (HB2.out.trans (hb.mono HB2.out.size))
        clear HR hb E2 HB2 x0 x1 x2 y0 y1 y2 l0 l1
        obtain ⟨x0, x1, x2, y0, y1, y2, l0, l1⟩ := E3.out
        go_wp2_with fail
        refine (HM.out _ HB3.out).mono ?_
        rintro e w5 ⟨rfl, hb⟩
        have HB5 := Lib.hid (HB3.out.trans (hb.mono HB3.out.size))
        clear hb HM HB3 E3
        generalize ryB S p q = bb at *
        go_wp2_with fail
        go_ret
        exact ⟨rfl, HB5.out⟩
      · have HR := Lib.hid (fun w' (hb : Below w.heap.size w w') => bright_no (HSI.out.below hb) cs)
        rw [show ryB S p q = false from by unfold ryB; rw [solPB_no cs, Bool.false_and, Bool.and_false, Bool.and_false]]
        clear cs cp cq HSI
        go_enter Try.func45, Try.ntmps45
        go_upto_region 1 with fail
        rw [← HWW.out]; clear HWW
        generalize w.heap.size + 1 = gq at *
        obtain ⟨g, hg⟩ : ∃ g, g = w.heap.size := ⟨_, rfl⟩
        rw [← hg] at E0
        simp only [← hg]
        clear hg
        obtain ⟨x0, x1, x2, y0, y1, y2, l0, l1⟩ := E0.out
        go_wp2_with fail
        refine (HP.out _).mono ?_
        rintro e w1 ⟨rfl, hb⟩
        have E1 := Lib.hid (E0.out.go hb)
        have HB1 := Lib.hid (HW.out.trans (hb.mono HW.out.size))
        clear hb HP E0 HW x0 x1 x2 y0 y1 y2 l0 l1
        obtain ⟨x0, x1, x2, y0, y1, y2, l0, l1⟩ := E1.out
        go_wp2_with fail
        refine (HQ.out _).mono ?_
        rintro e w2 ⟨rfl, hb⟩
        have E2 := Lib.hid (E1.out.go hb)
        have HB2 := Lib.hid (HB1.out.trans (hb.mono HB1.out.size))
        clear hb E1 HB1 x0 x1 x2 y0 y1 y2 l0 l1
        obtain ⟨x0, x1, x2, y0, y1, y2, l0, l1⟩ := E2.out
        go_wp2_with fail
        refine (HR.out _ HB2.out).mono ?_
        rintro e w3 ⟨rfl, hb⟩
        have E3 := Lib.hid (E2.out.go hb)
        have HB3 := Lib.hid (HB2.out.trans (hb.mono HB2.out.size))
        clear HR hb E2 HB2 x0 x1 x2 y0 y1 y2 l0 l1
        go_wp2_with fail
        go_ret
        exact ⟨rfl, HB3.out⟩
    · rw [show decide (DiOk ⟨q.x, q.y, q.z⟩) = false from decide_eq_false cq] at HQ
      rw [show ryB S p q = false from by unfold ryB; rw [decide_eq_false cq, Bool.false_and, Bool.and_false]]
      clear cp cq HSI
      go_enter Try.func45, Try.ntmps45
      go_upto_region 1 with fail
      rw [← HWW.out]; clear HWW
      generalize w.heap.size + 1 = gq at *
      obtain ⟨g, hg⟩ : ∃ g, g = w.heap.size := ⟨_, rfl⟩
      rw [← hg] at E0
      simp only [← hg]
      clear hg
      obtain ⟨x0, x1, x2, y0, y1, y2, l0, l1⟩ := E0.out
      go_wp2_with fail
      refine (HP.out _).mono ?_
      rintro e w1 ⟨rfl, hb⟩
      have E1 := Lib.hid (E0.out.go hb)
      have HB1 := Lib.hid (HW.out.trans (hb.mono HW.out.size))
      clear hb HP E0 HW x0 x1 x2 y0 y1 y2 l0 l1
      obtain ⟨x0, x1, x2, y0, y1, y2, l0, l1⟩ := E1.out
      go_wp2_with fail
      refine (HQ.out _).mono ?_
      rintro e w2 ⟨rfl, hb⟩
      have E2 := Lib.hid (E1.out.go hb)
      have HB2 := Lib.hid (HB1.out.trans (hb.mono HB1.out.size))
      clear hb E1 HB1 x0 x1 x2 y0 y1 y2 l0 l1
      go_wp2_with fail
      go_ret
      exact ⟨rfl, HB2.out⟩
  · rw [show decide (PtOk ⟨p.x, p.y, p.z⟩) = false from decide_eq_false cp] at HP
    rw [show ryB S p q = false from by unfold ryB; rw [decide_eq_false cp, Bool.false_and]]
    clear cp HSI HQ
    go_enter Try.func45, Try.ntmps45
    go_upto_region 1 with fail
    rw [← HWW.out]; clear HWW
    generalize w.heap.size + 1 = gq at *
    obtain ⟨g, hg⟩ : ∃ g, g = w.heap.size := ⟨_, rfl⟩
    rw [← hg] at E0
    simp only [← hg]
    clear hg
    obtain ⟨x0, x1, x2, y0, y1, y2, l0, l1⟩ := E0.out
    go_wp2_with fail
    refine (HP.out _).mono ?_
    rintro e w1 ⟨rfl, hb⟩
    have E1 := Lib.hid (E0.out.go hb)
    have HB1 := Lib.hid (HW.out.trans (hb.mono HW.out.size))
    clear hb HP E0 HW x0 x1 x2 y0 y1 y2 l0 l1
    go_wp2_with fail
    go_ret
    exact ⟨rfl, HB1.out⟩
end Go.Proofs.Ytdnoadngfkiabaa
