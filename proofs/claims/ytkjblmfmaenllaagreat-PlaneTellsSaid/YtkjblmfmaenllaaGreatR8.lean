/-
  Contracts of the reference of layer 10, 3: ceil.
-/
import Derived.Test.YtkjblmfmaenllaaGreatR7
set_option linter.unusedVariables false
set_option maxRecDepth 100000
namespace Go.Proofs.YtkjblmfmaenllaaGreat
open Go.RowKit

theorem ceil10 (a n : Int) (hn : 0 < n) : (0 < a → (a + n - 1).tdiv n = -(-a / n)) ∧ (¬ 0 < a → a.tdiv n = -(-a / n)) := by
  constructor
  · intro h
    rw [Int.tdiv_eq_ediv_of_nonneg (by omega)]
    have h1 := Int.mul_ediv_add_emod (a + n - 1) n
    have h2 := Int.emod_nonneg (a + n - 1) (show n ≠ 0 by omega)
    have h3 := Int.emod_lt_of_pos (a + n - 1) hn
    generalize (a + n - 1) % n = r at *
    generalize (a + n - 1) / n = t at *
    have := (Int.ediv_emod_unique hn (a := -a) (r := n - 1 - r) (q := -t)).2 ⟨by rw [Int.mul_neg]; omega, by omega, by omega⟩
    rw [this.1]; omega
  · intro h
    have e : (-a).tdiv n = -a / n := Int.tdiv_eq_ediv_of_nonneg (by omega)
    rw [Int.neg_tdiv] at e
    omega
set_option maxHeartbeats 2000000 in
theorem nceil_any (a n : Int) (hn : 0 < n) (hn1 : n ≤ 4398046511104) (h0 : -4398046511104 ≤ a) (h1 : a ≤ 4398046511104) (w : World) : Calls Tryz.prog 112 #[.int .i64 a, .int .i64 n] w (fun e w' => e = .returned (.int .i64 (-(-a / n))) ∧ w' = w) := by
  obtain ⟨t1, t2⟩ := ceil10 a n hn
  have T1 := Lib.hid t1; clear t1
  have T2 := Lib.hid t2; clear t2
  have hd0 : (n == 0) = false := by simp; omega
  by_cases c : 0 < a
  · have hE := Lib.hid (T1.out c)
    obtain ⟨b1, b2⟩ := tdiv10 (a + n - 1) n 8796093022208 hn (by omega) (by omega) (by omega)
    clear T1 T2
    go_enter Tryz.func112, Tryz.ntmps112
    go_wp2
    go_ret
    exact ⟨by rw [hE.out]; rfl, rfl⟩
  · have hE := Lib.hid (T2.out c)
    obtain ⟨b1, b2⟩ := tdiv10 a n 8796093022208 hn (by omega) (by omega) (by omega)
    clear T1 T2
    go_enter Tryz.func112, Tryz.ntmps112
    go_wp2
    go_ret
    refine ⟨?_, rfl⟩
    rw [← hE.out]; rfl
end Go.Proofs.YtkjblmfmaenllaaGreat
