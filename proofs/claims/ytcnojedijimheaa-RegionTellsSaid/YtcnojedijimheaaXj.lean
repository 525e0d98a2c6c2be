/-
  Contracts of the reference of layer 6 (12): touch.
-/
import Derived.Test.YtcnojedijimheaaXn
import Derived.Lib.MinMax
set_option linter.unusedVariables false
set_option maxRecDepth 100000
namespace Go.Proofs.Ytcnojedijimheaa
open Go.RowKit

set_option maxHeartbeats 16000000 in
theorem vtouch_any (a b : Rc) (ka : ROk a) (kb : ROk b) (w : World) : Calls Try.prog 86 #[.agg #[.int .i64 a.X0, .int .i64 a.Y0, .int .i64 a.X1, .int .i64 a.Y1], .agg #[.int .i64 b.X0, .int .i64 b.Y0, .int .i64 b.X1, .int .i64 b.Y1]] w (BlIs (decide (TouchR a b)) w) := by
  have hT : decide (TouchR a b) = decide (apartI a.X0 a.X1 b.X0 b.X1 + apartI a.Y0 a.Y1 b.Y0 b.Y1 = 1) := by
    rw [decide_eq_decide]
    exact ⟨fun h => h.2.2, fun h => ⟨ka, kb, h⟩⟩
  rw [hT]; clear hT
  have hx := apart_ext ka.1.2.1 kb.1.2.1
  have hy := apart_ext ka.2.2.1 kb.2.2.1
  obtain ⟨⟨a1, a2, a3⟩, a4, a5, a6⟩ := ka
  obtain ⟨⟨b1, b2, b3⟩, b4, b5, b6⟩ := kb
  obtain ⟨c, hc⟩ : ∃ c, c = min a.X1 b.X1 - max a.X0 b.X0 := ⟨_, rfl⟩
  obtain ⟨r, hr⟩ : ∃ r, r = min a.Y1 b.Y1 - max a.Y0 b.Y0 := ⟨_, rfl⟩
  have q1 : IntKind.i64.wrap (min a.X1 b.X1 - max a.X0 b.X0) = c := by rw [hc]; exact IntWalk.i64_in _ (by omega)
  have q2 : IntKind.i64.wrap (min a.Y1 b.Y1 - max a.Y0 b.Y0) = r := by rw [hr]; exact IntWalk.i64_in _ (by omega)
  rw [← hc] at hx; rw [← hr] at hy
  have hT : decide (apartI a.X0 a.X1 b.X0 b.X1 + apartI a.Y0 a.Y1 b.Y0 b.Y1 = 1) = (decide (c > 0) && (r == 0) || (c == 0) && decide (r > 0)) := by
    rw [hx, hy, Bool.eq_iff_iff]
    simp only [decide_eq_true_eq, Bool.or_eq_true, Bool.and_eq_true, beq_iff_eq]
    split <;> split <;> omega
  rw [hT]; clear hT hx hy hc hr a1 a2 a3 a4 a5 a6 b1 b2 b3 b4 b5 b6
  have hcc : c = 0 ∨ (c ≠ 0 ∧ 0 < c) ∨ (c ≠ 0 ∧ ¬ 0 < c) := by omega
  have hrr : r = 0 ∨ (r ≠ 0 ∧ 0 < r) ∨ (r ≠ 0 ∧ ¬ 0 < r) := by omega
  rcases hcc with rfl | ⟨c1, c2⟩ | ⟨c1, c2⟩ <;> rcases hrr with rfl | ⟨r1, r2⟩ | ⟨r1, r2⟩
  all_goals
    go_enter Try.func86, Try.ntmps86
    go_wp2
    go_ret
    exact ⟨by simp [*], by (repeat' first | exact Below.refl _ _ | assumption | (apply below_drewN) | (refine Below.setCell ?_ (by (try simp); (try omega)) _) | (refine Below.alloc ?_ (by (try simp); (try omega)) _) | (refine Below.trans ?_ (Below.mono (Hid.out (by assumption)) (by (try simp); (try omega)))))⟩
end Go.Proofs.Ytcnojedijimheaa
