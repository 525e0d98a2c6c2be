/-
  Contracts of the reference of layer 11: Valid.
-/
import Derived.Test.YtdnoadngfkiabaaU24
set_option linter.unusedVariables false
set_option maxRecDepth 100000
namespace Go.Proofs.Ytdnoadngfkiabaa
open Go.RowKit

set_option maxHeartbeats 4000000 in
theorem eValid_nd (x y z : Int) (w : World) : Calls Try.prog 41 #[.agg #[.int .i64 x, .int .i64 y, .int .i64 z]] w (BlIs (decide (PtOk ⟨x, y, z⟩)) w) := by
  by_cases c0 : 0 ≤ x
  · by_cases c1 : x ≤ 1048576
    · by_cases c2 : 0 ≤ y
      · by_cases c3 : y ≤ 1048576
        · by_cases c4 : 0 ≤ z
          · by_cases c5 : z ≤ 4096
            · rw [show decide (PtOk ⟨x, y, z⟩) = true from decide_eq_true ⟨⟨c0, c1⟩, ⟨c2, c3⟩, c4, c5⟩]
              go_enter Try.func41, Try.ntmps41
              go_wp2_with fail
              go_ret
              exact ⟨rfl, by (repeat' first | exact Below.refl _ _ | assumption | (apply below_drewN) | (refine Below.setCell ?_ (by (try simp); (try omega)) _) | (refine Below.alloc ?_ (by (try simp); (try omega)) _) | (refine Below.trans ?_ (Below.mono (Hid.out (by assumption)) (by (try simp); (try omega)))))⟩
            · rw [show decide (PtOk ⟨x, y, z⟩) = false from decide_eq_false (fun h => c5 h.2.2.2)]
              go_enter Try.func41, Try.ntmps41
              go_wp2_with fail
              go_ret
              exact ⟨rfl, by (repeat' first | exact Below.refl _ _ | assumption | (apply below_drewN) | (refine Below.setCell ?_ (by (try simp); (try omega)) _) | (refine Below.alloc ?_ (by (try simp); (try omega)) _) | (refine Below.trans ?_ (Below.mono (Hid.out (by assumption)) (by (try simp); (try omega)))))⟩
          · rw [show decide (PtOk ⟨x, y, z⟩) = false from decide_eq_false (fun h => c4 h.2.2.1)]
            go_enter Try.func41, Try.ntmps41
            go_wp2_with fail
            go_ret
            exact ⟨rfl, by (repeat' first | exact Below.refl _ _ | assumption | (apply below_drewN) | (refine Below.setCell ?_ (by (try simp); (try omega)) _) | (refine Below.alloc ?_ (by (try simp); (try omega)) _) | (refine Below.trans ?_ (Below.mono (Hid.out (by assumption)) (by (try simp); (try omega)))))⟩
        · rw [show decide (PtOk ⟨x, y, z⟩) = false from decide_eq_false (fun h => c3 h.2.1.2)]
          go_enter Try.func41, Try.ntmps41
          go_wp2_with fail
          go_ret
          exact ⟨rfl, by (repeat' first | exact Below.refl _ _ | assumption | (apply below_drewN) | (refine Below.setCell ?_ (by (try simp); (try omega)) _) | (refine Below.alloc ?_ (by (try simp); (try omega)) _) | (refine Below.trans ?_ (Below.mono (Hid.out (by assumption)) (by (try simp); (try omega)))))⟩
      · rw [show decide (PtOk ⟨x, y, z⟩) = false from decide_eq_false (fun h => c2 h.2.1.1)]
        go_enter Try.func41, Try.ntmps41
        go_wp2_with fail
        go_ret
        exact ⟨rfl, by (repeat' first | exact Below.refl _ _ | assumption | (apply below_drewN) | (refine Below.setCell ?_ (by (try simp); (try omega)) _) | (refine Below.alloc ?_ (by (try simp); (try omega)) _) | (refine Below.trans ?_ (Below.mono (Hid.out (by assumption)) (by (try simp); (try omega)))))⟩
    · rw [show decide (PtOk ⟨x, y, z⟩) = false from decide_eq_false (fun h => c1 h.1.2)]
      go_enter Try.func41, Try.ntmps41
      go_wp2_with fail
      go_ret
      exact ⟨rfl, by (repeat' first | exact Below.refl _ _ | assumption | (apply below_drewN) | (refine Below.setCell ?_ (by (try simp); (try omega)) _) | (refine Below.alloc ?_ (by (try simp); (try omega)) _) | (refine Below.trans ?_ (Below.mono (Hid.out (by assumption)) (by (try simp); (try omega)))))⟩
  · rw [show decide (PtOk ⟨x, y, z⟩) = false from decide_eq_false (fun h => c0 h.1.1)]
    go_enter Try.func41, Try.ntmps41
    go_wp2_with fail
    go_ret
    exact ⟨rfl, by (repeat' first | exact Below.refl _ _ | assumption | (apply below_drewN) | (refine Below.setCell ?_ (by (try simp); (try omega)) _) | (refine Below.alloc ?_ (by (try simp); (try omega)) _) | (refine Below.trans ?_ (Below.mono (Hid.out (by assumption)) (by (try simp); (try omega)))))⟩
end Go.Proofs.Ytdnoadngfkiabaa
