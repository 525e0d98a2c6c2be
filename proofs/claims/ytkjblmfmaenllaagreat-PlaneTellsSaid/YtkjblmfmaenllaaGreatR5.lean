/-
  Contracts of the reference of layer 10, 1: Right, Valid, cell, distance, Distance, allowed, Top.
-/
import Derived.Test.YtkjblmfmaenllaaGreatRi
set_option linter.unusedVariables false
set_option maxRecDepth 100000
namespace Go.Proofs.YtkjblmfmaenllaaGreat
open Go.RowKit

set_option maxHeartbeats 8000000 in
theorem nright_any (p : Pl) (w : World) : Calls Tryz.prog 22 #[.agg #[.int .i64 p.s, .int .i64 p.b, .int .i64 p.n, .int .i64 p.d]] w (BlIs (plokB p) w) := by
  have HB : Hid (Below w.heap.size w (w.alloc (.cells #[.int .i64 p.s, .int .i64 p.b, .int .i64 p.n, .int .i64 p.d] 47))) := Lib.hid ((Below.refl _ _).alloc (Nat.le_refl _) _)
  have K0 := Lib.hid (PlAt.new w p _ rfl)
  have y0 := K0.out.c0; have y1 := K0.out.c1; have y2 := K0.out.c2; have y3 := K0.out.c3; have yl := K0.out.lt
  have HNO : Hid (¬ PlOk p → plokB p = false) := Lib.hid (fun h => decide_eq_false h)
  by_cases c0 : 0 ≤ p.s
  · by_cases c1 : p.s < 4
    · by_cases c2 : 0 ≤ p.b
      · by_cases c3 : p.b ≤ 4096
        · by_cases c4 : 0 ≤ p.n
          · by_cases c5 : p.n ≤ 4096
            · by_cases c6 : 1 ≤ p.d
              · by_cases c7 : p.d ≤ 4096
                · have hE : Hid (plokB p = true) := Lib.hid (decide_eq_true ⟨⟨c0, c1⟩, ⟨c2, c3⟩, ⟨c4, c5⟩, by omega, c7⟩)
                  go_enter Tryz.func22, Tryz.ntmps22
                  go_wp2_with fail
                  go_ret
                  exact ⟨by rw [hE.out]; rfl, HB.out⟩
                · have hE := Lib.hid (HNO.out (fun h => c7 h.2.2.2.2))
                  go_enter Tryz.func22, Tryz.ntmps22
                  go_wp2_with fail
                  go_ret
                  exact ⟨by rw [hE.out]; first | rfl | (simp [c7]), HB.out⟩
              · have hE := Lib.hid (HNO.out (fun h => c6 (by have := h.2.2.2.1; omega)))
                go_enter Tryz.func22, Tryz.ntmps22
                go_wp2_with fail
                go_ret
                exact ⟨by rw [hE.out]; rfl, HB.out⟩
            · have hE := Lib.hid (HNO.out (fun h => c5 h.2.2.1.2))
              go_enter Tryz.func22, Tryz.ntmps22
              go_wp2_with fail
              go_ret
              exact ⟨by rw [hE.out]; rfl, HB.out⟩
          · have hE := Lib.hid (HNO.out (fun h => c4 h.2.2.1.1))
            go_enter Tryz.func22, Tryz.ntmps22
            go_wp2_with fail
            go_ret
            exact ⟨by rw [hE.out]; rfl, HB.out⟩
        · have hE := Lib.hid (HNO.out (fun h => c3 h.2.1.2))
          go_enter Tryz.func22, Tryz.ntmps22
          go_wp2_with fail
          go_ret
          exact ⟨by rw [hE.out]; rfl, HB.out⟩
      · have hE := Lib.hid (HNO.out (fun h => c2 h.2.1.1))
        go_enter Tryz.func22, Tryz.ntmps22
        go_wp2_with fail
        go_ret
        exact ⟨by rw [hE.out]; rfl, HB.out⟩
    · have hE := Lib.hid (HNO.out (fun h => c1 h.1.2))
      go_enter Tryz.func22, Tryz.ntmps22
      go_wp2_with fail
      go_ret
      exact ⟨by rw [hE.out]; rfl, HB.out⟩
  · have hE := Lib.hid (HNO.out (fun h => c0 h.1.1))
    go_enter Tryz.func22, Tryz.ntmps22
    go_wp2_with fail
    go_ret
    exact ⟨by rw [hE.out]; rfl, HB.out⟩
theorem ncell_any (x y : Int) (w : World) : Calls Tryz.prog 72 #[.int .i64 x, .int .i64 y] w (BlIs (decide (GC x y)) w) := by
  have HNO : Hid (¬ GC x y → decide (GC x y) = false) := Lib.hid (fun h => decide_eq_false h)
  by_cases c0 : 0 ≤ x
  · by_cases c1 : x < 1048576
    · by_cases c2 : 0 ≤ y
      · by_cases c3 : y < 1048576
        · have hE : Hid (decide (GC x y) = true) := Lib.hid (decide_eq_true ⟨⟨c0, c1⟩, c2, c3⟩)
          go_enter Tryz.func72, Tryz.ntmps72
          go_wp2
          go_ret
          exact ⟨by rw [hE.out]; rfl, by (repeat' first | exact Below.refl _ _ | assumption | (apply below_drewN) | (refine Below.setCell ?_ (by (try simp); (try omega)) _) | (refine Below.alloc ?_ (by (try simp); (try omega)) _) | (refine Below.trans ?_ (Below.mono (Hid.out (by assumption)) (by (try simp); (try omega)))))⟩
        · have hE := Lib.hid (HNO.out (fun h => c3 h.2.2))
          go_enter Tryz.func72, Tryz.ntmps72
          go_wp2
          go_ret
          exact ⟨by rw [hE.out]; first | rfl | (simp [c3]), by (repeat' first | exact Below.refl _ _ | assumption | (apply below_drewN) | (refine Below.setCell ?_ (by (try simp); (try omega)) _) | (refine Below.alloc ?_ (by (try simp); (try omega)) _) | (refine Below.trans ?_ (Below.mono (Hid.out (by assumption)) (by (try simp); (try omega)))))⟩
      · have hE := Lib.hid (HNO.out (fun h => c2 h.2.1))
        go_enter Tryz.func72, Tryz.ntmps72
        go_wp2
        go_ret
        exact ⟨by rw [hE.out]; rfl, by (repeat' first | exact Below.refl _ _ | assumption | (apply below_drewN) | (refine Below.setCell ?_ (by (try simp); (try omega)) _) | (refine Below.alloc ?_ (by (try simp); (try omega)) _) | (refine Below.trans ?_ (Below.mono (Hid.out (by assumption)) (by (try simp); (try omega)))))⟩
    · have hE := Lib.hid (HNO.out (fun h => c1 h.1.2))
      go_enter Tryz.func72, Tryz.ntmps72
      go_wp2
      go_ret
      exact ⟨by rw [hE.out]; rfl, by (repeat' first | exact Below.refl _ _ | assumption | (apply below_drewN) | (refine Below.setCell ?_ (by (try simp); (try omega)) _) | (refine Below.alloc ?_ (by (try simp); (try omega)) _) | (refine Below.trans ?_ (Below.mono (Hid.out (by assumption)) (by (try simp); (try omega)))))⟩
  · have hE := Lib.hid (HNO.out (fun h => c0 h.1.1))
    go_enter Tryz.func72, Tryz.ntmps72
    go_wp2
    go_ret
    exact ⟨by rw [hE.out]; rfl, by (repeat' first | exact Below.refl _ _ | assumption | (apply below_drewN) | (refine Below.setCell ?_ (by (try simp); (try omega)) _) | (refine Below.alloc ?_ (by (try simp); (try omega)) _) | (refine Below.trans ?_ (Below.mono (Hid.out (by assumption)) (by (try simp); (try omega)))))⟩
set_option maxHeartbeats 4000000 in
theorem ndist_any (r : Rc) (s x y : Int) (hr : ROk r) (hc : GC x y) (w : World) : Calls Tryz.prog 73 #[.agg #[.int .i64 r.X0, .int .i64 r.Y0, .int .i64 r.X1, .int .i64 r.Y1], .int .i64 s, .int .i64 x, .int .i64 y] w (InIs (distP r s x y) w) := by
  obtain ⟨⟨h1, h2, h3⟩, h4, h5, h6⟩ := hr
  obtain ⟨⟨g1, g2⟩, g3, g4⟩ := hc
  have q0 : IntKind.i64.wrap (x - r.X0) = x - r.X0 := IntWalk.i64_in _ (by omega)
  have q1 : IntKind.i64.wrap (r.X1 - 1) = r.X1 - 1 := IntWalk.i64_in _ (by omega)
  have q2 : IntKind.i64.wrap (r.X1 - 1 - x) = r.X1 - 1 - x := IntWalk.i64_in _ (by omega)
  have q3 : IntKind.i64.wrap (y - r.Y0) = y - r.Y0 := IntWalk.i64_in _ (by omega)
  have q4 : IntKind.i64.wrap (r.Y1 - 1) = r.Y1 - 1 := IntWalk.i64_in _ (by omega)
  have q5 : IntKind.i64.wrap (r.Y1 - 1 - y) = r.Y1 - 1 - y := IntWalk.i64_in _ (by omega)
  by_cases c0 : s = 0
  · subst c0
    go_enter Tryz.func73, Tryz.ntmps73
    go_wp2_with fail
    go_ret
    exact ⟨rfl, by (repeat' first | exact Below.refl _ _ | assumption | (apply below_drewN) | (refine Below.setCell ?_ (by (try simp); (try omega)) _) | (refine Below.alloc ?_ (by (try simp); (try omega)) _) | (refine Below.trans ?_ (Below.mono (Hid.out (by assumption)) (by (try simp); (try omega)))))⟩
  · have d0 : (s == 0) = false := by simp [c0]
    by_cases c1 : s = 1
    · subst c1
      go_enter Tryz.func73, Tryz.ntmps73
      go_wp2_with fail
      go_ret
      exact ⟨rfl, by (repeat' first | exact Below.refl _ _ | assumption | (apply below_drewN) | (refine Below.setCell ?_ (by (try simp); (try omega)) _) | (refine Below.alloc ?_ (by (try simp); (try omega)) _) | (refine Below.trans ?_ (Below.mono (Hid.out (by assumption)) (by (try simp); (try omega)))))⟩
    · have d1 : (s == 1) = false := by simp [c1]
      by_cases c2 : s = 2
      · subst c2
        go_enter Tryz.func73, Tryz.ntmps73
        go_wp2_with fail
        go_ret
        exact ⟨rfl, by (repeat' first | exact Below.refl _ _ | assumption | (apply below_drewN) | (refine Below.setCell ?_ (by (try simp); (try omega)) _) | (refine Below.alloc ?_ (by (try simp); (try omega)) _) | (refine Below.trans ?_ (Below.mono (Hid.out (by assumption)) (by (try simp); (try omega)))))⟩
      · have d2 : (s == 2) = false := by simp [c2]
        have hE : Hid (distP r s x y = r.Y1 - 1 - y) := Lib.hid (by unfold distP; rw [if_neg c0, if_neg c1, if_neg c2])
        clear c0 c1 c2
        go_enter Tryz.func73, Tryz.ntmps73
        go_wp2_with fail
        go_ret
        exact ⟨by rw [hE.out]; rfl, by (repeat' first | exact Below.refl _ _ | assumption | (apply below_drewN) | (refine Below.setCell ?_ (by (try simp); (try omega)) _) | (refine Below.alloc ?_ (by (try simp); (try omega)) _) | (refine Below.trans ?_ (Below.mono (Hid.out (by assumption)) (by (try simp); (try omega)))))⟩
end Go.Proofs.YtkjblmfmaenllaaGreat
