/-
  Contracts of the reference of layer 5 (2): Area, Has, Inside, Intersect, Grow, Shrink, Touch.
-/
import Derived.Test.YtpbkmphpgjdpfaaEc
import Derived.IntWalk
set_option linter.unusedVariables false
set_option maxRecDepth 100000
namespace Go.Proofs.Ytpbkmphpgjdpfaa
open Go.RowKit

set_option maxHeartbeats 4000000 in
theorem uarea_any (r : Rc) (ir : InR r) (w : World) : Calls Try.prog 19 #[.agg #[.int .i64 r.X0, .int .i64 r.Y0, .int .i64 r.X1, .int .i64 r.Y1]] w (InIs (areaR r) w) := by
  obtain ⟨i0, i1, i2, i3⟩ := ir
  by_cases k : ROk r
  · have o : rokB ⟨r.X0, r.Y0, r.X1, r.Y1⟩ = true := (rokB_iff r).2 k
    obtain ⟨⟨h1, h2, h3⟩, h4, h5, h6⟩ := k
    have hm := Int.mul_le_mul (show r.X1 - r.X0 ≤ 1048576 by omega) (show r.Y1 - r.Y0 ≤ 1048576 by omega) (by omega) (by omega)
    have hm0 := Int.mul_nonneg (show 0 ≤ r.X1 - r.X0 by omega) (show 0 ≤ r.Y1 - r.Y0 by omega)
    rw [area_ok ⟨⟨h1, h2, h3⟩, h4, h5, h6⟩]
    go_enter Try.func19, Try.ntmps19
    go_wp2_with (go_at_call 17; refine (uright_nd _ _ _ _ _).mono ?_; rintro e w1 ⟨rfl, hb⟩; obtain ⟨hc, hf⟩ := bcell hb; have hz := hb.size; (try simp at hz); have hz0 : w.heap.size < w1.heap.size := (by omega); have HBl := Lib.hid hb; clear hb)
    go_ret
    exact InIs.of (by first | rfl | omega) (by (repeat' first | exact Below.refl _ _ | assumption | (apply below_drewN) | (refine Below.setCell ?_ (by (try simp); (try omega)) _) | (refine Below.alloc ?_ (by (try simp); (try omega)) _) | (refine Below.trans ?_ (Below.mono (Hid.out (by assumption)) (by (try simp); (try omega))))))
  · have o : rokB ⟨r.X0, r.Y0, r.X1, r.Y1⟩ = false := (rokB_no r).2 k
    rw [area_no k]
    clear k
    go_enter Try.func19, Try.ntmps19
    go_wp2_with (go_at_call 17; refine (uright_nd _ _ _ _ _).mono ?_; rintro e w1 ⟨rfl, hb⟩; obtain ⟨hc, hf⟩ := bcell hb; have hz := hb.size; (try simp at hz); have hz0 : w.heap.size < w1.heap.size := (by omega); have HBl := Lib.hid hb; clear hb)
    go_ret
    exact ⟨rfl, by (repeat' first | exact Below.refl _ _ | assumption | (apply below_drewN) | (refine Below.setCell ?_ (by (try simp); (try omega)) _) | (refine Below.alloc ?_ (by (try simp); (try omega)) _) | (refine Below.trans ?_ (Below.mono (Hid.out (by assumption)) (by (try simp); (try omega)))))⟩

set_option maxHeartbeats 4000000 in
theorem uhas_any (r : Rc) (x y : Int) (ir : InR r) (w : World) : Calls Try.prog 21 #[.agg #[.int .i64 r.X0, .int .i64 r.Y0, .int .i64 r.X1, .int .i64 r.Y1], .int .i64 x, .int .i64 y] w (BlIs (decide (HasR r x y)) w) := by
  by_cases k : ROk r
  · have o : rokB ⟨r.X0, r.Y0, r.X1, r.Y1⟩ = true := (rokB_iff r).2 k
    by_cases c0 : r.X0 ≤ x
    · skip
      by_cases c1 : x < r.X1
      · skip
        by_cases c2 : r.Y0 ≤ y
        · skip
          by_cases c3 : y < r.Y1
          · skip
            rw [show decide (HasR r x y) = true from decide_eq_true ⟨k, c0, c1, c2, c3⟩]
            go_enter Try.func21, Try.ntmps21
            go_wp2_with (go_at_call 17; refine (uright_nd _ _ _ _ _).mono ?_; rintro e w1 ⟨rfl, hb⟩; obtain ⟨hc, hf⟩ := bcell hb; have hz := hb.size; (try simp at hz); have hz0 : w.heap.size < w1.heap.size := (by omega); have HBl := Lib.hid hb; clear hb)
            go_ret
            exact ⟨rfl, by (repeat' first | exact Below.refl _ _ | assumption | (apply below_drewN) | (refine Below.setCell ?_ (by (try simp); (try omega)) _) | (refine Below.alloc ?_ (by (try simp); (try omega)) _) | (refine Below.trans ?_ (Below.mono (Hid.out (by assumption)) (by (try simp); (try omega)))))⟩
          · rw [show decide (HasR r x y) = false from decide_eq_false (fun h => c3 h.2.2.2.2)]
            go_enter Try.func21, Try.ntmps21
            go_wp2_with (go_at_call 17; refine (uright_nd _ _ _ _ _).mono ?_; rintro e w1 ⟨rfl, hb⟩; obtain ⟨hc, hf⟩ := bcell hb; have hz := hb.size; (try simp at hz); have hz0 : w.heap.size < w1.heap.size := (by omega); have HBl := Lib.hid hb; clear hb)
            go_ret
            exact ⟨ret_bl (by first | rfl | (rw [decide_eq_false_iff_not]; omega)), by (repeat' first | exact Below.refl _ _ | assumption | (apply below_drewN) | (refine Below.setCell ?_ (by (try simp); (try omega)) _) | (refine Below.alloc ?_ (by (try simp); (try omega)) _) | (refine Below.trans ?_ (Below.mono (Hid.out (by assumption)) (by (try simp); (try omega)))))⟩
        · rw [show decide (HasR r x y) = false from decide_eq_false (fun h => c2 h.2.2.2.1)]
          go_enter Try.func21, Try.ntmps21
          go_wp2_with (go_at_call 17; refine (uright_nd _ _ _ _ _).mono ?_; rintro e w1 ⟨rfl, hb⟩; obtain ⟨hc, hf⟩ := bcell hb; have hz := hb.size; (try simp at hz); have hz0 : w.heap.size < w1.heap.size := (by omega); have HBl := Lib.hid hb; clear hb)
          go_ret
          exact ⟨rfl, by (repeat' first | exact Below.refl _ _ | assumption | (apply below_drewN) | (refine Below.setCell ?_ (by (try simp); (try omega)) _) | (refine Below.alloc ?_ (by (try simp); (try omega)) _) | (refine Below.trans ?_ (Below.mono (Hid.out (by assumption)) (by (try simp); (try omega)))))⟩
      · rw [show decide (HasR r x y) = false from decide_eq_false (fun h => c1 h.2.2.1)]
        go_enter Try.func21, Try.ntmps21
        go_wp2_with (go_at_call 17; refine (uright_nd _ _ _ _ _).mono ?_; rintro e w1 ⟨rfl, hb⟩; obtain ⟨hc, hf⟩ := bcell hb; have hz := hb.size; (try simp at hz); have hz0 : w.heap.size < w1.heap.size := (by omega); have HBl := Lib.hid hb; clear hb)
        go_ret
        exact ⟨rfl, by (repeat' first | exact Below.refl _ _ | assumption | (apply below_drewN) | (refine Below.setCell ?_ (by (try simp); (try omega)) _) | (refine Below.alloc ?_ (by (try simp); (try omega)) _) | (refine Below.trans ?_ (Below.mono (Hid.out (by assumption)) (by (try simp); (try omega)))))⟩
    · rw [show decide (HasR r x y) = false from decide_eq_false (fun h => c0 h.2.1)]
      go_enter Try.func21, Try.ntmps21
      go_wp2_with (go_at_call 17; refine (uright_nd _ _ _ _ _).mono ?_; rintro e w1 ⟨rfl, hb⟩; obtain ⟨hc, hf⟩ := bcell hb; have hz := hb.size; (try simp at hz); have hz0 : w.heap.size < w1.heap.size := (by omega); have HBl := Lib.hid hb; clear hb)
      go_ret
      exact ⟨rfl, by (repeat' first | exact Below.refl _ _ | assumption | (apply below_drewN) | (refine Below.setCell ?_ (by (try simp); (try omega)) _) | (refine Below.alloc ?_ (by (try simp); (try omega)) _) | (refine Below.trans ?_ (Below.mono (Hid.out (by assumption)) (by (try simp); (try omega)))))⟩
  · have o : rokB ⟨r.X0, r.Y0, r.X1, r.Y1⟩ = false := (rokB_no r).2 k
    rw [show decide (HasR r x y) = false from decide_eq_false (fun h => k h.1)]
    clear k
    go_enter Try.func21, Try.ntmps21
    go_wp2_with (go_at_call 17; refine (uright_nd _ _ _ _ _).mono ?_; rintro e w1 ⟨rfl, hb⟩; obtain ⟨hc, hf⟩ := bcell hb; have hz := hb.size; (try simp at hz); have hz0 : w.heap.size < w1.heap.size := (by omega); have HBl := Lib.hid hb; clear hb)
    go_ret
    exact ⟨rfl, by (repeat' first | exact Below.refl _ _ | assumption | (apply below_drewN) | (refine Below.setCell ?_ (by (try simp); (try omega)) _) | (refine Below.alloc ?_ (by (try simp); (try omega)) _) | (refine Below.trans ?_ (Below.mono (Hid.out (by assumption)) (by (try simp); (try omega)))))⟩

set_option maxHeartbeats 4000000 in
theorem uinside_any (a b : Rc) (ia : InR a) (ib : InR b) (w : World) : Calls Try.prog 23 #[.agg #[.int .i64 a.X0, .int .i64 a.Y0, .int .i64 a.X1, .int .i64 a.Y1], .agg #[.int .i64 b.X0, .int .i64 b.Y0, .int .i64 b.X1, .int .i64 b.Y1]] w (BlIs (decide (InsideR a b)) w) := by
  by_cases ka : ROk a
  · have oa : rokB ⟨a.X0, a.Y0, a.X1, a.Y1⟩ = true := (rokB_iff a).2 ka
    by_cases kb : ROk b
    · have ob : rokB ⟨b.X0, b.Y0, b.X1, b.Y1⟩ = true := (rokB_iff b).2 kb
      by_cases c0 : b.X0 ≤ a.X0
      · skip
        by_cases c1 : a.X1 ≤ b.X1
        · skip
          by_cases c2 : b.Y0 ≤ a.Y0
          · skip
            by_cases c3 : a.Y1 ≤ b.Y1
            · skip
              rw [show decide (InsideR a b) = true from decide_eq_true ⟨ka, kb, c0, c1, c2, c3⟩]
              go_enter Try.func23, Try.ntmps23
              go_wp2_with (go_at_call 17; refine (uright_nd _ _ _ _ _).mono ?_; rintro e w1 ⟨rfl, hb⟩; obtain ⟨hc, hf⟩ := bcell hb; have hz := hb.size; (try simp at hz); have hz0 : w.heap.size < w1.heap.size := (by omega); have hz1 : w.heap.size + 1 < w1.heap.size := (by omega); have HBl := Lib.hid hb; clear hb)
              go_ret
              exact ⟨rfl, by (repeat' first | exact Below.refl _ _ | assumption | (apply below_drewN) | (refine Below.setCell ?_ (by (try simp); (try omega)) _) | (refine Below.alloc ?_ (by (try simp); (try omega)) _) | (refine Below.trans ?_ (Below.mono (Hid.out (by assumption)) (by (try simp); (try omega)))))⟩
            · rw [show decide (InsideR a b) = false from decide_eq_false (fun h => c3 h.2.2.2.2.2)]
              go_enter Try.func23, Try.ntmps23
              go_wp2_with (go_at_call 17; refine (uright_nd _ _ _ _ _).mono ?_; rintro e w1 ⟨rfl, hb⟩; obtain ⟨hc, hf⟩ := bcell hb; have hz := hb.size; (try simp at hz); have hz0 : w.heap.size < w1.heap.size := (by omega); have hz1 : w.heap.size + 1 < w1.heap.size := (by omega); have HBl := Lib.hid hb; clear hb)
              go_ret
              exact ⟨ret_bl (by first | rfl | (rw [decide_eq_false_iff_not]; omega)), by (repeat' first | exact Below.refl _ _ | assumption | (apply below_drewN) | (refine Below.setCell ?_ (by (try simp); (try omega)) _) | (refine Below.alloc ?_ (by (try simp); (try omega)) _) | (refine Below.trans ?_ (Below.mono (Hid.out (by assumption)) (by (try simp); (try omega)))))⟩
          · rw [show decide (InsideR a b) = false from decide_eq_false (fun h => c2 h.2.2.2.2.1)]
            go_enter Try.func23, Try.ntmps23
            go_wp2_with (go_at_call 17; refine (uright_nd _ _ _ _ _).mono ?_; rintro e w1 ⟨rfl, hb⟩; obtain ⟨hc, hf⟩ := bcell hb; have hz := hb.size; (try simp at hz); have hz0 : w.heap.size < w1.heap.size := (by omega); have hz1 : w.heap.size + 1 < w1.heap.size := (by omega); have HBl := Lib.hid hb; clear hb)
            go_ret
            exact ⟨rfl, by (repeat' first | exact Below.refl _ _ | assumption | (apply below_drewN) | (refine Below.setCell ?_ (by (try simp); (try omega)) _) | (refine Below.alloc ?_ (by (try simp); (try omega)) _) | (refine Below.trans ?_ (Below.mono (Hid.out (by assumption)) (by (try simp); (try omega)))))⟩
        · rw [show decide (InsideR a b) = false from decide_eq_false (fun h => c1 h.2.2.2.1)]
          go_enter Try.func23, Try.ntmps23
          go_wp2_with (go_at_call 17; refine (uright_nd _ _ _ _ _).mono ?_; rintro e w1 ⟨rfl, hb⟩; obtain ⟨hc, hf⟩ := bcell hb; have hz := hb.size; (try simp at hz); have hz0 : w.heap.size < w1.heap.size := (by omega); have hz1 : w.heap.size + 1 < w1.heap.size := (by omega); have HBl := Lib.hid hb; clear hb)
          go_ret
          exact ⟨rfl, by (repeat' first | exact Below.refl _ _ | assumption | (apply below_drewN) | (refine Below.setCell ?_ (by (try simp); (try omega)) _) | (refine Below.alloc ?_ (by (try simp); (try omega)) _) | (refine Below.trans ?_ (Below.mono (Hid.out (by assumption)) (by (try simp); (try omega)))))⟩
      · rw [show decide (InsideR a b) = false from decide_eq_false (fun h => c0 h.2.2.1)]
        go_enter Try.func23, Try.ntmps23
        go_wp2_with (go_at_call 17; refine (uright_nd _ _ _ _ _).mono ?_; rintro e w1 ⟨rfl, hb⟩; obtain ⟨hc, hf⟩ := bcell hb; have hz := hb.size; (try simp at hz); have hz0 : w.heap.size < w1.heap.size := (by omega); have hz1 : w.heap.size + 1 < w1.heap.size := (by omega); have HBl := Lib.hid hb; clear hb)
        go_ret
        exact ⟨rfl, by (repeat' first | exact Below.refl _ _ | assumption | (apply below_drewN) | (refine Below.setCell ?_ (by (try simp); (try omega)) _) | (refine Below.alloc ?_ (by (try simp); (try omega)) _) | (refine Below.trans ?_ (Below.mono (Hid.out (by assumption)) (by (try simp); (try omega)))))⟩
    · have ob : rokB ⟨b.X0, b.Y0, b.X1, b.Y1⟩ = false := (rokB_no b).2 kb
      rw [show decide (InsideR a b) = false from decide_eq_false (fun h => kb h.2.1)]
      clear kb
      go_enter Try.func23, Try.ntmps23
      go_wp2_with (go_at_call 17; refine (uright_nd _ _ _ _ _).mono ?_; rintro e w1 ⟨rfl, hb⟩; obtain ⟨hc, hf⟩ := bcell hb; have hz := hb.size; (try simp at hz); have hz0 : w.heap.size < w1.heap.size := (by omega); have hz1 : w.heap.size + 1 < w1.heap.size := (by omega); have HBl := Lib.hid hb; clear hb)
      go_ret
      exact ⟨rfl, by (repeat' first | exact Below.refl _ _ | assumption | (apply below_drewN) | (refine Below.setCell ?_ (by (try simp); (try omega)) _) | (refine Below.alloc ?_ (by (try simp); (try omega)) _) | (refine Below.trans ?_ (Below.mono (Hid.out (by assumption)) (by (try simp); (try omega)))))⟩
  · have oa : rokB ⟨a.X0, a.Y0, a.X1, a.Y1⟩ = false := (rokB_no a).2 ka
    rw [show decide (InsideR a b) = false from decide_eq_false (fun h => ka h.1)]
    clear ka
    go_enter Try.func23, Try.ntmps23
    go_wp2_with (go_at_call 17; refine (uright_nd _ _ _ _ _).mono ?_; rintro e w1 ⟨rfl, hb⟩; obtain ⟨hc, hf⟩ := bcell hb; have hz := hb.size; (try simp at hz); have hz0 : w.heap.size < w1.heap.size := (by omega); have hz1 : w.heap.size + 1 < w1.heap.size := (by omega); have HBl := Lib.hid hb; clear hb)
    go_ret
    exact ⟨rfl, by (repeat' first | exact Below.refl _ _ | assumption | (apply below_drewN) | (refine Below.setCell ?_ (by (try simp); (try omega)) _) | (refine Below.alloc ?_ (by (try simp); (try omega)) _) | (refine Below.trans ?_ (Below.mono (Hid.out (by assumption)) (by (try simp); (try omega)))))⟩

set_option maxHeartbeats 4000000 in
theorem utouch_any (a b : Rc) (ia : InR a) (ib : InR b) (w : World) : Calls Try.prog 25 #[.agg #[.int .i64 a.X0, .int .i64 a.Y0, .int .i64 a.X1, .int .i64 a.Y1], .agg #[.int .i64 b.X0, .int .i64 b.Y0, .int .i64 b.X1, .int .i64 b.Y1]] w (BlIs (decide (TouchR a b)) w) := by
  by_cases ka : ROk a
  · have oa : rokB ⟨a.X0, a.Y0, a.X1, a.Y1⟩ = true := (rokB_iff a).2 ka
    by_cases kb : ROk b
    · have ob : rokB ⟨b.X0, b.Y0, b.X1, b.Y1⟩ = true := (rokB_iff b).2 kb
      obtain ⟨⟨a1, a2, a3⟩, a4, a5, a6⟩ := ka
      obtain ⟨⟨b1, b2, b3⟩, b4, b5, b6⟩ := kb
      have hT : decide (TouchR a b) = decide (apartI a.X0 a.X1 b.X0 b.X1 + apartI a.Y0 a.Y1 b.Y0 b.Y1 = 1) := by
        rw [decide_eq_decide]
        exact ⟨fun h => h.2.2, fun h => ⟨⟨⟨a1, a2, a3⟩, a4, a5, a6⟩, ⟨⟨b1, b2, b3⟩, b4, b5, b6⟩, h⟩⟩
      rw [hT]; clear hT
      have q1 : 0 ≤ apartI a.X0 a.X1 b.X0 b.X1 ∧ apartI a.X0 a.X1 b.X0 b.X1 ≤ 1048577 := ⟨apart_nn, by unfold apartI; split <;> (try split) <;> omega⟩
      have q2 : 0 ≤ apartI a.Y0 a.Y1 b.Y0 b.Y1 ∧ apartI a.Y0 a.Y1 b.Y0 b.Y1 ≤ 1048577 := ⟨apart_nn, by unfold apartI; split <;> (try split) <;> omega⟩
      go_enter Try.func25, Try.ntmps25
      go_wp2_with (go_at_call 17; refine (uright_nd _ _ _ _ _).mono ?_; rintro e w1 ⟨rfl, hb⟩; obtain ⟨hc, hf⟩ := bcell hb; have hz := hb.size; (try simp at hz); have hz0 : w.heap.size < w1.heap.size := (by omega); have hz1 : w.heap.size + 1 < w1.heap.size := (by omega); have HBl := Lib.hid hb; clear hb)
      have q3 : IntKind.i64.wrap (apartI a.X0 a.X1 b.X0 b.X1 + apartI a.Y0 a.Y1 b.Y0 b.Y1) = apartI a.X0 a.X1 b.X0 b.X1 + apartI a.Y0 a.Y1 b.Y0 b.Y1 := IntWalk.i64_in _ (by omega)
      go_quiet ((go_at_call 37; exact Calls.quiet_of_same (apart_any _ _ _ _ (by unfold In64; omega) (by omega) (by omega) (by omega) (by omega) _)))
      clear q3
      go_wp2
      go_ret
      exact ⟨ret_bl (by rw [Bool.eq_iff_iff]; simp), by (repeat' first | exact Below.refl _ _ | assumption | (apply below_drewN) | (refine Below.setCell ?_ (by (try simp); (try omega)) _) | (refine Below.alloc ?_ (by (try simp); (try omega)) _) | (refine Below.trans ?_ (Below.mono (Hid.out (by assumption)) (by (try simp); (try omega)))))⟩
    · have ob : rokB ⟨b.X0, b.Y0, b.X1, b.Y1⟩ = false := (rokB_no b).2 kb
      rw [show decide (TouchR a b) = false from decide_eq_false (fun h => kb h.2.1)]
      clear kb
      go_enter Try.func25, Try.ntmps25
      go_wp2_with (go_at_call 17; refine (uright_nd _ _ _ _ _).mono ?_; rintro e w1 ⟨rfl, hb⟩; obtain ⟨hc, hf⟩ := bcell hb; have hz := hb.size; (try simp at hz); have hz0 : w.heap.size < w1.heap.size := (by omega); have hz1 : w.heap.size + 1 < w1.heap.size := (by omega); have HBl := Lib.hid hb; clear hb)
      go_ret
      exact ⟨rfl, by (repeat' first | exact Below.refl _ _ | assumption | (apply below_drewN) | (refine Below.setCell ?_ (by (try simp); (try omega)) _) | (refine Below.alloc ?_ (by (try simp); (try omega)) _) | (refine Below.trans ?_ (Below.mono (Hid.out (by assumption)) (by (try simp); (try omega)))))⟩
  · have oa : rokB ⟨a.X0, a.Y0, a.X1, a.Y1⟩ = false := (rokB_no a).2 ka
    rw [show decide (TouchR a b) = false from decide_eq_false (fun h => ka h.1)]
    clear ka
    go_enter Try.func25, Try.ntmps25
    go_wp2_with (go_at_call 17; refine (uright_nd _ _ _ _ _).mono ?_; rintro e w1 ⟨rfl, hb⟩; obtain ⟨hc, hf⟩ := bcell hb; have hz := hb.size; (try simp at hz); have hz0 : w.heap.size < w1.heap.size := (by omega); have hz1 : w.heap.size + 1 < w1.heap.size := (by omega); have HBl := Lib.hid hb; clear hb)
    go_ret
    exact ⟨rfl, by (repeat' first | exact Below.refl _ _ | assumption | (apply below_drewN) | (refine Below.setCell ?_ (by (try simp); (try omega)) _) | (refine Below.alloc ?_ (by (try simp); (try omega)) _) | (refine Below.trans ?_ (Below.mono (Hid.out (by assumption)) (by (try simp); (try omega)))))⟩
end Go.Proofs.Ytpbkmphpgjdpfaa
