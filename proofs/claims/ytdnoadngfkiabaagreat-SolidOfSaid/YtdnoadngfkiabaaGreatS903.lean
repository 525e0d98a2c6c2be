/-
  Contracts of the program's layer 5, as far as layer 6 calls it: Right, extent, overlap, valid, Area, Has, Touch, Bounds.
-/
import Derived.Test.YtdnoadngfkiabaaGreatS901
import Derived.IntWalk
set_option linter.unusedVariables false
set_option maxRecDepth 100000
namespace Go.Proofs.YtdnoadngfkiabaaGreat
open Go.RowKit



theorem tright_nd (X0 Y0 X1 Y1 : Int) (w : World) : Calls Tryz.prog 33 #[.agg #[.int .i64 X0, .int .i64 Y0, .int .i64 X1, .int .i64 Y1]] w (BlIs (rokB ⟨X0, Y0, X1, Y1⟩) w) := by
  by_cases c0 : 0 ≤ X0
  · skip
    by_cases c1 : X0 < X1
    · skip
      by_cases c2 : X1 ≤ 1048576
      · skip
        by_cases c3 : 0 ≤ Y0
        · skip
          by_cases c4 : Y0 < Y1
          · skip
            by_cases c5 : Y1 ≤ 1048576
            · skip
              rw [show rokB ⟨X0, Y0, X1, Y1⟩ = true from decide_eq_true ⟨⟨c0, c1, c2⟩, c3, c4, c5⟩]
              go_enter Tryz.func33, Tryz.ntmps33
              go_wp2
              go_ret
              exact ⟨rfl, by (repeat' first | exact Below.refl _ _ | assumption | (apply below_drewN) | (refine Below.setCell ?_ (by (try simp); (try omega)) _) | (refine Below.alloc ?_ (by (try simp); (try omega)) _) | (refine Below.trans ?_ (Below.mono (Hid.out (by assumption)) (by (try simp); (try omega)))))⟩
            · rw [show rokB ⟨X0, Y0, X1, Y1⟩ = false from decide_eq_false (fun h => c5 h.2.2.2)]
              go_enter Tryz.func33, Tryz.ntmps33
              go_wp2
              go_ret
              exact ⟨by first | rfl | (apply ret_bl; rw [decide_eq_false_iff_not]; omega), by (repeat' first | exact Below.refl _ _ | assumption | (apply below_drewN) | (refine Below.setCell ?_ (by (try simp); (try omega)) _) | (refine Below.alloc ?_ (by (try simp); (try omega)) _) | (refine Below.trans ?_ (Below.mono (Hid.out (by assumption)) (by (try simp); (try omega)))))⟩
          · rw [show rokB ⟨X0, Y0, X1, Y1⟩ = false from decide_eq_false (fun h => c4 h.2.2.1)]
            go_enter Tryz.func33, Tryz.ntmps33
            go_wp2
            go_ret
            exact ⟨by first | rfl | (apply ret_bl; rw [decide_eq_false_iff_not]; omega), by (repeat' first | exact Below.refl _ _ | assumption | (apply below_drewN) | (refine Below.setCell ?_ (by (try simp); (try omega)) _) | (refine Below.alloc ?_ (by (try simp); (try omega)) _) | (refine Below.trans ?_ (Below.mono (Hid.out (by assumption)) (by (try simp); (try omega)))))⟩
        · rw [show rokB ⟨X0, Y0, X1, Y1⟩ = false from decide_eq_false (fun h => c3 h.2.1)]
          go_enter Tryz.func33, Tryz.ntmps33
          go_wp2
          go_ret
          exact ⟨by first | rfl | (apply ret_bl; rw [decide_eq_false_iff_not]; omega), by (repeat' first | exact Below.refl _ _ | assumption | (apply below_drewN) | (refine Below.setCell ?_ (by (try simp); (try omega)) _) | (refine Below.alloc ?_ (by (try simp); (try omega)) _) | (refine Below.trans ?_ (Below.mono (Hid.out (by assumption)) (by (try simp); (try omega)))))⟩
      · rw [show rokB ⟨X0, Y0, X1, Y1⟩ = false from decide_eq_false (fun h => c2 h.1.2.2)]
        go_enter Tryz.func33, Tryz.ntmps33
        go_wp2
        go_ret
        exact ⟨by first | rfl | (apply ret_bl; rw [decide_eq_false_iff_not]; omega), by (repeat' first | exact Below.refl _ _ | assumption | (apply below_drewN) | (refine Below.setCell ?_ (by (try simp); (try omega)) _) | (refine Below.alloc ?_ (by (try simp); (try omega)) _) | (refine Below.trans ?_ (Below.mono (Hid.out (by assumption)) (by (try simp); (try omega)))))⟩
    · rw [show rokB ⟨X0, Y0, X1, Y1⟩ = false from decide_eq_false (fun h => c1 h.1.2.1)]
      go_enter Tryz.func33, Tryz.ntmps33
      go_wp2
      go_ret
      exact ⟨by first | rfl | (apply ret_bl; rw [decide_eq_false_iff_not]; omega), by (repeat' first | exact Below.refl _ _ | assumption | (apply below_drewN) | (refine Below.setCell ?_ (by (try simp); (try omega)) _) | (refine Below.alloc ?_ (by (try simp); (try omega)) _) | (refine Below.trans ?_ (Below.mono (Hid.out (by assumption)) (by (try simp); (try omega)))))⟩
  · rw [show rokB ⟨X0, Y0, X1, Y1⟩ = false from decide_eq_false (fun h => c0 h.1.1)]
    go_enter Tryz.func33, Tryz.ntmps33
    go_wp2
    go_ret
    exact ⟨by first | rfl | (apply ret_bl; rw [decide_eq_false_iff_not]; omega), by (repeat' first | exact Below.refl _ _ | assumption | (apply below_drewN) | (refine Below.setCell ?_ (by (try simp); (try omega)) _) | (refine Below.alloc ?_ (by (try simp); (try omega)) _) | (refine Below.trans ?_ (Below.mono (Hid.out (by assumption)) (by (try simp); (try omega)))))⟩

/-- all four numbers lie within the grid's border. -/
def GridR (r : Rc) : Prop := (0 ≤ r.X0 ∧ r.X0 ≤ 1048576) ∧ (0 ≤ r.Y0 ∧ r.Y0 ≤ 1048576) ∧ (0 ≤ r.X1 ∧ r.X1 ≤ 1048576) ∧ (0 ≤ r.Y1 ∧ r.Y1 ≤ 1048576)
theorem ROk.grid {r : Rc} (h : ROk r) : GridR r := by unfold ROk Span at h; unfold GridR; omega
theorem textent_any (X0 Y0 X1 Y1 : Int) (h : GridR ⟨X0, Y0, X1, Y1⟩) (w : World) : Calls Tryz.prog 97 #[.agg #[.int .i64 X0, .int .i64 Y0, .int .i64 X1, .int .i64 Y1]] w fun e w' => e = .returned (.tuple #[.int .i64 (X1 - X0), .int .i64 (Y1 - Y0)]) ∧ Below w.heap.size w w' := by
  obtain ⟨⟨h1, h2⟩, ⟨h3, h4⟩, ⟨h5, h6⟩, h7, h8⟩ := h
  simp only [] at h1 h2 h3 h4 h5 h6 h7 h8
  go_enter Tryz.func97, Tryz.ntmps97
  have q1 : IntKind.i64.wrap (X1 - X0) = X1 - X0 := IntWalk.i64_in _ (by omega)
  have q2 : IntKind.i64.wrap (Y1 - Y0) = Y1 - Y0 := IntWalk.i64_in _ (by omega)
  go_wp2
  go_quiet (fail)
  go_wp2
  go_ret2
  exact ⟨rfl, by (repeat' first | exact Below.refl _ _ | assumption | (apply below_drewN) | (refine Below.setCell ?_ (by (try simp); (try omega)) _) | (refine Below.alloc ?_ (by (try simp); (try omega)) _) | (refine Below.trans ?_ (Below.mono (Hid.out (by assumption)) (by (try simp); (try omega)))))⟩

/-- a rectangle: in new memory. -/
def RcIs (x : Rc) (w : World) (e : Ending) (w' : World) : Prop := e = .returned (.agg #[.int .i64 x.X0, .int .i64 x.Y0, .int .i64 x.X1, .int .i64 x.Y1]) ∧ Below w.heap.size w w'
theorem RcIs.of {x : Rc} {w w' : World} {a b c d : Int} (ha : a = x.X0) (hb : b = x.Y0) (hc : c = x.X1) (hd : d = x.Y1) (h : Below w.heap.size w w') :
    RcIs x w (.returned (.agg #[.int .i64 a, .int .i64 b, .int .i64 c, .int .i64 d])) w' := by subst ha; subst hb; subst hc; subst hd; exact ⟨rfl, h⟩
set_option maxHeartbeats 4000000 in
theorem tarea_any (r : Rc) (ir : InR r) (w : World) : Calls Tryz.prog 78 #[.agg #[.int .i64 r.X0, .int .i64 r.Y0, .int .i64 r.X1, .int .i64 r.Y1]] w (InIs (areaR r) w) := by
  obtain ⟨i0, i1, i2, i3⟩ := ir
  by_cases k : ROk r
  · have o : rokB ⟨r.X0, r.Y0, r.X1, r.Y1⟩ = true := (rokB_iff r).2 k
    obtain ⟨⟨h1, h2, h3⟩, h4, h5, h6⟩ := k
    have hm := Int.mul_le_mul (show r.X1 - r.X0 ≤ 1048576 by omega) (show r.Y1 - r.Y0 ≤ 1048576 by omega) (by omega) (by omega)
    have hm0 := Int.mul_nonneg (show 0 ≤ r.X1 - r.X0 by omega) (show 0 ≤ r.Y1 - r.Y0 by omega)
    rw [area_ok ⟨⟨h1, h2, h3⟩, h4, h5, h6⟩]
    go_enter Tryz.func78, Tryz.ntmps78
    go_wp2_with fail
    refine (tright_nd _ _ _ _ _).mono ?_
    rintro e w1 ⟨rfl, hb⟩
    obtain ⟨hc, hf⟩ := bcell hb; have hz := hb.size; (try simp at hz); have hz0 : w.heap.size < w1.heap.size := (by omega); have HBl := Lib.hid hb; clear hb
    go_wp2_with fail
    refine (textent_any _ _ _ _ (by unfold GridR; simp only []; omega) _).mono ?_
    rintro e w2 ⟨rfl, hb2⟩
    have hz2 := hb2.size
    have HB2 := Lib.hid hb2; clear hb2
    go_wp2
    go_ret
    exact InIs.of (by first | rfl | omega) (by (repeat' first | exact Below.refl _ _ | assumption | (apply below_drewN) | (refine Below.setCell ?_ (by (try simp); (try omega)) _) | (refine Below.alloc ?_ (by (try simp); (try omega)) _) | (refine Below.trans ?_ (Below.mono (Hid.out (by assumption)) (by (try simp); (try omega))))))
  · have o : rokB ⟨r.X0, r.Y0, r.X1, r.Y1⟩ = false := (rokB_no r).2 k
    rw [area_no k]
    clear k
    go_enter Tryz.func78, Tryz.ntmps78
    go_wp2_with (go_at_call 33; refine (tright_nd _ _ _ _ _).mono ?_; rintro e w1 ⟨rfl, hb⟩; obtain ⟨hc, hf⟩ := bcell hb; have hz := hb.size; (try simp at hz); have hz0 : w.heap.size < w1.heap.size := (by omega); have HBl := Lib.hid hb; clear hb)
    go_ret
    exact ⟨rfl, by (repeat' first | exact Below.refl _ _ | assumption | (apply below_drewN) | (refine Below.setCell ?_ (by (try simp); (try omega)) _) | (refine Below.alloc ?_ (by (try simp); (try omega)) _) | (refine Below.trans ?_ (Below.mono (Hid.out (by assumption)) (by (try simp); (try omega)))))⟩

set_option maxHeartbeats 4000000 in
theorem thas_any (r : Rc) (x y : Int) (ir : InR r) (w : World) : Calls Tryz.prog 82 #[.agg #[.int .i64 r.X0, .int .i64 r.Y0, .int .i64 r.X1, .int .i64 r.Y1], .int .i64 x, .int .i64 y] w (BlIs (decide (HasR r x y)) w) := by
  by_cases k : ROk r
  · have o : rokB ⟨r.X0, r.Y0, r.X1, r.Y1⟩ = true := (rokB_iff r).2 k
    by_cases c0 : r.X0 ≤ x
    · skip
      by_cases c1 : x < r.X1
      · skip
        by_cases c2 : r.Y0 ≤ y
        · skip
          by_cases c3 : y < r.Y1
          · skip
            rw [show decide (HasR r x y) = true from decide_eq_true ⟨k, c0, c1, c2, c3⟩]
            go_enter Tryz.func82, Tryz.ntmps82
            go_wp2_with (go_at_call 33; refine (tright_nd _ _ _ _ _).mono ?_; rintro e w1 ⟨rfl, hb⟩; obtain ⟨hc, hf⟩ := bcell hb; have hz := hb.size; (try simp at hz); have hz0 : w.heap.size < w1.heap.size := (by omega); have HBl := Lib.hid hb; clear hb)
            go_ret
            exact ⟨rfl, by (repeat' first | exact Below.refl _ _ | assumption | (apply below_drewN) | (refine Below.setCell ?_ (by (try simp); (try omega)) _) | (refine Below.alloc ?_ (by (try simp); (try omega)) _) | (refine Below.trans ?_ (Below.mono (Hid.out (by assumption)) (by (try simp); (try omega)))))⟩
          · rw [show decide (HasR r x y) = false from decide_eq_false (fun h => c3 h.2.2.2.2)]
            go_enter Tryz.func82, Tryz.ntmps82
            go_wp2_with (go_at_call 33; refine (tright_nd _ _ _ _ _).mono ?_; rintro e w1 ⟨rfl, hb⟩; obtain ⟨hc, hf⟩ := bcell hb; have hz := hb.size; (try simp at hz); have hz0 : w.heap.size < w1.heap.size := (by omega); have HBl := Lib.hid hb; clear hb)
            go_ret
            exact ⟨ret_bl (by first | rfl | (rw [decide_eq_false_iff_not]; omega)), by (repeat' first | exact Below.refl _ _ | assumption | (apply below_drewN) | (refine Below.setCell ?_ (by (try simp); (try omega)) _) | (refine Below.alloc ?_ (by (try simp); (try omega)) _) | (refine Below.trans ?_ (Below.mono (Hid.out (by assumption)) (by (try simp); (try omega)))))⟩
        · rw [show decide (HasR r x y) = false from decide_eq_false (fun h => c2 h.2.2.2.1)]
          go_enter Tryz.func82, Tryz.ntmps82
          go_wp2_with (go_at_call 33; refine (tright_nd _ _ _ _ _).mono ?_; rintro e w1 ⟨rfl, hb⟩; obtain ⟨hc, hf⟩ := bcell hb; have hz := hb.size; (try simp at hz); have hz0 : w.heap.size < w1.heap.size := (by omega); have HBl := Lib.hid hb; clear hb)
          go_ret
          exact ⟨rfl, by (repeat' first | exact Below.refl _ _ | assumption | (apply below_drewN) | (refine Below.setCell ?_ (by (try simp); (try omega)) _) | (refine Below.alloc ?_ (by (try simp); (try omega)) _) | (refine Below.trans ?_ (Below.mono (Hid.out (by assumption)) (by (try simp); (try omega)))))⟩
      · rw [show decide (HasR r x y) = false from decide_eq_false (fun h => c1 h.2.2.1)]
        go_enter Tryz.func82, Tryz.ntmps82
        go_wp2_with (go_at_call 33; refine (tright_nd _ _ _ _ _).mono ?_; rintro e w1 ⟨rfl, hb⟩; obtain ⟨hc, hf⟩ := bcell hb; have hz := hb.size; (try simp at hz); have hz0 : w.heap.size < w1.heap.size := (by omega); have HBl := Lib.hid hb; clear hb)
        go_ret
        exact ⟨rfl, by (repeat' first | exact Below.refl _ _ | assumption | (apply below_drewN) | (refine Below.setCell ?_ (by (try simp); (try omega)) _) | (refine Below.alloc ?_ (by (try simp); (try omega)) _) | (refine Below.trans ?_ (Below.mono (Hid.out (by assumption)) (by (try simp); (try omega)))))⟩
    · rw [show decide (HasR r x y) = false from decide_eq_false (fun h => c0 h.2.1)]
      go_enter Tryz.func82, Tryz.ntmps82
      go_wp2_with (go_at_call 33; refine (tright_nd _ _ _ _ _).mono ?_; rintro e w1 ⟨rfl, hb⟩; obtain ⟨hc, hf⟩ := bcell hb; have hz := hb.size; (try simp at hz); have hz0 : w.heap.size < w1.heap.size := (by omega); have HBl := Lib.hid hb; clear hb)
      go_ret
      exact ⟨rfl, by (repeat' first | exact Below.refl _ _ | assumption | (apply below_drewN) | (refine Below.setCell ?_ (by (try simp); (try omega)) _) | (refine Below.alloc ?_ (by (try simp); (try omega)) _) | (refine Below.trans ?_ (Below.mono (Hid.out (by assumption)) (by (try simp); (try omega)))))⟩
  · have o : rokB ⟨r.X0, r.Y0, r.X1, r.Y1⟩ = false := (rokB_no r).2 k
    rw [show decide (HasR r x y) = false from decide_eq_false (fun h => k h.1)]
    clear k
    go_enter Tryz.func82, Tryz.ntmps82
    go_wp2_with (go_at_call 33; refine (tright_nd _ _ _ _ _).mono ?_; rintro e w1 ⟨rfl, hb⟩; obtain ⟨hc, hf⟩ := bcell hb; have hz := hb.size; (try simp at hz); have hz0 : w.heap.size < w1.heap.size := (by omega); have HBl := Lib.hid hb; clear hb)
    go_ret
    exact ⟨rfl, by (repeat' first | exact Below.refl _ _ | assumption | (apply below_drewN) | (refine Below.setCell ?_ (by (try simp); (try omega)) _) | (refine Below.alloc ?_ (by (try simp); (try omega)) _) | (refine Below.trans ?_ (Below.mono (Hid.out (by assumption)) (by (try simp); (try omega)))))⟩



theorem RcAt.set {w : World} {b : Nat} {r s : Rc} (h : RcAt w b r) {x0 y0 x1 y1 : Int} (h0 : x0 = s.X0) (h1 : y0 = s.Y0) (h2 : x1 = s.X1) (h3 : y1 = s.Y1) :
    RcAt ((((w.setCell ⟨b, 0, none⟩ (.int .i64 x0)).setCell ⟨b, 1, none⟩ (.int .i64 y0)).setCell ⟨b, 2, none⟩ (.int .i64 x1)).setCell ⟨b, 3, none⟩ (.int .i64 y1)) b s := by
  subst h0; subst h1; subst h2; subst h3
  unfold RcAt at h ⊢
  simp [World.setCell, Array.getElem?_modify, h]
theorem RcAt.far {w : World} {b c i : Nat} {r : Rc} {v : Value} (h : RcAt w b r) (hc : b ≠ c) : RcAt (w.setCell ⟨c, i, none⟩ v) b r := by
  unfold RcAt at h ⊢
  simp [World.setCell, Array.getElem?_modify, h, hc.symm]
/-- the two blocks of Bounds: the result's, and the rectangle so far. -/
def Out2 (p : Nat) (s : Rc) (w0 w : World) : Prop := RcAt w p zR ∧ RcAt w (p + 1) s ∧ Below w0.heap.size w0 w ∧ w0.heap.size ≤ p
theorem Out2.go {p : Nat} {s : Rc} {w0 w w' : World} (h : Out2 p s w0 w) (hb : Below w.heap.size w w') : Out2 p s w0 w' :=
  ⟨h.1.below hb h.1.lt, h.2.1.below hb h.2.1.lt, h.2.2.1.trans (hb.mono h.2.2.1.size), h.2.2.2⟩
theorem Out2.set {p : Nat} {r s : Rc} {w0 w : World} (h : Out2 p r w0 w) {x0 y0 x1 y1 : Int} (h0 : x0 = s.X0) (h1 : y0 = s.Y0) (h2 : x1 = s.X1) (h3 : y1 = s.Y1) :
    Out2 p s w0 ((((w.setCell ⟨p + 1, 0, none⟩ (.int .i64 x0)).setCell ⟨p + 1, 1, none⟩ (.int .i64 y0)).setCell ⟨p + 1, 2, none⟩ (.int .i64 x1)).setCell ⟨p + 1, 3, none⟩ (.int .i64 y1)) :=
  ⟨(((h.1.far (by omega)).far (by omega)).far (by omega)).far (by omega), h.2.1.set h0 h1 h2 h3,
    have hp := h.2.2.2; (((h.2.2.1.setCell (by simp; omega) _).setCell (by simp; omega) _).setCell (by simp; omega) _).setCell (by simp; omega) _, h.2.2.2⟩
end Go.Proofs.YtdnoadngfkiabaaGreat
