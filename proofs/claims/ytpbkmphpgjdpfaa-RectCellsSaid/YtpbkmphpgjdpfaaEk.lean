/-
  Contracts of the program's layer 5 (1): Right, extent, overlap, valid, spread, Has, Area.
-/
import Derived.Test.YtpbkmphpgjdpfaaEc
import Derived.IntWalk
set_option linter.unusedVariables false
set_option maxRecDepth 100000
namespace Go.Proofs.Ytpbkmphpgjdpfaa
open Go.RowKit

theorem tright_nd (X0 Y0 X1 Y1 : Int) (w : World) : Calls Try.prog 16 #[.agg #[.int .i64 X0, .int .i64 Y0, .int .i64 X1, .int .i64 Y1]] w (BlIs (rokB ⟨X0, Y0, X1, Y1⟩) w) := by
  by_cases c0 : 0 ≤ X0
  · skip
    by_cases c1 : X0 < X1
    · skip
      by_cases c2 : X1 ≤ 1048576
      · skip
        by_cases c3 : 0 ≤ Y0
        · skip
          by_cases c4 : Y0 < Y1
          · skip
            by_cases c5 : Y1 ≤ 1048576
            · skip
              rw [show rokB ⟨X0, Y0, X1, Y1⟩ = true from decide_eq_true ⟨⟨c0, c1, c2⟩, c3, c4, c5⟩]
              go_enter Try.func16, Try.ntmps16
              go_wp2
              go_ret
              exact ⟨rfl, by (repeat' first | exact Below.refl _ _ | assumption | (apply below_drewN) | (refine Below.setCell ?_ (by (try simp); (try omega)) _) | (refine Below.alloc ?_ (by (try simp); (try omega)) _) | (refine Below.trans ?_ (Below.mono (Hid.out (by assumption)) (by (try simp); (try omega)))))⟩
            · rw [show rokB ⟨X0, Y0, X1, Y1⟩ = false from decide_eq_false (fun h => c5 h.2.2.2)]
              go_enter Try.func16, Try.ntmps16
              go_wp2
              go_ret
              exact ⟨by first | rfl | (apply ret_bl; rw [decide_eq_false_iff_not]; omega), by (repeat' first | exact Below.refl _ _ | assumption | (apply below_drewN) | (refine Below.setCell ?_ (by (try simp); (try omega)) _) | (refine Below.alloc ?_ (by (try simp); (try omega)) _) | (refine Below.trans ?_ (Below.mono (Hid.out (by assumption)) (by (try simp); (try omega)))))⟩
          · rw [show rokB ⟨X0, Y0, X1, Y1⟩ = false from decide_eq_false (fun h => c4 h.2.2.1)]
            go_enter Try.func16, Try.ntmps16
            go_wp2
            go_ret
            exact ⟨by first | rfl | (apply ret_bl; rw [decide_eq_false_iff_not]; omega), by (repeat' first | exact Below.refl _ _ | assumption | (apply below_drewN) | (refine Below.setCell ?_ (by (try simp); (try omega)) _) | (refine Below.alloc ?_ (by (try simp); (try omega)) _) | (refine Below.trans ?_ (Below.mono (Hid.out (by assumption)) (by (try simp); (try omega)))))⟩
        · rw [show rokB ⟨X0, Y0, X1, Y1⟩ = false from decide_eq_false (fun h => c3 h.2.1)]
          go_enter Try.func16, Try.ntmps16
          go_wp2
          go_ret
          exact ⟨by first | rfl | (apply ret_bl; rw [decide_eq_false_iff_not]; omega), by (repeat' first | exact Below.refl _ _ | assumption | (apply below_drewN) | (refine Below.setCell ?_ (by (try simp); (try omega)) _) | (refine Below.alloc ?_ (by (try simp); (try omega)) _) | (refine Below.trans ?_ (Below.mono (Hid.out (by assumption)) (by (try simp); (try omega)))))⟩
      · rw [show rokB ⟨X0, Y0, X1, Y1⟩ = false from decide_eq_false (fun h => c2 h.1.2.2)]
        go_enter Try.func16, Try.ntmps16
        go_wp2
        go_ret
        exact ⟨by first | rfl | (apply ret_bl; rw [decide_eq_false_iff_not]; omega), by (repeat' first | exact Below.refl _ _ | assumption | (apply below_drewN) | (refine Below.setCell ?_ (by (try simp); (try omega)) _) | (refine Below.alloc ?_ (by (try simp); (try omega)) _) | (refine Below.trans ?_ (Below.mono (Hid.out (by assumption)) (by (try simp); (try omega)))))⟩
    · rw [show rokB ⟨X0, Y0, X1, Y1⟩ = false from decide_eq_false (fun h => c1 h.1.2.1)]
      go_enter Try.func16, Try.ntmps16
      go_wp2
      go_ret
      exact ⟨by first | rfl | (apply ret_bl; rw [decide_eq_false_iff_not]; omega), by (repeat' first | exact Below.refl _ _ | assumption | (apply below_drewN) | (refine Below.setCell ?_ (by (try simp); (try omega)) _) | (refine Below.alloc ?_ (by (try simp); (try omega)) _) | (refine Below.trans ?_ (Below.mono (Hid.out (by assumption)) (by (try simp); (try omega)))))⟩
  · rw [show rokB ⟨X0, Y0, X1, Y1⟩ = false from decide_eq_false (fun h => c0 h.1.1)]
    go_enter Try.func16, Try.ntmps16
    go_wp2
    go_ret
    exact ⟨by first | rfl | (apply ret_bl; rw [decide_eq_false_iff_not]; omega), by (repeat' first | exact Below.refl _ _ | assumption | (apply below_drewN) | (refine Below.setCell ?_ (by (try simp); (try omega)) _) | (refine Below.alloc ?_ (by (try simp); (try omega)) _) | (refine Below.trans ?_ (Below.mono (Hid.out (by assumption)) (by (try simp); (try omega)))))⟩

/-- all four numbers lie within the grid's border. -/
def GridR (r : Rc) : Prop := (0 ≤ r.X0 ∧ r.X0 ≤ 1048576) ∧ (0 ≤ r.Y0 ∧ r.Y0 ≤ 1048576) ∧ (0 ≤ r.X1 ∧ r.X1 ≤ 1048576) ∧ (0 ≤ r.Y1 ∧ r.Y1 ≤ 1048576)
theorem ROk.grid {r : Rc} (h : ROk r) : GridR r := by unfold ROk Span at h; unfold GridR; omega
theorem GridR.meet {a b : Rc} (ha : GridR a) (hb : GridR b) : GridR (meetR a b) := by unfold GridR at *; simp only [meetR]; omega
theorem textent_any (X0 Y0 X1 Y1 : Int) (h : GridR ⟨X0, Y0, X1, Y1⟩) (w : World) : Calls Try.prog 36 #[.agg #[.int .i64 X0, .int .i64 Y0, .int .i64 X1, .int .i64 Y1]] w fun e w' => e = .returned (.tuple #[.int .i64 (X1 - X0), .int .i64 (Y1 - Y0)]) ∧ Below w.heap.size w w' := by
  obtain ⟨⟨h1, h2⟩, ⟨h3, h4⟩, ⟨h5, h6⟩, h7, h8⟩ := h
  simp only [] at h1 h2 h3 h4 h5 h6 h7 h8
  go_enter Try.func36, Try.ntmps36
  have q1 : IntKind.i64.wrap (X1 - X0) = X1 - X0 := IntWalk.i64_in _ (by omega)
  have q2 : IntKind.i64.wrap (Y1 - Y0) = Y1 - Y0 := IntWalk.i64_in _ (by omega)
  go_wp2
  go_quiet (fail)
  go_wp2
  go_ret2
  exact ⟨rfl, by (repeat' first | exact Below.refl _ _ | assumption | (apply below_drewN) | (refine Below.setCell ?_ (by (try simp); (try omega)) _) | (refine Below.alloc ?_ (by (try simp); (try omega)) _) | (refine Below.trans ?_ (Below.mono (Hid.out (by assumption)) (by (try simp); (try omega)))))⟩

/-- a rectangle: in new memory. -/
def RcIs (x : Rc) (w : World) (e : Ending) (w' : World) : Prop := e = .returned (.agg #[.int .i64 x.X0, .int .i64 x.Y0, .int .i64 x.X1, .int .i64 x.Y1]) ∧ Below w.heap.size w w'
theorem RcIs.of {x : Rc} {w w' : World} {a b c d : Int} (ha : a = x.X0) (hb : b = x.Y0) (hc : c = x.X1) (hd : d = x.Y1) (h : Below w.heap.size w w') :
    RcIs x w (.returned (.agg #[.int .i64 a, .int .i64 b, .int .i64 c, .int .i64 d])) w' := by subst ha; subst hb; subst hc; subst hd; exact ⟨rfl, h⟩
set_option maxHeartbeats 4000000 in
theorem toverlap_any (a b : Rc) (w : World) : Calls Try.prog 33 #[.agg #[.int .i64 a.X0, .int .i64 a.Y0, .int .i64 a.X1, .int .i64 a.Y1], .agg #[.int .i64 b.X0, .int .i64 b.Y0, .int .i64 b.X1, .int .i64 b.Y1]] w (RcIs (meetR a b) w) := by
  go_enter Try.func33, Try.ntmps33
  go_wp2_with fail
  all_goals exact bodyPost_ret (v := .agg #[.int .i64 (meetR a b).X0, .int .i64 (meetR a b).Y0, .int .i64 (meetR a b).X1, .int .i64 (meetR a b).Y1]) (by simp [results, Try.results33, go_sem, *, meetR] <;> omega) rfl (RcIs.of rfl rfl rfl rfl (by (repeat' first | exact Below.refl _ _ | assumption | (apply below_drewN) | (refine Below.setCell ?_ (by (try simp); (try omega)) _) | (refine Below.alloc ?_ (by (try simp); (try omega)) _) | (refine Below.trans ?_ (Below.mono (Hid.out (by assumption)) (by (try simp); (try omega)))))))

def validR (r : Rc) : Rc × Bool := if ROk r then (r, true) else (zR, false)
set_option maxHeartbeats 4000000 in
theorem tvalid_any (r : Rc) (w : World) : Calls Try.prog 32 #[.agg #[.int .i64 r.X0, .int .i64 r.Y0, .int .i64 r.X1, .int .i64 r.Y1]] w (RbIs (validR r) w) := by
  by_cases k : ROk r
  · have o : rokB ⟨r.X0, r.Y0, r.X1, r.Y1⟩ = true := (rokB_iff r).2 k
    rw [show validR r = (r, true) from if_pos k]
    clear k
    go_enter Try.func32, Try.ntmps32
    go_wp2_with (go_at_call 16; refine (tright_nd _ _ _ _ _).mono ?_; rintro e w1 ⟨rfl, hb⟩; obtain ⟨hc, hf⟩ := bcell hb; have hz := hb.size; (try simp at hz); have hz0 : w.heap.size < w1.heap.size := (by omega); have HBl := Lib.hid hb; clear hb)
    exact bodyPost_ret (v := .tuple #[.agg #[.int .i64 r.X0, .int .i64 r.Y0, .int .i64 r.X1, .int .i64 r.Y1], .bool true]) (by simp [results, Try.results32, go_sem, *]) rfl (RbIs.of rfl rfl rfl rfl rfl (by (repeat' first | exact Below.refl _ _ | assumption | (apply below_drewN) | (refine Below.setCell ?_ (by (try simp); (try omega)) _) | (refine Below.alloc ?_ (by (try simp); (try omega)) _) | (refine Below.trans ?_ (Below.mono (Hid.out (by assumption)) (by (try simp); (try omega)))))))
  · have o : rokB ⟨r.X0, r.Y0, r.X1, r.Y1⟩ = false := (rokB_no r).2 k
    rw [show validR r = (zR, false) from if_neg k]
    clear k
    go_enter Try.func32, Try.ntmps32
    go_wp2_with (go_at_call 16; refine (tright_nd _ _ _ _ _).mono ?_; rintro e w1 ⟨rfl, hb⟩; obtain ⟨hc, hf⟩ := bcell hb; have hz := hb.size; (try simp at hz); have hz0 : w.heap.size < w1.heap.size := (by omega); have HBl := Lib.hid hb; clear hb)
    exact bodyPost_ret (v := .tuple #[.agg #[.int .i64 0, .int .i64 0, .int .i64 0, .int .i64 0], .bool false]) (by simp [results, Try.results32, go_sem, *]) rfl (RbIs.of rfl rfl rfl rfl rfl (by (repeat' first | exact Below.refl _ _ | assumption | (apply below_drewN) | (refine Below.setCell ?_ (by (try simp); (try omega)) _) | (refine Below.alloc ?_ (by (try simp); (try omega)) _) | (refine Below.trans ?_ (Below.mono (Hid.out (by assumption)) (by (try simp); (try omega)))))))

def spreadR (r : Rc) (d : Int) : Rc := ⟨max (r.X0 - d) 0, max (r.Y0 - d) 0, min (r.X1 + d) 1048576, min (r.Y1 + d) 1048576⟩
set_option maxHeartbeats 4000000 in
theorem tspread_any (r : Rc) (d : Int) (h : GridR r) (hd : -1048576 ≤ d ∧ d ≤ 1048576) (w : World) : Calls Try.prog 34 #[.agg #[.int .i64 r.X0, .int .i64 r.Y0, .int .i64 r.X1, .int .i64 r.Y1], .int .i64 d] w (RcIs (spreadR r d) w) := by
  obtain ⟨⟨h1, h2⟩, ⟨h3, h4⟩, ⟨h5, h6⟩, h7, h8⟩ := h
  obtain ⟨d1, d2⟩ := hd
  go_enter Try.func34, Try.ntmps34
  go_wp2_with fail
  all_goals exact bodyPost_ret (v := .agg #[.int .i64 (spreadR r d).X0, .int .i64 (spreadR r d).Y0, .int .i64 (spreadR r d).X1, .int .i64 (spreadR r d).Y1]) (by simp [results, Try.results34, go_sem, *, spreadR] <;> omega) rfl (RcIs.of rfl rfl rfl rfl (by (repeat' first | exact Below.refl _ _ | assumption | (apply below_drewN) | (refine Below.setCell ?_ (by (try simp); (try omega)) _) | (refine Below.alloc ?_ (by (try simp); (try omega)) _) | (refine Below.trans ?_ (Below.mono (Hid.out (by assumption)) (by (try simp); (try omega)))))))

set_option maxHeartbeats 4000000 in
theorem tarea_any (r : Rc) (ir : InR r) (w : World) : Calls Try.prog 18 #[.agg #[.int .i64 r.X0, .int .i64 r.Y0, .int .i64 r.X1, .int .i64 r.Y1]] w (InIs (areaR r) w) := by
  obtain ⟨i0, i1, i2, i3⟩ := ir
  by_cases k : ROk r
  · have o : rokB ⟨r.X0, r.Y0, r.X1, r.Y1⟩ = true := (rokB_iff r).2 k
    obtain ⟨⟨h1, h2, h3⟩, h4, h5, h6⟩ := k
    have hm := Int.mul_le_mul (show r.X1 - r.X0 ≤ 1048576 by omega) (show r.Y1 - r.Y0 ≤ 1048576 by omega) (by omega) (by omega)
    have hm0 := Int.mul_nonneg (show 0 ≤ r.X1 - r.X0 by omega) (show 0 ≤ r.Y1 - r.Y0 by omega)
    rw [area_ok ⟨⟨h1, h2, h3⟩, h4, h5, h6⟩]
    go_enter Try.func18, Try.ntmps18
    go_wp2_with fail
    refine (tright_nd _ _ _ _ _).mono ?_
    rintro e w1 ⟨rfl, hb⟩
    obtain ⟨hc, hf⟩ := bcell hb; have hz := hb.size; (try simp at hz); have hz0 : w.heap.size < w1.heap.size := (by omega); have HBl := Lib.hid hb; clear hb
    go_wp2_with fail
    refine (textent_any _ _ _ _ (by unfold GridR; simp only []; omega) _).mono ?_
    rintro e w2 ⟨rfl, hb2⟩
    have hz2 := hb2.size
    have HB2 := Lib.hid hb2; clear hb2
    go_wp2
    go_ret
    exact InIs.of (by first | rfl | omega) (by (repeat' first | exact Below.refl _ _ | assumption | (apply below_drewN) | (refine Below.setCell ?_ (by (try simp); (try omega)) _) | (refine Below.alloc ?_ (by (try simp); (try omega)) _) | (refine Below.trans ?_ (Below.mono (Hid.out (by assumption)) (by (try simp); (try omega))))))
  · have o : rokB ⟨r.X0, r.Y0, r.X1, r.Y1⟩ = false := (rokB_no r).2 k
    rw [area_no k]
    clear k
    go_enter Try.func18, Try.ntmps18
    go_wp2_with (go_at_call 16; refine (tright_nd _ _ _ _ _).mono ?_; rintro e w1 ⟨rfl, hb⟩; obtain ⟨hc, hf⟩ := bcell hb; have hz := hb.size; (try simp at hz); have hz0 : w.heap.size < w1.heap.size := (by omega); have HBl := Lib.hid hb; clear hb)
    go_ret
    exact ⟨rfl, by (repeat' first | exact Below.refl _ _ | assumption | (apply below_drewN) | (refine Below.setCell ?_ (by (try simp); (try omega)) _) | (refine Below.alloc ?_ (by (try simp); (try omega)) _) | (refine Below.trans ?_ (Below.mono (Hid.out (by assumption)) (by (try simp); (try omega)))))⟩

set_option maxHeartbeats 4000000 in
theorem thas_any (r : Rc) (x y : Int) (ir : InR r) (w : World) : Calls Try.prog 20 #[.agg #[.int .i64 r.X0, .int .i64 r.Y0, .int .i64 r.X1, .int .i64 r.Y1], .int .i64 x, .int .i64 y] w (BlIs (decide (HasR r x y)) w) := by
  by_cases k : ROk r
  · have o : rokB ⟨r.X0, r.Y0, r.X1, r.Y1⟩ = true := (rokB_iff r).2 k
    by_cases c0 : r.X0 ≤ x
    · skip
      by_cases c1 : x < r.X1
      · skip
        by_cases c2 : r.Y0 ≤ y
        · skip
          by_cases c3 : y < r.Y1
          · skip
            rw [show decide (HasR r x y) = true from decide_eq_true ⟨k, c0, c1, c2, c3⟩]
            go_enter Try.func20, Try.ntmps20
            go_wp2_with (go_at_call 16; refine (tright_nd _ _ _ _ _).mono ?_; rintro e w1 ⟨rfl, hb⟩; obtain ⟨hc, hf⟩ := bcell hb; have hz := hb.size; (try simp at hz); have hz0 : w.heap.size < w1.heap.size := (by omega); have HBl := Lib.hid hb; clear hb)
            go_ret
            exact ⟨rfl, by (repeat' first | exact Below.refl _ _ | assumption | (apply below_drewN) | (refine Below.setCell ?_ (by (try simp); (try omega)) _) | (refine Below.alloc ?_ (by (try simp); (try omega)) _) | (refine Below.trans ?_ (Below.mono (Hid.out (by assumption)) (by (try simp); (try omega)))))⟩
          · rw [show decide (HasR r x y) = false from decide_eq_false (fun h => c3 h.2.2.2.2)]
            go_enter Try.func20, Try.ntmps20
            go_wp2_with (go_at_call 16; refine (tright_nd _ _ _ _ _).mono ?_; rintro e w1 ⟨rfl, hb⟩; obtain ⟨hc, hf⟩ := bcell hb; have hz := hb.size; (try simp at hz); have hz0 : w.heap.size < w1.heap.size := (by omega); have HBl := Lib.hid hb; clear hb)
            go_ret
            exact ⟨ret_bl (by first | rfl | (rw [decide_eq_false_iff_not]; omega)), by (repeat' first | exact Below.refl _ _ | assumption | (apply below_drewN) | (refine Below.setCell ?_ (by (try simp); (try omega)) _) | (refine Below.alloc ?_ (by (try simp); (try omega)) _) | (refine Below.trans ?_ (Below.mono (Hid.out (by assumption)) (by (try simp); (try omega)))))⟩
        · rw [show decide (HasR r x y) = false from decide_eq_false (fun h => c2 h.2.2.2.1)]
          go_enter Try.func20, Try.ntmps20
          go_wp2_with (go_at_call 16; refine (tright_nd _ _ _ _ _).mono ?_; rintro e w1 ⟨rfl, hb⟩; obtain ⟨hc, hf⟩ := bcell hb; have hz := hb.size; (try simp at hz); have hz0 : w.heap.size < w1.heap.size := (by omega); have HBl := Lib.hid hb; clear hb)
          go_ret
          exact ⟨rfl, by (repeat' first | exact Below.refl _ _ | assumption | (apply below_drewN) | (refine Below.setCell ?_ (by (try simp); (try omega)) _) | (refine Below.alloc ?_ (by (try simp); (try omega)) _) | (refine Below.trans ?_ (Below.mono (Hid.out (by assumption)) (by (try simp); (try omega)))))⟩
      · rw [show decide (HasR r x y) = false from decide_eq_false (fun h => c1 h.2.2.1)]
        go_enter Try.func20, Try.ntmps20
        go_wp2_with (go_at_call 16; refine (tright_nd _ _ _ _ _).mono ?_; rintro e w1 ⟨rfl, hb⟩; obtain ⟨hc, hf⟩ := bcell hb; have hz := hb.size; (try simp at hz); have hz0 : w.heap.size < w1.heap.size := (by omega); have HBl := Lib.hid hb; clear hb)
        go_ret
        exact ⟨rfl, by (repeat' first | exact Below.refl _ _ | assumption | (apply below_drewN) | (refine Below.setCell ?_ (by (try simp); (try omega)) _) | (refine Below.alloc ?_ (by (try simp); (try omega)) _) | (refine Below.trans ?_ (Below.mono (Hid.out (by assumption)) (by (try simp); (try omega)))))⟩
    · rw [show decide (HasR r x y) = false from decide_eq_false (fun h => c0 h.2.1)]
      go_enter Try.func20, Try.ntmps20
      go_wp2_with (go_at_call 16; refine (tright_nd _ _ _ _ _).mono ?_; rintro e w1 ⟨rfl, hb⟩; obtain ⟨hc, hf⟩ := bcell hb; have hz := hb.size; (try simp at hz); have hz0 : w.heap.size < w1.heap.size := (by omega); have HBl := Lib.hid hb; clear hb)
      go_ret
      exact ⟨rfl, by (repeat' first | exact Below.refl _ _ | assumption | (apply below_drewN) | (refine Below.setCell ?_ (by (try simp); (try omega)) _) | (refine Below.alloc ?_ (by (try simp); (try omega)) _) | (refine Below.trans ?_ (Below.mono (Hid.out (by assumption)) (by (try simp); (try omega)))))⟩
  · have o : rokB ⟨r.X0, r.Y0, r.X1, r.Y1⟩ = false := (rokB_no r).2 k
    rw [show decide (HasR r x y) = false from decide_eq_false (fun h => k h.1)]
    clear k
    go_enter Try.func20, Try.ntmps20
    go_wp2_with (go_at_call 16; refine (tright_nd _ _ _ _ _).mono ?_; rintro e w1 ⟨rfl, hb⟩; obtain ⟨hc, hf⟩ := bcell hb; have hz := hb.size; (try simp at hz); have hz0 : w.heap.size < w1.heap.size := (by omega); have HBl := Lib.hid hb; clear hb)
    go_ret
    exact ⟨rfl, by (repeat' first | exact Below.refl _ _ | assumption | (apply below_drewN) | (refine Below.setCell ?_ (by (try simp); (try omega)) _) | (refine Below.alloc ?_ (by (try simp); (try omega)) _) | (refine Below.trans ?_ (Below.mono (Hid.out (by assumption)) (by (try simp); (try omega)))))⟩

end Go.Proofs.Ytpbkmphpgjdpfaa
