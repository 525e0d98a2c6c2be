/-
  Contracts of the program's layer 5, as far as layer 6 calls it: Right, extent, overlap, valid, Area, Has, Touch, Bounds.
-/
import Derived.Test.YtngddecpfhlilaaGreatC01
import Derived.IntWalk
set_option linter.unusedVariables false
set_option maxRecDepth 100000
namespace Go.Proofs.YtngddecpfhlilaaGreat
open Go.RowKit
theorem tright_nd (X0 Y0 X1 Y1 : Int) (w : World) : Calls Tryz.prog 63 #[.agg #[.int .i64 X0, .int .i64 Y0, .int .i64 X1, .int .i64 Y1]] w (BlIs (rokB ⟨X0, Y0, X1, Y1⟩) w) := by
 by_cases c0 : 0 ≤ X0
 ·skip
  by_cases c1 : X0 < X1
  ·skip
   by_cases c2 : X1 ≤ 1048576
   ·skip
    by_cases c3 : 0 ≤ Y0
    ·skip
     by_cases c4 : Y0 < Y1
     ·skip
      by_cases c5 : Y1 ≤ 1048576
      ·skip
       rw [show rokB ⟨X0, Y0, X1, Y1⟩ = true from decide_eq_true ⟨⟨c0, c1, c2⟩, c3, c4, c5⟩]
       go_enter Tryz.func63, Tryz.ntmps63
       go_wp2
       go_ret
       exact ⟨rfl, by (repeat' first | exact Below.refl _ _ | assumption | (apply below_drewN) | (refine Below.setCell ?_ (by (try simp); (try omega)) _) | (refine Below.alloc ?_ (by (try simp); (try omega)) _) | (refine Below.trans ?_ (Below.mono (Hid.out (by assumption)) (by (try simp); (try omega)))))⟩
      ·rw [show rokB ⟨X0, Y0, X1, Y1⟩ = false from decide_eq_false (fun h => c5 h.2.2.2)]
       go_enter Tryz.func63, Tryz.ntmps63
       go_wp2
       go_ret
       exact ⟨by first | rfl | (apply ret_bl; rw [decide_eq_false_iff_not]; omega), by (repeat' first | exact Below.refl _ _ | assumption | (apply below_drewN) | (refine Below.setCell ?_ (by (try simp); (try omega)) _) | (refine Below.alloc ?_ (by (try simp); (try omega)) _) | (refine Below.trans ?_ (Below.mono (Hid.out (by assumption)) (by (try simp); (try omega)))))⟩
     ·rw [show rokB ⟨X0, Y0, X1, Y1⟩ = false from decide_eq_false (fun h => c4 h.2.2.1)]
      go_enter Tryz.func63, Tryz.ntmps63
      go_wp2
      go_ret
      exact ⟨by first | rfl | (apply ret_bl; rw [decide_eq_false_iff_not]; omega), by (repeat' first | exact Below.refl _ _ | assumption | (apply below_drewN) | (refine Below.setCell ?_ (by (try simp); (try omega)) _) | (refine Below.alloc ?_ (by (try simp); (try omega)) _) | (refine Below.trans ?_ (Below.mono (Hid.out (by assumption)) (by (try simp); (try omega)))))⟩
    ·rw [show rokB ⟨X0, Y0, X1, Y1⟩ = false from decide_eq_false (fun h => c3 h.2.1)]
     go_enter Tryz.func63, Tryz.ntmps63
     go_wp2
     go_ret
     exact ⟨by first | rfl | (apply ret_bl; rw [decide_eq_false_iff_not]; omega), by (repeat' first | exact Below.refl _ _ | assumption | (apply below_drewN) | (refine Below.setCell ?_ (by (try simp); (try omega)) _) | (refine Below.alloc ?_ (by (try simp); (try omega)) _) | (refine Below.trans ?_ (Below.mono (Hid.out (by assumption)) (by (try simp); (try omega)))))⟩
   ·rw [show rokB ⟨X0, Y0, X1, Y1⟩ = false from decide_eq_false (fun h => c2 h.1.2.2)]
    go_enter Tryz.func63, Tryz.ntmps63
    go_wp2
    go_ret
    exact ⟨by first | rfl | (apply ret_bl; rw [decide_eq_false_iff_not]; omega), by (repeat' first | exact Below.refl _ _ | assumption | (apply below_drewN) | (refine Below.setCell ?_ (by (try simp); (try omega)) _) | (refine Below.alloc ?_ (by (try simp); (try omega)) _) | (refine Below.trans ?_ (Below.mono (Hid.out (by assumption)) (by (try simp); (try omega)))))⟩
  ·rw [show rokB ⟨X0, Y0, X1, Y1⟩ = false from decide_eq_false (fun h => c1 h.1.2.1)]
   go_enter Tryz.func63, Tryz.ntmps63
   go_wp2
   go_ret
   exact ⟨by first | rfl | (apply ret_bl; rw [decide_eq_false_iff_not]; omega), by (repeat' first | exact Below.refl _ _ | assumption | (apply below_drewN) | (refine Below.setCell ?_ (by (try simp); (try omega)) _) | (refine Below.alloc ?_ (by (try simp); (try omega)) _) | (refine Below.trans ?_ (Below.mono (Hid.out (by assumption)) (by (try simp); (try omega)))))⟩
 ·rw [show rokB ⟨X0, Y0, X1, Y1⟩ = false from decide_eq_false (fun h => c0 h.1.1)]
  go_enter Tryz.func63, Tryz.ntmps63
  go_wp2
  go_ret
  exact ⟨by first | rfl | (apply ret_bl; rw [decide_eq_false_iff_not]; omega), by (repeat' first | exact Below.refl _ _ | assumption | (apply below_drewN) | (refine Below.setCell ?_ (by (try simp); (try omega)) _) | (refine Below.alloc ?_ (by (try simp); (try omega)) _) | (refine Below.trans ?_ (Below.mono (Hid.out (by assumption)) (by (try simp); (try omega)))))⟩
def GridR (r : Rc) : Prop := (0 ≤ r.X0 ∧ r.X0 ≤ 1048576) ∧ (0 ≤ r.Y0 ∧ r.Y0 ≤ 1048576) ∧ (0 ≤ r.X1 ∧ r.X1 ≤ 1048576) ∧ (0 ≤ r.Y1 ∧ r.Y1 ≤ 1048576)
theorem ROk.grid {r : Rc} (h : ROk r) : GridR r := by unfold ROk Span at h; unfold GridR; omega
theorem GridR.meet {a b : Rc} (ha : GridR a) (hb : GridR b) : GridR (meetR a b) := by unfold GridR at *; simp only [meetR]; omega
theorem textent_any (X0 Y0 X1 Y1 : Int) (h : GridR ⟨X0, Y0, X1, Y1⟩) (w : World) : Calls Tryz.prog 127 #[.agg #[.int .i64 X0, .int .i64 Y0, .int .i64 X1, .int .i64 Y1]] w fun e w' => e = .returned (.tuple #[.int .i64 (X1 - X0), .int .i64 (Y1 - Y0)]) ∧ Below w.heap.size w w' := by
 obtain ⟨⟨h1, h2⟩, ⟨h3, h4⟩, ⟨h5, h6⟩, h7, h8⟩ := h
 simp only [] at h1 h2 h3 h4 h5 h6 h7 h8
 go_enter Tryz.func127, Tryz.ntmps127
 have q1 : IntKind.i64.wrap (X1 - X0) = X1 - X0 := IntWalk.i64_in _ (by omega)
 have q2 : IntKind.i64.wrap (Y1 - Y0) = Y1 - Y0 := IntWalk.i64_in _ (by omega)
 go_wp2
 go_quiet (fail)
 go_wp2
 go_ret2
 exact ⟨rfl, by (repeat' first | exact Below.refl _ _ | assumption | (apply below_drewN) | (refine Below.setCell ?_ (by (try simp); (try omega)) _) | (refine Below.alloc ?_ (by (try simp); (try omega)) _) | (refine Below.trans ?_ (Below.mono (Hid.out (by assumption)) (by (try simp); (try omega)))))⟩
def RcIs (x : Rc) (w : World) (e : Ending) (w' : World) : Prop := e = .returned (.agg #[.int .i64 x.X0, .int .i64 x.Y0, .int .i64 x.X1, .int .i64 x.Y1]) ∧ Below w.heap.size w w'
theorem RcIs.of {x : Rc} {w w' : World} {a b c d : Int} (ha : a = x.X0) (hb : b = x.Y0) (hc : c = x.X1) (hd : d = x.Y1) (h : Below w.heap.size w w') :
  RcIs x w (.returned (.agg #[.int .i64 a, .int .i64 b, .int .i64 c, .int .i64 d])) w' := by subst ha; subst hb; subst hc; subst hd; exact ⟨rfl, h⟩
set_option maxHeartbeats 4000000 in
theorem toverlap_any (a b : Rc) (w : World) : Calls Tryz.prog 140 #[.agg #[.int .i64 a.X0, .int .i64 a.Y0, .int .i64 a.X1, .int .i64 a.Y1], .agg #[.int .i64 b.X0, .int .i64 b.Y0, .int .i64 b.X1, .int .i64 b.Y1]] w (RcIs (meetR a b) w) := by
 go_enter Tryz.func140, Tryz.ntmps140
 go_wp2_with fail
 all_goals exact bodyPost_ret (v := .agg #[.int .i64 (meetR a b).X0, .int .i64 (meetR a b).Y0, .int .i64 (meetR a b).X1, .int .i64 (meetR a b).Y1]) (by simp [results, Tryz.results140, go_sem, *, meetR] <;> omega) rfl (RcIs.of rfl rfl rfl rfl (by (repeat' first | exact Below.refl _ _ | assumption | (apply below_drewN) | (refine Below.setCell ?_ (by (try simp); (try omega)) _) | (refine Below.alloc ?_ (by (try simp); (try omega)) _) | (refine Below.trans ?_ (Below.mono (Hid.out (by assumption)) (by (try simp); (try omega)))))))
set_option maxHeartbeats 4000000 in
theorem tarea_any (r : Rc) (ir : InR r) (w : World) : Calls Tryz.prog 70 #[.agg #[.int .i64 r.X0, .int .i64 r.Y0, .int .i64 r.X1, .int .i64 r.Y1]] w (InIs (areaR r) w) := by
 obtain ⟨i0, i1, i2, i3⟩ := ir
 by_cases k : ROk r
 ·have o : rokB ⟨r.X0, r.Y0, r.X1, r.Y1⟩ = true := (rokB_iff r).2 k
  obtain ⟨⟨h1, h2, h3⟩, h4, h5, h6⟩ := k
  have hm := Int.mul_le_mul (show r.X1 - r.X0 ≤ 1048576 by omega) (show r.Y1 - r.Y0 ≤ 1048576 by omega) (by omega) (by omega)
  have hm0 := Int.mul_nonneg (show 0 ≤ r.X1 - r.X0 by omega) (show 0 ≤ r.Y1 - r.Y0 by omega)
  rw [area_ok ⟨⟨h1, h2, h3⟩, h4, h5, h6⟩]
  go_enter Tryz.func70, Tryz.ntmps70
  go_wp2_with fail
  refine (tright_nd _ _ _ _ _).mono ?_
  rintro e w1 ⟨rfl, hb⟩
  obtain ⟨hc, hf⟩ := bcell hb; have hz := hb.size; (try simp at hz); have hz0 : w.heap.size < w1.heap.size := (by omega); have HBl := Lib.hid hb; clear hb
  go_wp2_with fail
  refine (textent_any _ _ _ _ (by unfold GridR; simp only []; omega) _).mono ?_
  rintro e w2 ⟨rfl, hb2⟩
  have hz2 := hb2.size
  have HB2 := Lib.hid hb2; clear hb2
  go_wp2
  go_ret
  exact InIs.of (by first | rfl | omega) (by (repeat' first | exact Below.refl _ _ | assumption | (apply below_drewN) | (refine Below.setCell ?_ (by (try simp); (try omega)) _) | (refine Below.alloc ?_ (by (try simp); (try omega)) _) | (refine Below.trans ?_ (Below.mono (Hid.out (by assumption)) (by (try simp); (try omega))))))
 ·have o : rokB ⟨r.X0, r.Y0, r.X1, r.Y1⟩ = false := (rokB_no r).2 k
  rw [area_no k]
  clear k
  go_enter Tryz.func70, Tryz.ntmps70
  go_wp2_with (go_at_call 63; refine (tright_nd _ _ _ _ _).mono ?_; rintro e w1 ⟨rfl, hb⟩; obtain ⟨hc, hf⟩ := bcell hb; have hz := hb.size; (try simp at hz); have hz0 : w.heap.size < w1.heap.size := (by omega); have HBl := Lib.hid hb; clear hb)
  go_ret
  exact ⟨rfl, by (repeat' first | exact Below.refl _ _ | assumption | (apply below_drewN) | (refine Below.setCell ?_ (by (try simp); (try omega)) _) | (refine Below.alloc ?_ (by (try simp); (try omega)) _) | (refine Below.trans ?_ (Below.mono (Hid.out (by assumption)) (by (try simp); (try omega)))))⟩
set_option maxHeartbeats 4000000 in
theorem thas_any (r : Rc) (x y : Int) (ir : InR r) (w : World) : Calls Tryz.prog 69 #[.agg #[.int .i64 r.X0, .int .i64 r.Y0, .int .i64 r.X1, .int .i64 r.Y1], .int .i64 x, .int .i64 y] w (BlIs (decide (HasR r x y)) w) := by
 by_cases k : ROk r
 ·have o : rokB ⟨r.X0, r.Y0, r.X1, r.Y1⟩ = true := (rokB_iff r).2 k
  by_cases c0 : r.X0 ≤ x
  ·skip
   by_cases c1 : x < r.X1
   ·skip
    by_cases c2 : r.Y0 ≤ y
    ·skip
     by_cases c3 : y < r.Y1
     ·skip
      rw [show decide (HasR r x y) = true from decide_eq_true ⟨k, c0, c1, c2, c3⟩]
      go_enter Tryz.func69, Tryz.ntmps69
      go_wp2_with (go_at_call 63; refine (tright_nd _ _ _ _ _).mono ?_; rintro e w1 ⟨rfl, hb⟩; obtain ⟨hc, hf⟩ := bcell hb; have hz := hb.size; (try simp at hz); have hz0 : w.heap.size < w1.heap.size := (by omega); have HBl := Lib.hid hb; clear hb)
      go_ret
      exact ⟨rfl, by (repeat' first | exact Below.refl _ _ | assumption | (apply below_drewN) | (refine Below.setCell ?_ (by (try simp); (try omega)) _) | (refine Below.alloc ?_ (by (try simp); (try omega)) _) | (refine Below.trans ?_ (Below.mono (Hid.out (by assumption)) (by (try simp); (try omega)))))⟩
     ·rw [show decide (HasR r x y) = false from decide_eq_false (fun h => c3 h.2.2.2.2)]
      go_enter Tryz.func69, Tryz.ntmps69
      go_wp2_with (go_at_call 63; refine (tright_nd _ _ _ _ _).mono ?_; rintro e w1 ⟨rfl, hb⟩; obtain ⟨hc, hf⟩ := bcell hb; have hz := hb.size; (try simp at hz); have hz0 : w.heap.size < w1.heap.size := (by omega); have HBl := Lib.hid hb; clear hb)
      go_ret
      exact ⟨ret_bl (by first | rfl | (rw [decide_eq_false_iff_not]; omega)), by (repeat' first | exact Below.refl _ _ | assumption | (apply below_drewN) | (refine Below.setCell ?_ (by (try simp); (try omega)) _) | (refine Below.alloc ?_ (by (try simp); (try omega)) _) | (refine Below.trans ?_ (Below.mono (Hid.out (by assumption)) (by (try simp); (try omega)))))⟩
    ·rw [show decide (HasR r x y) = false from decide_eq_false (fun h => c2 h.2.2.2.1)]
     go_enter Tryz.func69, Tryz.ntmps69
     go_wp2_with (go_at_call 63; refine (tright_nd _ _ _ _ _).mono ?_; rintro e w1 ⟨rfl, hb⟩; obtain ⟨hc, hf⟩ := bcell hb; have hz := hb.size; (try simp at hz); have hz0 : w.heap.size < w1.heap.size := (by omega); have HBl := Lib.hid hb; clear hb)
     go_ret
     exact ⟨rfl, by (repeat' first | exact Below.refl _ _ | assumption | (apply below_drewN) | (refine Below.setCell ?_ (by (try simp); (try omega)) _) | (refine Below.alloc ?_ (by (try simp); (try omega)) _) | (refine Below.trans ?_ (Below.mono (Hid.out (by assumption)) (by (try simp); (try omega)))))⟩
   ·rw [show decide (HasR r x y) = false from decide_eq_false (fun h => c1 h.2.2.1)]
    go_enter Tryz.func69, Tryz.ntmps69
    go_wp2_with (go_at_call 63; refine (tright_nd _ _ _ _ _).mono ?_; rintro e w1 ⟨rfl, hb⟩; obtain ⟨hc, hf⟩ := bcell hb; have hz := hb.size; (try simp at hz); have hz0 : w.heap.size < w1.heap.size := (by omega); have HBl := Lib.hid hb; clear hb)
    go_ret
    exact ⟨rfl, by (repeat' first | exact Below.refl _ _ | assumption | (apply below_drewN) | (refine Below.setCell ?_ (by (try simp); (try omega)) _) | (refine Below.alloc ?_ (by (try simp); (try omega)) _) | (refine Below.trans ?_ (Below.mono (Hid.out (by assumption)) (by (try simp); (try omega)))))⟩
  ·rw [show decide (HasR r x y) = false from decide_eq_false (fun h => c0 h.2.1)]
   go_enter Tryz.func69, Tryz.ntmps69
   go_wp2_with (go_at_call 63; refine (tright_nd _ _ _ _ _).mono ?_; rintro e w1 ⟨rfl, hb⟩; obtain ⟨hc, hf⟩ := bcell hb; have hz := hb.size; (try simp at hz); have hz0 : w.heap.size < w1.heap.size := (by omega); have HBl := Lib.hid hb; clear hb)
   go_ret
   exact ⟨rfl, by (repeat' first | exact Below.refl _ _ | assumption | (apply below_drewN) | (refine Below.setCell ?_ (by (try simp); (try omega)) _) | (refine Below.alloc ?_ (by (try simp); (try omega)) _) | (refine Below.trans ?_ (Below.mono (Hid.out (by assumption)) (by (try simp); (try omega)))))⟩
 ·have o : rokB ⟨r.X0, r.Y0, r.X1, r.Y1⟩ = false := (rokB_no r).2 k
  rw [show decide (HasR r x y) = false from decide_eq_false (fun h => k h.1)]
  clear k
  go_enter Tryz.func69, Tryz.ntmps69
  go_wp2_with (go_at_call 63; refine (tright_nd _ _ _ _ _).mono ?_; rintro e w1 ⟨rfl, hb⟩; obtain ⟨hc, hf⟩ := bcell hb; have hz := hb.size; (try simp at hz); have hz0 : w.heap.size < w1.heap.size := (by omega); have HBl := Lib.hid hb; clear hb)
  go_ret
  exact ⟨rfl, by (repeat' first | exact Below.refl _ _ | assumption | (apply below_drewN) | (refine Below.setCell ?_ (by (try simp); (try omega)) _) | (refine Below.alloc ?_ (by (try simp); (try omega)) _) | (refine Below.trans ?_ (Below.mono (Hid.out (by assumption)) (by (try simp); (try omega)))))⟩
theorem apart_ext {a b c d : Int} (h1 : a < b) (h2 : c < d) : apartI a b c d = if min b d - max a c ≤ 0 then 1 - (min b d - max a c) else 0 := by
 unfold apartI
 split
 ·rw [if_pos (by omega)]; omega
 ·split
  ·rw [if_pos (by omega)]; omega
  ·rw [if_neg (by omega)]
theorem touch_no {a b : Rc} (h : ¬ (ROk a ∧ ROk b)) : decide (TouchR a b) = false := decide_eq_false (fun k => h ⟨k.1, k.2.1⟩)
theorem gap_no {a b : Rc} (h : ¬ (ROk a ∧ ROk b)) : gapR a b = -1 := by unfold gapR; rw [if_neg h]
set_option maxHeartbeats 16000000 in
theorem ttouch_any (a b : Rc) (w : World) : Calls Tryz.prog 203 #[.agg #[.int .i64 a.X0, .int .i64 a.Y0, .int .i64 a.X1, .int .i64 a.Y1], .agg #[.int .i64 b.X0, .int .i64 b.Y0, .int .i64 b.X1, .int .i64 b.Y1]] w (BlIs (decide (TouchR a b)) w) := by
 by_cases ka : ROk a
 ·have oa : rokB ⟨a.X0, a.Y0, a.X1, a.Y1⟩ = true := (rokB_iff a).2 ka
  by_cases kb : ROk b
  ·have ob : rokB ⟨b.X0, b.Y0, b.X1, b.Y1⟩ = true := (rokB_iff b).2 kb
   have hT : decide (TouchR a b) = decide (apartI a.X0 a.X1 b.X0 b.X1 + apartI a.Y0 a.Y1 b.Y0 b.Y1 = 1) := by
    rw [decide_eq_decide]
    exact ⟨fun h => h.2.2, fun h => ⟨ka, kb, h⟩⟩
   rw [hT]; clear hT
   have gm := ka.grid.meet kb.grid
   have HO := Lib.hid (fun w => toverlap_any a b w)
   have hx := apart_ext ka.1.2.1 kb.1.2.1
   have hy := apart_ext ka.2.2.1 kb.2.2.1
   have he : ∀ w, Calls Tryz.prog 127 #[.agg #[.int .i64 (meetR a b).X0, .int .i64 (meetR a b).Y0, .int .i64 (meetR a b).X1, .int .i64 (meetR a b).Y1]] w fun e w' => e = .returned (.tuple #[.int .i64 ((meetR a b).X1 - (meetR a b).X0), .int .i64 ((meetR a b).Y1 - (meetR a b).Y0)]) ∧ Below w.heap.size w w' := fun w => textent_any _ _ _ _ gm w
   have HE := Lib.hid he; clear he
   have gm0 := gm
   obtain ⟨⟨g1, g2⟩, ⟨g3, g4⟩, ⟨g5, g6⟩, g7, g8⟩ := gm
   have mx : min a.X1 b.X1 - max a.X0 b.X0 = (meetR a b).X1 - (meetR a b).X0 := rfl
   have my : min a.Y1 b.Y1 - max a.Y0 b.Y0 = (meetR a b).Y1 - (meetR a b).Y0 := rfl
   rw [mx] at hx; rw [my] at hy
   clear mx my ka kb gm0
   generalize meetR a b = m at *
   have hT : decide (apartI a.X0 a.X1 b.X0 b.X1 + apartI a.Y0 a.Y1 b.Y0 b.Y1 = 1) = ((m.X1 - m.X0 == 0) && decide (m.Y1 - m.Y0 > 0) || (m.Y1 - m.Y0 == 0) && decide (m.X1 - m.X0 > 0)) := by
    rw [hx, hy, Bool.eq_iff_iff]
    simp only [decide_eq_true_eq, Bool.or_eq_true, Bool.and_eq_true, beq_iff_eq]
    split <;> split <;> omega
   rw [hT]; clear hT hx hy
   have hc : -1048576 ≤ m.X1 - m.X0 ∧ m.X1 - m.X0 ≤ 1048576 := by omega
   have hr : -1048576 ≤ m.Y1 - m.Y0 ∧ m.Y1 - m.Y0 ≤ 1048576 := by omega
   generalize m.X1 - m.X0 = c at *
   generalize m.Y1 - m.Y0 = r at *
   clear g1 g2 g3 g4 g5 g6 g7 g8
   have hcc : c = 0 ∨ (c ≠ 0 ∧ 0 < c) ∨ (c ≠ 0 ∧ ¬ 0 < c) := by omega
   have hrr : r = 0 ∨ (r ≠ 0 ∧ 0 < r) ∨ (r ≠ 0 ∧ ¬ 0 < r) := by omega
   rcases hcc with rfl | ⟨c1, c2⟩ | ⟨c1, c2⟩ <;> rcases hrr with rfl | ⟨r1, r2⟩ | ⟨r1, r2⟩
   all_goals
    go_enter Tryz.func203, Tryz.ntmps203
    go_wp2_with (first | (go_at_call 63; refine (tright_nd _ _ _ _ _).mono ?_; rintro e w1 ⟨rfl, hb⟩; obtain ⟨hc, hf⟩ := bcell hb; have hz := hb.size; (try simp at hz); have hz0 : w.heap.size < w1.heap.size := (by omega); have hz1 : w.heap.size + 1 < w1.heap.size := (by omega); have HBl := Lib.hid hb; clear hb) | (go_at_call 140; refine (HO.out _).mono ?_; rintro e w1 ⟨rfl, hb⟩; obtain ⟨hc, hf⟩ := bcell hb; have hz := hb.size; (try simp at hz); have hz0 : w.heap.size < w1.heap.size := (by omega); have hz1 : w.heap.size + 1 < w1.heap.size := (by omega); have HBl := Lib.hid hb; clear hb) | (go_at_call 127; refine (HE.out _).mono ?_; rintro e w1 ⟨rfl, hb⟩; obtain ⟨hc, hf⟩ := bcell hb; have hz := hb.size; (try simp at hz); have hz0 : w.heap.size < w1.heap.size := (by omega); have hz1 : w.heap.size + 1 < w1.heap.size := (by omega); have HBl := Lib.hid hb; clear hb))
    go_ret
    exact ⟨by simp [*], by (repeat' first | exact Below.refl _ _ | assumption | (apply below_drewN) | (refine Below.setCell ?_ (by (try simp); (try omega)) _) | (refine Below.alloc ?_ (by (try simp); (try omega)) _) | (refine Below.trans ?_ (Below.mono (Hid.out (by assumption)) (by (try simp); (try omega)))))⟩
  ·have ob : rokB ⟨b.X0, b.Y0, b.X1, b.Y1⟩ = false := (rokB_no b).2 kb
   rw [touch_no (a := a) (b := b) (fun h => kb h.2)]
   clear ka kb
   go_enter Tryz.func203, Tryz.ntmps203
   go_wp2_with ((go_at_call 63; refine (tright_nd _ _ _ _ _).mono ?_; rintro e w1 ⟨rfl, hb⟩; obtain ⟨hc, hf⟩ := bcell hb; have hz := hb.size; (try simp at hz); have hz0 : w.heap.size < w1.heap.size := (by omega); have hz1 : w.heap.size + 1 < w1.heap.size := (by omega); have HBl := Lib.hid hb; clear hb))
   go_ret
   exact ⟨rfl, by (repeat' first | exact Below.refl _ _ | assumption | (apply below_drewN) | (refine Below.setCell ?_ (by (try simp); (try omega)) _) | (refine Below.alloc ?_ (by (try simp); (try omega)) _) | (refine Below.trans ?_ (Below.mono (Hid.out (by assumption)) (by (try simp); (try omega)))))⟩
 ·have oa : rokB ⟨a.X0, a.Y0, a.X1, a.Y1⟩ = false := (rokB_no a).2 ka
  rw [touch_no (a := a) (b := b) (fun h => ka h.1)]
  clear ka
  go_enter Tryz.func203, Tryz.ntmps203
  go_wp2_with ((go_at_call 63; refine (tright_nd _ _ _ _ _).mono ?_; rintro e w1 ⟨rfl, hb⟩; obtain ⟨hc, hf⟩ := bcell hb; have hz := hb.size; (try simp at hz); have hz0 : w.heap.size < w1.heap.size := (by omega); have hz1 : w.heap.size + 1 < w1.heap.size := (by omega); have HBl := Lib.hid hb; clear hb))
  go_ret
  exact ⟨rfl, by (repeat' first | exact Below.refl _ _ | assumption | (apply below_drewN) | (refine Below.setCell ?_ (by (try simp); (try omega)) _) | (refine Below.alloc ?_ (by (try simp); (try omega)) _) | (refine Below.trans ?_ (Below.mono (Hid.out (by assumption)) (by (try simp); (try omega)))))⟩
theorem RcAt.set {w : World} {b : Nat} {r s : Rc} (h : RcAt w b r) {x0 y0 x1 y1 : Int} (h0 : x0 = s.X0) (h1 : y0 = s.Y0) (h2 : x1 = s.X1) (h3 : y1 = s.Y1) :
  RcAt ((((w.setCell ⟨b, 0, none⟩ (.int .i64 x0)).setCell ⟨b, 1, none⟩ (.int .i64 y0)).setCell ⟨b, 2, none⟩ (.int .i64 x1)).setCell ⟨b, 3, none⟩ (.int .i64 y1)) b s := by
 subst h0; subst h1; subst h2; subst h3
 unfold RcAt at h ⊢
 simp [World.setCell, Array.getElem?_modify, h]
theorem RcAt.far {w : World} {b c i : Nat} {r : Rc} {v : Value} (h : RcAt w b r) (hc : b ≠ c) : RcAt (w.setCell ⟨c, i, none⟩ v) b r := by
 unfold RcAt at h ⊢
 simp [World.setCell, Array.getElem?_modify, h, hc.symm]
def Out2 (p : Nat) (s : Rc) (w0 w : World) : Prop := RcAt w p zR ∧ RcAt w (p + 1) s ∧ Below w0.heap.size w0 w ∧ w0.heap.size ≤ p
theorem Out2.go {p : Nat} {s : Rc} {w0 w w' : World} (h : Out2 p s w0 w) (hb : Below w.heap.size w w') : Out2 p s w0 w' :=
 ⟨h.1.below hb h.1.lt, h.2.1.below hb h.2.1.lt, h.2.2.1.trans (hb.mono h.2.2.1.size), h.2.2.2⟩
theorem Out2.set {p : Nat} {r s : Rc} {w0 w : World} (h : Out2 p r w0 w) {x0 y0 x1 y1 : Int} (h0 : x0 = s.X0) (h1 : y0 = s.Y0) (h2 : x1 = s.X1) (h3 : y1 = s.Y1) :
  Out2 p s w0 ((((w.setCell ⟨p + 1, 0, none⟩ (.int .i64 x0)).setCell ⟨p + 1, 1, none⟩ (.int .i64 y0)).setCell ⟨p + 1, 2, none⟩ (.int .i64 x1)).setCell ⟨p + 1, 3, none⟩ (.int .i64 y1)) :=
 ⟨(((h.1.far (by omega)).far (by omega)).far (by omega)).far (by omega), h.2.1.set h0 h1 h2 h3,
  have hp := h.2.2.2; (((h.2.2.1.setCell (by simp; omega) _).setCell (by simp; omega) _).setCell (by simp; omega) _).setCell (by simp; omega) _, h.2.2.2⟩
end Go.Proofs.YtngddecpfhlilaaGreat
