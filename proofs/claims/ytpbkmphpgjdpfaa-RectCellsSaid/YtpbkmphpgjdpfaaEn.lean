/-
  Contracts of the program's layer 5: Touch, Gap.
-/
import Derived.Test.YtpbkmphpgjdpfaaEk
set_option linter.unusedVariables false
set_option maxRecDepth 100000
namespace Go.Proofs.Ytpbkmphpgjdpfaa
open Go.RowKit

theorem apart_ext {a b c d : Int} (h1 : a < b) (h2 : c < d) : apartI a b c d = if min b d - max a c ≤ 0 then 1 - (min b d - max a c) else 0 := by
  unfold apartI
  split
  · rw [if_pos (by omega)]; omega
  · split
    · rw [if_pos (by omega)]; omega
    · rw [if_neg (by omega)]
theorem touch_no {a b : Rc} (h : ¬ (ROk a ∧ ROk b)) : decide (TouchR a b) = false := decide_eq_false (fun k => h ⟨k.1, k.2.1⟩)
theorem gap_no {a b : Rc} (h : ¬ (ROk a ∧ ROk b)) : gapR a b = -1 := by unfold gapR; rw [if_neg h]
set_option maxHeartbeats 16000000 in
theorem ttouch_any (a b : Rc) (w : World) : Calls Try.prog 24 #[.agg #[.int .i64 a.X0, .int .i64 a.Y0, .int .i64 a.X1, .int .i64 a.Y1], .agg #[.int .i64 b.X0, .int .i64 b.Y0, .int .i64 b.X1, .int .i64 b.Y1]] w (BlIs (decide (TouchR a b)) w) := by
  by_cases ka : ROk a
  · have oa : rokB ⟨a.X0, a.Y0, a.X1, a.Y1⟩ = true := (rokB_iff a).2 ka
    by_cases kb : ROk b
    · have ob : rokB ⟨b.X0, b.Y0, b.X1, b.Y1⟩ = true := (rokB_iff b).2 kb
      have hT : decide (TouchR a b) = decide (apartI a.X0 a.X1 b.X0 b.X1 + apartI a.Y0 a.Y1 b.Y0 b.Y1 = 1) := by
        rw [decide_eq_decide]
        exact ⟨fun h => h.2.2, fun h => ⟨ka, kb, h⟩⟩
      rw [hT]; clear hT
      have gm := ka.grid.meet kb.grid
      have HO := Lib.hid (fun w => toverlap_any a b w)
      have hx := apart_ext ka.1.2.1 kb.1.2.1
      have hy := apart_ext ka.2.2.1 kb.2.2.1
      have he : ∀ w, Calls Try.prog 36 #[.agg #[.int .i64 (meetR a b).X0, .int .i64 (meetR a b).Y0, .int .i64 (meetR a b).X1, .int .i64 (meetR a b).Y1]] w fun e w' => e = .returned (.tuple #[.int .i64 ((meetR a b).X1 - (meetR a b).X0), .int .i64 ((meetR a b).Y1 - (meetR a b).Y0)]) ∧ Below w.heap.size w w' := fun w => textent_any _ _ _ _ gm w
      have HE := Lib.hid he; clear he
      have gm0 := gm
      obtain ⟨⟨g1, g2⟩, ⟨g3, g4⟩, ⟨g5, g6⟩, g7, g8⟩ := gm
      have mx : min a.X1 b.X1 - max a.X0 b.X0 = (meetR a b).X1 - (meetR a b).X0 := rfl
      have my : min a.Y1 b.Y1 - max a.Y0 b.Y0 = (meetR a b).Y1 - (meetR a b).Y0 := rfl
      rw [mx] at hx; rw [my] at hy
      clear mx my ka kb gm0
      generalize meetR a b = m at *
      have hT : decide (apartI a.X0 a.X1 b.X0 b.X1 + apartI a.Y0 a.Y1 b.Y0 b.Y1 = 1) = ((m.X1 - m.X0 == 0) && decide (m.Y1 - m.Y0 > 0) || (m.Y1 - m.Y0 == 0) && decide (m.X1 - m.X0 > 0)) := by
        rw [hx, hy, Bool.eq_iff_iff]
        simp only [decide_eq_true_eq, Bool.or_eq_true, Bool.and_eq_true, beq_iff_eq]
        split <;> split <;> omega
      rw [hT]; clear hT hx hy
      have hc : -1048576 ≤ m.X1 - m.X0 ∧ m.X1 - m.X0 ≤ 1048576 := by omega
      have hr : -1048576 ≤ m.Y1 - m.Y0 ∧ m.Y1 - m.Y0 ≤ 1048576 := by omega
      generalize m.X1 - m.X0 = c at *
      generalize m.Y1 - m.Y0 = r at *
      clear g1 g2 g3 g4 g5 g6 g7 g8
      have hcc : c = 0 ∨ (c ≠ 0 ∧ 0 < c) ∨ (c ≠ 0 ∧ ¬ 0 < c) := by omega
      have hrr : r = 0 ∨ (r ≠ 0 ∧ 0 < r) ∨ (r ≠ 0 ∧ ¬ 0 < r) := by omega
      rcases hcc with rfl | ⟨c1, c2⟩ | ⟨c1, c2⟩ <;> rcases hrr with rfl | ⟨r1, r2⟩ | ⟨r1, r2⟩
      all_goals
        go_enter Try.func24, Try.ntmps24
        go_wp2_with (first | (go_at_call 16; refine (tright_nd _ _ _ _ _).mono ?_; rintro e w1 ⟨rfl, hb⟩; obtain ⟨hc, hf⟩ := bcell hb; have hz := hb.size; (try simp at hz); have hz0 : w.heap.size < w1.heap.size := (by omega); have hz1 : w.heap.size + 1 < w1.heap.size := (by omega); have HBl := Lib.hid hb; clear hb) | (go_at_call 33; refine (HO.out _).mono ?_; rintro e w1 ⟨rfl, hb⟩; obtain ⟨hc, hf⟩ := bcell hb; have hz := hb.size; (try simp at hz); have hz0 : w.heap.size < w1.heap.size := (by omega); have hz1 : w.heap.size + 1 < w1.heap.size := (by omega); have HBl := Lib.hid hb; clear hb) | (go_at_call 36; refine (HE.out _).mono ?_; rintro e w1 ⟨rfl, hb⟩; obtain ⟨hc, hf⟩ := bcell hb; have hz := hb.size; (try simp at hz); have hz0 : w.heap.size < w1.heap.size := (by omega); have hz1 : w.heap.size + 1 < w1.heap.size := (by omega); have HBl := Lib.hid hb; clear hb))
        go_ret
        exact ⟨by simp [*], by (repeat' first | exact Below.refl _ _ | assumption | (apply below_drewN) | (refine Below.setCell ?_ (by (try simp); (try omega)) _) | (refine Below.alloc ?_ (by (try simp); (try omega)) _) | (refine Below.trans ?_ (Below.mono (Hid.out (by assumption)) (by (try simp); (try omega)))))⟩
    · have ob : rokB ⟨b.X0, b.Y0, b.X1, b.Y1⟩ = false := (rokB_no b).2 kb
      rw [touch_no (a := a) (b := b) (fun h => kb h.2)]
      clear ka kb
      go_enter Try.func24, Try.ntmps24
      go_wp2_with ((go_at_call 16; refine (tright_nd _ _ _ _ _).mono ?_; rintro e w1 ⟨rfl, hb⟩; obtain ⟨hc, hf⟩ := bcell hb; have hz := hb.size; (try simp at hz); have hz0 : w.heap.size < w1.heap.size := (by omega); have hz1 : w.heap.size + 1 < w1.heap.size := (by omega); have HBl := Lib.hid hb; clear hb))
      go_ret
      exact ⟨rfl, by (repeat' first | exact Below.refl _ _ | assumption | (apply below_drewN) | (refine Below.setCell ?_ (by (try simp); (try omega)) _) | (refine Below.alloc ?_ (by (try simp); (try omega)) _) | (refine Below.trans ?_ (Below.mono (Hid.out (by assumption)) (by (try simp); (try omega)))))⟩
  · have oa : rokB ⟨a.X0, a.Y0, a.X1, a.Y1⟩ = false := (rokB_no a).2 ka
    rw [touch_no (a := a) (b := b) (fun h => ka h.1)]
    clear ka
    go_enter Try.func24, Try.ntmps24
    go_wp2_with ((go_at_call 16; refine (tright_nd _ _ _ _ _).mono ?_; rintro e w1 ⟨rfl, hb⟩; obtain ⟨hc, hf⟩ := bcell hb; have hz := hb.size; (try simp at hz); have hz0 : w.heap.size < w1.heap.size := (by omega); have hz1 : w.heap.size + 1 < w1.heap.size := (by omega); have HBl := Lib.hid hb; clear hb))
    go_ret
    exact ⟨rfl, by (repeat' first | exact Below.refl _ _ | assumption | (apply below_drewN) | (refine Below.setCell ?_ (by (try simp); (try omega)) _) | (refine Below.alloc ?_ (by (try simp); (try omega)) _) | (refine Below.trans ?_ (Below.mono (Hid.out (by assumption)) (by (try simp); (try omega)))))⟩
set_option maxHeartbeats 16000000 in
theorem tgap_any (a b : Rc) (w : World) : Calls Try.prog 26 #[.agg #[.int .i64 a.X0, .int .i64 a.Y0, .int .i64 a.X1, .int .i64 a.Y1], .agg #[.int .i64 b.X0, .int .i64 b.Y0, .int .i64 b.X1, .int .i64 b.Y1]] w (InIs (gapR a b) w) := by
  by_cases ka : ROk a
  · have oa : rokB ⟨a.X0, a.Y0, a.X1, a.Y1⟩ = true := (rokB_iff a).2 ka
    by_cases kb : ROk b
    · have ob : rokB ⟨b.X0, b.Y0, b.X1, b.Y1⟩ = true := (rokB_iff b).2 kb
      rw [show gapR a b = max 0 (max (apartI a.X0 a.X1 b.X0 b.X1) (apartI a.Y0 a.Y1 b.Y0 b.Y1) - 1) from by unfold gapR; rw [if_pos ⟨ka, kb⟩]]
      have gm := ka.grid.meet kb.grid
      have HO := Lib.hid (fun w => toverlap_any a b w)
      have hx := apart_ext ka.1.2.1 kb.1.2.1
      have hy := apart_ext ka.2.2.1 kb.2.2.1
      have he : ∀ w, Calls Try.prog 36 #[.agg #[.int .i64 (meetR a b).X0, .int .i64 (meetR a b).Y0, .int .i64 (meetR a b).X1, .int .i64 (meetR a b).Y1]] w fun e w' => e = .returned (.tuple #[.int .i64 ((meetR a b).X1 - (meetR a b).X0), .int .i64 ((meetR a b).Y1 - (meetR a b).Y0)]) ∧ Below w.heap.size w w' := fun w => textent_any _ _ _ _ gm w
      have HE := Lib.hid he; clear he
      have gm0 := gm
      obtain ⟨⟨g1, g2⟩, ⟨g3, g4⟩, ⟨g5, g6⟩, g7, g8⟩ := gm
      have mx : min a.X1 b.X1 - max a.X0 b.X0 = (meetR a b).X1 - (meetR a b).X0 := rfl
      have my : min a.Y1 b.Y1 - max a.Y0 b.Y0 = (meetR a b).Y1 - (meetR a b).Y0 := rfl
      rw [mx] at hx; rw [my] at hy
      clear mx my ka kb gm0
      generalize meetR a b = m at *
      have hG : max 0 (max (apartI a.X0 a.X1 b.X0 b.X1) (apartI a.Y0 a.Y1 b.Y0 b.Y1) - 1) = max 0 (max (-(m.X1 - m.X0)) (-(m.Y1 - m.Y0))) := by
        rw [hx, hy]; split <;> split <;> omega
      rw [hG]; clear hG hx hy
      have hc : -1048576 ≤ m.X1 - m.X0 ∧ m.X1 - m.X0 ≤ 1048576 := by omega
      have hr : -1048576 ≤ m.Y1 - m.Y0 ∧ m.Y1 - m.Y0 ≤ 1048576 := by omega
      generalize m.X1 - m.X0 = c at *
      generalize m.Y1 - m.Y0 = r at *
      clear g1 g2 g3 g4 g5 g6 g7 g8
      have q1 : IntKind.i64.wrap (-c) = -c := IntWalk.i64_in _ (by omega)
      have q2 : IntKind.i64.wrap (-r) = -r := IntWalk.i64_in _ (by omega)
      go_enter Try.func26, Try.ntmps26
      go_wp2_with (first | (go_at_call 16; refine (tright_nd _ _ _ _ _).mono ?_; rintro e w1 ⟨rfl, hb⟩; obtain ⟨hc, hf⟩ := bcell hb; have hz := hb.size; (try simp at hz); have hz0 : w.heap.size < w1.heap.size := (by omega); have hz1 : w.heap.size + 1 < w1.heap.size := (by omega); have HBl := Lib.hid hb; clear hb) | (go_at_call 33; refine (HO.out _).mono ?_; rintro e w1 ⟨rfl, hb⟩; obtain ⟨hc, hf⟩ := bcell hb; have hz := hb.size; (try simp at hz); have hz0 : w.heap.size < w1.heap.size := (by omega); have hz1 : w.heap.size + 1 < w1.heap.size := (by omega); have HBl := Lib.hid hb; clear hb) | (go_at_call 36; refine (HE.out _).mono ?_; rintro e w1 ⟨rfl, hb⟩; obtain ⟨hc, hf⟩ := bcell hb; have hz := hb.size; (try simp at hz); have hz0 : w.heap.size < w1.heap.size := (by omega); have hz1 : w.heap.size + 1 < w1.heap.size := (by omega); have HBl := Lib.hid hb; clear hb))
      all_goals go_ret
      all_goals exact InIs.of (by omega) (by (repeat' first | exact Below.refl _ _ | assumption | (apply below_drewN) | (refine Below.setCell ?_ (by (try simp); (try omega)) _) | (refine Below.alloc ?_ (by (try simp); (try omega)) _) | (refine Below.trans ?_ (Below.mono (Hid.out (by assumption)) (by (try simp); (try omega))))))
    · have ob : rokB ⟨b.X0, b.Y0, b.X1, b.Y1⟩ = false := (rokB_no b).2 kb
      rw [gap_no (a := a) (b := b) (fun h => kb h.2)]
      clear ka kb
      go_enter Try.func26, Try.ntmps26
      go_wp2_with ((go_at_call 16; refine (tright_nd _ _ _ _ _).mono ?_; rintro e w1 ⟨rfl, hb⟩; obtain ⟨hc, hf⟩ := bcell hb; have hz := hb.size; (try simp at hz); have hz0 : w.heap.size < w1.heap.size := (by omega); have hz1 : w.heap.size + 1 < w1.heap.size := (by omega); have HBl := Lib.hid hb; clear hb))
      go_ret
      exact ⟨rfl, by (repeat' first | exact Below.refl _ _ | assumption | (apply below_drewN) | (refine Below.setCell ?_ (by (try simp); (try omega)) _) | (refine Below.alloc ?_ (by (try simp); (try omega)) _) | (refine Below.trans ?_ (Below.mono (Hid.out (by assumption)) (by (try simp); (try omega)))))⟩
  · have oa : rokB ⟨a.X0, a.Y0, a.X1, a.Y1⟩ = false := (rokB_no a).2 ka
    rw [gap_no (a := a) (b := b) (fun h => ka h.1)]
    clear ka
    go_enter Try.func26, Try.ntmps26
    go_wp2_with ((go_at_call 16; refine (tright_nd _ _ _ _ _).mono ?_; rintro e w1 ⟨rfl, hb⟩; obtain ⟨hc, hf⟩ := bcell hb; have hz := hb.size; (try simp at hz); have hz0 : w.heap.size < w1.heap.size := (by omega); have hz1 : w.heap.size + 1 < w1.heap.size := (by omega); have HBl := Lib.hid hb; clear hb))
    go_ret
    exact ⟨rfl, by (repeat' first | exact Below.refl _ _ | assumption | (apply below_drewN) | (refine Below.setCell ?_ (by (try simp); (try omega)) _) | (refine Below.alloc ?_ (by (try simp); (try omega)) _) | (refine Below.trans ?_ (Below.mono (Hid.out (by assumption)) (by (try simp); (try omega)))))⟩
end Go.Proofs.Ytpbkmphpgjdpfaa
