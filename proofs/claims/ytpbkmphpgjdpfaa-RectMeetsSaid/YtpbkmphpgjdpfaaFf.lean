/-
  The walk of RectMeets (6): all cases.
-/
import Derived.Test.YtpbkmphpgjdpfaaFh
import Derived.Test.YtpbkmphpgjdpfaaFi
import Derived.Test.YtpbkmphpgjdpfaaFj
import Derived.Test.YtpbkmphpgjdpfaaFk
import Derived.Deep.RegionHeld3
import Derived.Deep.DeepCutAuto
set_option linter.unusedVariables false
set_option maxRecDepth 100000
namespace Go.Proofs.Ytpbkmphpgjdpfaa
open Go.RowKit

theorem grid64 {r : Rc} (h : GridR r) : InR r := by unfold GridR at h; unfold InR In64; omega
theorem inter_grid (a b : Rc) : GridR (interR a b).1 := by
  unfold interR
  split
  · rename_i h; exact h.2.2.grid
  · show GridR zR; unfold GridR zR; decide
theorem zinter (c : Rc) : interR zR c = (zR, false) := inter_none (fun h => zR_no h.1)
set_option maxHeartbeats 4000000 in
theorem meets_walk (a b c : Rc) (ia : InR a) (ib : InR b) (ic : InR c) (w : World) : Calls Try.prog 8 #[.agg #[.int .i64 a.X0, .int .i64 a.Y0, .int .i64 a.X1, .int .i64 a.Y1], .agg #[.int .i64 b.X0, .int .i64 b.Y0, .int .i64 b.X1, .int .i64 b.Y1], .agg #[.int .i64 c.X0, .int .i64 c.Y0, .int .i64 c.X1, .int .i64 c.Y1]] w (BlIs true w) := by
  have Hab : ∀ w, Calls Try.prog 10 #[.agg #[.int .i64 a.X0, .int .i64 a.Y0, .int .i64 a.X1, .int .i64 a.Y1], .agg #[.int .i64 b.X0, .int .i64 b.Y0, .int .i64 b.X1, .int .i64 b.Y1]] w (RbIs (interR a b) w) := fun w => tinter_any a b w
  have Hba : ∀ w, Calls Try.prog 10 #[.agg #[.int .i64 b.X0, .int .i64 b.Y0, .int .i64 b.X1, .int .i64 b.Y1], .agg #[.int .i64 a.X0, .int .i64 a.Y0, .int .i64 a.X1, .int .i64 a.Y1]] w (RbIs (interR a b) w) := fun w => by rw [inter_comm a b]; exact tinter_any b a w
  have Hdc : ∀ w, Calls Try.prog 10 #[.agg #[.int .i64 (interR a b).1.X0, .int .i64 (interR a b).1.Y0, .int .i64 (interR a b).1.X1, .int .i64 (interR a b).1.Y1], .agg #[.int .i64 c.X0, .int .i64 c.Y0, .int .i64 c.X1, .int .i64 c.Y1]] w (RbIs (interR (interR a b).1 c) w) := fun w => tinter_any (interR a b).1 c w
  have Hbc : ∀ w, Calls Try.prog 10 #[.agg #[.int .i64 b.X0, .int .i64 b.Y0, .int .i64 b.X1, .int .i64 b.Y1], .agg #[.int .i64 c.X0, .int .i64 c.Y0, .int .i64 c.X1, .int .i64 c.Y1]] w (RbIs (interR b c) w) := fun w => tinter_any b c w
  have Hag : ∀ w, Calls Try.prog 10 #[.agg #[.int .i64 a.X0, .int .i64 a.Y0, .int .i64 a.X1, .int .i64 a.Y1], .agg #[.int .i64 (interR b c).1.X0, .int .i64 (interR b c).1.Y0, .int .i64 (interR b c).1.X1, .int .i64 (interR b c).1.Y1]] w (RbIs (interR (interR a b).1 c) w) := fun w => by rw [inter_assoc a b c]; exact tinter_any a (interR b c).1 w
  by_cases ka : ROk a
  · by_cases kb : ROk b
    · have HR : ∀ w, Calls Try.prog 16 #[.agg #[.int .i64 a.X0, .int .i64 a.Y0, .int .i64 a.X1, .int .i64 a.Y1]] w (BlIs true w) := fun w => by
        have := tright_nd a.X0 a.Y0 a.X1 a.Y1 w
        rwa [show rokB ⟨a.X0, a.Y0, a.X1, a.Y1⟩ = true from (rokB_iff a).2 ka] at this
      have HR2 : ∀ w, Calls Try.prog 16 #[.agg #[.int .i64 b.X0, .int .i64 b.Y0, .int .i64 b.X1, .int .i64 b.Y1]] w (BlIs true w) := fun w => by
        have := tright_nd b.X0 b.Y0 b.X1 b.Y1 w
        rwa [show rokB ⟨b.X0, b.Y0, b.X1, b.Y1⟩ = true from (rokB_iff b).2 kb] at this
      have HB : ∀ w A c, RRow w A [a, b] → Calls Try.prog 28 #[.slice A 2 c] w (RbIs (hullR a b, true) w) := fun w A c h => by
        have := tbounds_any A c [a, b] w (by simp) h
        rwa [bounds_two ka kb] at this
      have hI := fun w => tinside_any a b w
      have id := grid64 (inter_grid a b)
      have ix := grid64 (hull_ok ka kb).grid
      have hle := hull_area ka kb
      obtain ⟨hda, hdb⟩ := inter_area ka kb
      by_cases hm : MeetR a b
      · have o1 : (interR a b).2 = true := by unfold interR; rw [if_pos hm]
        have hin : InsideR a b ↔ (interR a b).1 = a := by
          rw [inside_iff, o1]
          exact ⟨fun h => h.2.2, fun h => ⟨ka, rfl, h⟩⟩
        have h5 : ∀ (P : Prop), P → ((interR a b).2 = true ∧ decide (InsideR a b) = true ∧ (interR a b).1.X0 = a.X0 ∧ (interR a b).1.Y0 = a.Y0 ∧ (interR a b).1.X1 = a.X1 ∧ (interR a b).1.Y1 = a.Y1 ∧ P) ∨ ((interR a b).2 = true ∧ decide (InsideR a b) = false ∧ ((interR a b).1.X0 == a.X0) = false ∧ P) ∨ ((interR a b).2 = true ∧ decide (InsideR a b) = false ∧ (interR a b).1.X0 = a.X0 ∧ ((interR a b).1.Y0 == a.Y0) = false ∧ P) ∨ ((interR a b).2 = true ∧ decide (InsideR a b) = false ∧ (interR a b).1.X0 = a.X0 ∧ (interR a b).1.Y0 = a.Y0 ∧ ((interR a b).1.X1 == a.X1) = false ∧ P) ∨ ((interR a b).2 = true ∧ decide (InsideR a b) = false ∧ (interR a b).1.X0 = a.X0 ∧ (interR a b).1.Y0 = a.Y0 ∧ (interR a b).1.X1 = a.X1 ∧ ((interR a b).1.Y1 == a.Y1) = false ∧ P) := fun P hP => by
          have nf : ∀ q : ¬ (interR a b).1 = a, decide (InsideR a b) = false := fun q => decide_eq_false (fun h => q (hin.1 h))
          by_cases c0 : (interR a b).1.X0 = a.X0
          · by_cases c1 : (interR a b).1.Y0 = a.Y0
            · by_cases c2 : (interR a b).1.X1 = a.X1
              · by_cases c3 : (interR a b).1.Y1 = a.Y1
                · exact Or.inl ⟨o1, decide_eq_true (hin.2 (Rc.eq c0 c1 c2 c3)), c0, c1, c2, c3, hP⟩
                · exact Or.inr (Or.inr (Or.inr (Or.inr ⟨o1, nf (fun h => c3 (congrArg Rc.Y1 h)), c0, c1, c2, by simp [c3], hP⟩)))
              · exact Or.inr (Or.inr (Or.inr (Or.inl ⟨o1, nf (fun h => c2 (congrArg Rc.X1 h)), c0, c1, by simp [c2], hP⟩)))
            · exact Or.inr (Or.inr (Or.inl ⟨o1, nf (fun h => c1 (congrArg Rc.Y0 h)), c0, by simp [c1], hP⟩))
          · exact Or.inr (Or.inl ⟨o1, nf (fun h => c0 (congrArg Rc.X0 h)), by simp [c0], hP⟩)
        cases ht : (interR (interR a b).1 c).2
        · exact meets_d a.X0 a.Y0 a.X1 a.Y1 b.X0 b.Y0 b.X1 b.Y1 c.X0 c.Y0 c.X1 c.Y1 (interR a b).1.X0 (interR a b).1.Y0 (interR a b).1.X1 (interR a b).1.Y1 (interR (interR a b).1 c).1.X0 (interR (interR a b).1 c).1.Y0 (interR (interR a b).1 c).1.X1 (interR (interR a b).1 c).1.Y1 (interR b c).1.X0 (interR b c).1.Y0 (interR b c).1.X1 (interR b c).1.Y1 (hullR a b).X0 (hullR a b).Y0 (hullR a b).X1 (hullR a b).Y1 (interR a b).2 (interR (interR a b).1 c).2 (interR b c).2 (decide (InsideR a b)) (h5 _ ht) ia.1 ia.2.1 ia.2.2.1 ia.2.2.2 ib.1 ib.2.1 ib.2.2.1 ib.2.2.2 id.1 id.2.1 id.2.2.1 id.2.2.2 ix.1 ix.2.1 ix.2.2.1 ix.2.2.2 _ _ _ _ rfl rfl rfl rfl ⟨area_nn _, area_bd _⟩ ⟨area_nn _, area_bd _⟩ ⟨area_nn _, area_bd _⟩ hle hda hdb (Lib.hid Hab) (Lib.hid Hba) (Lib.hid Hdc) (Lib.hid Hbc) (Lib.hid Hag) (Lib.hid hI) (Lib.hid HR) (Lib.hid HR2) (Lib.hid HB) w
        · exact meets_e a.X0 a.Y0 a.X1 a.Y1 b.X0 b.Y0 b.X1 b.Y1 c.X0 c.Y0 c.X1 c.Y1 (interR a b).1.X0 (interR a b).1.Y0 (interR a b).1.X1 (interR a b).1.Y1 (interR (interR a b).1 c).1.X0 (interR (interR a b).1 c).1.Y0 (interR (interR a b).1 c).1.X1 (interR (interR a b).1 c).1.Y1 (interR b c).1.X0 (interR b c).1.Y0 (interR b c).1.X1 (interR b c).1.Y1 (hullR a b).X0 (hullR a b).Y0 (hullR a b).X1 (hullR a b).Y1 (interR a b).2 (interR (interR a b).1 c).2 (interR b c).2 (decide (InsideR a b)) (h5 _ ⟨ht, inter_need ht⟩) ia.1 ia.2.1 ia.2.2.1 ia.2.2.2 ib.1 ib.2.1 ib.2.2.1 ib.2.2.2 id.1 id.2.1 id.2.2.1 id.2.2.2 ix.1 ix.2.1 ix.2.2.1 ix.2.2.2 _ _ _ _ rfl rfl rfl rfl ⟨area_nn _, area_bd _⟩ ⟨area_nn _, area_bd _⟩ ⟨area_nn _, area_bd _⟩ hle hda hdb (Lib.hid Hab) (Lib.hid Hba) (Lib.hid Hdc) (Lib.hid Hbc) (Lib.hid Hag) (Lib.hid hI) (Lib.hid HR) (Lib.hid HR2) (Lib.hid HB) w
      · have o1 := inter_none hm
        have hz : (interR (interR a b).1 c).2 = false := by rw [o1, zinter c]
        have hif : decide (InsideR a b) = false := decide_eq_false (fun h => by have := (inside_iff a b).1 h; rw [o1] at this; exact absurd this.2.1 (by simp))
        exact meets_c a.X0 a.Y0 a.X1 a.Y1 b.X0 b.Y0 b.X1 b.Y1 c.X0 c.Y0 c.X1 c.Y1 (interR a b).1.X0 (interR a b).1.Y0 (interR a b).1.X1 (interR a b).1.Y1 (interR (interR a b).1 c).1.X0 (interR (interR a b).1 c).1.Y0 (interR (interR a b).1 c).1.X1 (interR (interR a b).1 c).1.Y1 (interR b c).1.X0 (interR b c).1.Y0 (interR b c).1.X1 (interR b c).1.Y1 (hullR a b).X0 (hullR a b).Y0 (hullR a b).X1 (hullR a b).Y1 (interR a b).2 (interR (interR a b).1 c).2 (interR b c).2 (decide (InsideR a b)) ⟨by rw [o1], hif, hz⟩ ia.1 ia.2.1 ia.2.2.1 ia.2.2.2 ib.1 ib.2.1 ib.2.2.1 ib.2.2.2 id.1 id.2.1 id.2.2.1 id.2.2.2 ix.1 ix.2.1 ix.2.2.1 ix.2.2.2 _ _ _ _ rfl rfl rfl rfl ⟨area_nn _, area_bd _⟩ ⟨area_nn _, area_bd _⟩ ⟨area_nn _, area_bd _⟩ hle hda hdb (Lib.hid Hab) (Lib.hid Hba) (Lib.hid Hdc) (Lib.hid Hbc) (Lib.hid Hag) (Lib.hid hI) (Lib.hid HR) (Lib.hid HR2) (Lib.hid HB) w
    · have o1 := inter_none (a := a) (b := b) (fun h => kb h.2.1)
      have HR : ∀ w, Calls Try.prog 16 #[.agg #[.int .i64 a.X0, .int .i64 a.Y0, .int .i64 a.X1, .int .i64 a.Y1]] w (BlIs true w) := fun w => by
        have := tright_nd a.X0 a.Y0 a.X1 a.Y1 w
        rwa [show rokB ⟨a.X0, a.Y0, a.X1, a.Y1⟩ = true from (rokB_iff a).2 ka] at this
      have HR2 : ∀ w, Calls Try.prog 16 #[.agg #[.int .i64 b.X0, .int .i64 b.Y0, .int .i64 b.X1, .int .i64 b.Y1]] w (BlIs false w) := fun w => by
        have := tright_nd b.X0 b.Y0 b.X1 b.Y1 w
        rwa [show rokB ⟨b.X0, b.Y0, b.X1, b.Y1⟩ = false from (rokB_no b).2 kb] at this
      have hI : ∀ w, Calls Try.prog 22 #[.agg #[.int .i64 a.X0, .int .i64 a.Y0, .int .i64 a.X1, .int .i64 a.Y1], .agg #[.int .i64 b.X0, .int .i64 b.Y0, .int .i64 b.X1, .int .i64 b.Y1]] w (BlIs false w) := fun w => by
        have := tinside_any a b w
        rwa [decide_eq_false (fun h => kb h.2.1)] at this
      exact meets_b a.X0 a.Y0 a.X1 a.Y1 b.X0 b.Y0 b.X1 b.Y1 c.X0 c.Y0 c.X1 c.Y1 (interR a b).1.X0 (interR a b).1.Y0 (interR a b).1.X1 (interR a b).1.Y1 (interR (interR a b).1 c).1.X0 (interR (interR a b).1 c).1.Y0 (interR (interR a b).1 c).1.X1 (interR (interR a b).1 c).1.Y1 (interR b c).1.X0 (interR b c).1.Y0 (interR b c).1.X1 (interR b c).1.Y1 (interR a b).2 (interR (interR a b).1 c).2 (interR b c).2 ⟨by rw [o1], by rw [o1, zinter c]⟩ ia.1 ia.2.1 ia.2.2.1 ia.2.2.2 ib.1 ib.2.1 ib.2.2.1 ib.2.2.2 (area_zero (fun h => kb h.2)) (Lib.hid Hab) (Lib.hid Hba) (Lib.hid Hdc) (Lib.hid Hbc) (Lib.hid Hag) (Lib.hid hI) (Lib.hid HR) (Lib.hid HR2) w
  · have o1 := inter_none (a := a) (b := b) (fun h => ka h.1)
    have HR : ∀ w, Calls Try.prog 16 #[.agg #[.int .i64 a.X0, .int .i64 a.Y0, .int .i64 a.X1, .int .i64 a.Y1]] w (BlIs false w) := fun w => by
      have := tright_nd a.X0 a.Y0 a.X1 a.Y1 w
      rwa [show rokB ⟨a.X0, a.Y0, a.X1, a.Y1⟩ = false from (rokB_no a).2 ka] at this
    have hI : ∀ w, Calls Try.prog 22 #[.agg #[.int .i64 a.X0, .int .i64 a.Y0, .int .i64 a.X1, .int .i64 a.Y1], .agg #[.int .i64 b.X0, .int .i64 b.Y0, .int .i64 b.X1, .int .i64 b.Y1]] w (BlIs false w) := fun w => by
      have := tinside_any a b w
      rwa [decide_eq_false (fun h => ka h.1)] at this
    exact meets_a a.X0 a.Y0 a.X1 a.Y1 b.X0 b.Y0 b.X1 b.Y1 c.X0 c.Y0 c.X1 c.Y1 (interR a b).1.X0 (interR a b).1.Y0 (interR a b).1.X1 (interR a b).1.Y1 (interR (interR a b).1 c).1.X0 (interR (interR a b).1 c).1.Y0 (interR (interR a b).1 c).1.X1 (interR (interR a b).1 c).1.Y1 (interR b c).1.X0 (interR b c).1.Y0 (interR b c).1.X1 (interR b c).1.Y1 (interR a b).2 (interR (interR a b).1 c).2 (interR b c).2 ⟨by rw [o1], by rw [o1, zinter c]⟩ ia.1 ia.2.1 ia.2.2.1 ia.2.2.2 ib.1 ib.2.1 ib.2.2.1 ib.2.2.2 (area_zero (fun h => ka h.1)) (Lib.hid Hab) (Lib.hid Hba) (Lib.hid Hdc) (Lib.hid Hbc) (Lib.hid Hag) (Lib.hid hI) (Lib.hid HR) w
end Go.Proofs.Ytpbkmphpgjdpfaa
