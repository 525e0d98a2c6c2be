/-
  Contracts of the reference of layer 9, 3: SameBoxes, RightBox.
-/
import Derived.Test.YtkjblmfmaenllaaAd
import Derived.Test.YtkjblmfmaenllaaGf
set_option linter.unusedVariables false
set_option maxRecDepth 100000
namespace Go.Proofs.Ytkjblmfmaenllaa
open Go.RowKit

instance : DecidableEq Bx := fun a b => decidable_of_iff (a.r = b.r ∧ a.z0 = b.z0 ∧ a.z1 = b.z1) ⟨fun h => by obtain ⟨r, z0, z1⟩ := a; obtain ⟨s, y0, y1⟩ := b; obtain ⟨h1, h2, h3⟩ := h; simp only at h1 h2 h3; subst h1; subst h2; subst h3; rfl, fun h => by subst h; exact ⟨rfl, rfl, rfl⟩⟩
theorem bx_parts {u v : Bx} : u = v ∨ (u ≠ v ∧ (((u.r.X0 == v.r.X0) = false) ∨ (u.r.X0 = v.r.X0 ∧ (u.r.Y0 == v.r.Y0) = false) ∨ (u.r.X0 = v.r.X0 ∧ u.r.Y0 = v.r.Y0 ∧ (u.r.X1 == v.r.X1) = false) ∨ (u.r.X0 = v.r.X0 ∧ u.r.Y0 = v.r.Y0 ∧ u.r.X1 = v.r.X1 ∧ (u.r.Y1 == v.r.Y1) = false) ∨ (u.r.X0 = v.r.X0 ∧ u.r.Y0 = v.r.Y0 ∧ u.r.X1 = v.r.X1 ∧ u.r.Y1 = v.r.Y1 ∧ (u.z0 == v.z0) = false) ∨ (u.r.X0 = v.r.X0 ∧ u.r.Y0 = v.r.Y0 ∧ u.r.X1 = v.r.X1 ∧ u.r.Y1 = v.r.Y1 ∧ u.z0 = v.z0 ∧ (u.z1 == v.z1) = false))) := by
  by_cases e : u = v
  · exact Or.inl e
  · refine Or.inr ⟨e, ?_⟩
    by_cases c0 : u.r.X0 = v.r.X0
    case neg => exact Or.inl (by simp [c0])
    case pos =>
      by_cases c1 : u.r.Y0 = v.r.Y0
      case neg => exact Or.inr (Or.inl ⟨c0, by simp [c1]⟩)
      case pos =>
        by_cases c2 : u.r.X1 = v.r.X1
        case neg => exact Or.inr (Or.inr (Or.inl ⟨c0, c1, by simp [c2]⟩))
        case pos =>
          by_cases c3 : u.r.Y1 = v.r.Y1
          case neg => exact Or.inr (Or.inr (Or.inr (Or.inl ⟨c0, c1, c2, by simp [c3]⟩)))
          case pos =>
            by_cases c4 : u.z0 = v.z0
            case neg => exact Or.inr (Or.inr (Or.inr (Or.inr (Or.inl ⟨c0, c1, c2, c3, by simp [c4]⟩))))
            case pos =>
              by_cases c5 : u.z1 = v.z1
              case neg => exact Or.inr (Or.inr (Or.inr (Or.inr (Or.inr (⟨c0, c1, c2, c3, c4, by simp [c5]⟩)))))
              case pos =>
                exact absurd (by
                  obtain ⟨⟨_, _, _, _⟩, _, _⟩ := u; obtain ⟨⟨_, _, _, _⟩, _, _⟩ := v
                  simp_all) e
set_option maxHeartbeats 8000000 in
theorem drb_any (u : Bx) (w : World) : Calls Try.prog 23 #[.agg #[.int .i64 u.r.X0, .int .i64 u.r.Y0, .int .i64 u.r.X1, .int .i64 u.r.Y1, .int .i64 u.z0, .int .i64 u.z1]] w (BlIs (decide (BOk u)) w) := by
  have HV := Lib.hid (fun w' => vright_nd u.r.X0 u.r.Y0 u.r.X1 u.r.Y1 w')
  have HA : Hid (Below w.heap.size w (w.alloc (.cells #[.int .i64 u.r.X0, .int .i64 u.r.Y0, .int .i64 u.r.X1, .int .i64 u.r.Y1, .int .i64 u.z0, .int .i64 u.z1] 37))) := Lib.hid ((Below.refl _ _).alloc (Nat.le_refl _) _)
  have h0 := heap_alloc_new w (.cells #[.int .i64 u.r.X0, .int .i64 u.r.Y0, .int .i64 u.r.X1, .int .i64 u.r.Y1, .int .i64 u.z0, .int .i64 u.z1] 37)
  have hw : w.heap.size < (w.alloc (.cells #[.int .i64 u.r.X0, .int .i64 u.r.Y0, .int .i64 u.r.X1, .int .i64 u.r.Y1, .int .i64 u.z0, .int .i64 u.z1] 37)).heap.size := (Array.getElem?_eq_some_iff.1 h0).1
  have X4 : Hid ((w.alloc (.cells #[.int .i64 u.r.X0, .int .i64 u.r.Y0, .int .i64 u.r.X1, .int .i64 u.r.Y1, .int .i64 u.z0, .int .i64 u.z1] 37)).cell? ⟨w.heap.size, 4, none⟩ = some (.int .i64 u.z0)) := Lib.hid (by rw [Lib.cell_of_heap h0]; rfl)
  have X5 : Hid ((w.alloc (.cells #[.int .i64 u.r.X0, .int .i64 u.r.Y0, .int .i64 u.r.X1, .int .i64 u.r.Y1, .int .i64 u.z0, .int .i64 u.z1] 37)).cell? ⟨w.heap.size, 5, none⟩ = some (.int .i64 u.z1)) := Lib.hid (by rw [Lib.cell_of_heap h0]; rfl)
  have HW := Lib.hid hw
  clear h0 hw
  by_cases c0 : ROk u.r
  · rw [show rokB ⟨u.r.X0, u.r.Y0, u.r.X1, u.r.Y1⟩ = true from decide_eq_true c0] at HV
    have tail : ∀ b, b = decide (HOk u.z0 u.z1) → b = decide (BOk u) := fun b hb => by
      rw [hb]; exact decide_eq_decide.2 ⟨fun h => ⟨c0, h⟩, fun h => h.2⟩
    have HT := Lib.hid tail; clear tail c0
    by_cases c1 : 0 ≤ u.z0
    · by_cases c2 : u.z0 < u.z1
      · by_cases c3 : u.z1 ≤ 4096
        · have HQ := Lib.hid (HT.out true (decide_eq_true ⟨c1, c2, c3⟩).symm); clear HT
          rw [← HQ.out]
          go_enter Try.func23, Try.ntmps23
          go_wp2_with fail
          refine (HV.out _).mono ?_
          rintro e w1 ⟨rfl, hb⟩
          have x4 := (hb.cell (p := ⟨w.heap.size, 4, none⟩) HW.out).trans X4.out
          have x5 := (hb.cell (p := ⟨w.heap.size, 5, none⟩) HW.out).trans X5.out
          have hlt := Nat.lt_of_lt_of_le HW.out hb.size
          have HB := Lib.hid (HA.out.trans (hb.mono HA.out.size))
          clear hb
          go_wp2_with fail
          go_ret
          exact ⟨by first | rfl | (apply ret_bl; rw [decide_eq_false_iff_not]; omega) | (apply ret_bl; rw [decide_eq_true_iff]; omega), HB.out⟩
        · have HQ := Lib.hid (HT.out false (decide_eq_false (fun h => c3 h.2.2)).symm); clear HT
          rw [← HQ.out]
          go_enter Try.func23, Try.ntmps23
          go_wp2_with fail
          refine (HV.out _).mono ?_
          rintro e w1 ⟨rfl, hb⟩
          have x4 := (hb.cell (p := ⟨w.heap.size, 4, none⟩) HW.out).trans X4.out
          have x5 := (hb.cell (p := ⟨w.heap.size, 5, none⟩) HW.out).trans X5.out
          have hlt := Nat.lt_of_lt_of_le HW.out hb.size
          have HB := Lib.hid (HA.out.trans (hb.mono HA.out.size))
          clear hb
          go_wp2_with fail
          go_ret
          exact ⟨by first | rfl | (apply ret_bl; rw [decide_eq_false_iff_not]; omega) | (apply ret_bl; rw [decide_eq_true_iff]; omega), HB.out⟩
      · have HQ := Lib.hid (HT.out false (decide_eq_false (fun h => c2 h.2.1)).symm); clear HT
        rw [← HQ.out]
        go_enter Try.func23, Try.ntmps23
        go_wp2_with fail
        refine (HV.out _).mono ?_
        rintro e w1 ⟨rfl, hb⟩
        have x4 := (hb.cell (p := ⟨w.heap.size, 4, none⟩) HW.out).trans X4.out
        have x5 := (hb.cell (p := ⟨w.heap.size, 5, none⟩) HW.out).trans X5.out
        have hlt := Nat.lt_of_lt_of_le HW.out hb.size
        have HB := Lib.hid (HA.out.trans (hb.mono HA.out.size))
        clear hb
        go_wp2_with fail
        go_ret
        exact ⟨by first | rfl | (apply ret_bl; rw [decide_eq_false_iff_not]; omega) | (apply ret_bl; rw [decide_eq_true_iff]; omega), HB.out⟩
    · have HQ := Lib.hid (HT.out false (decide_eq_false (fun h => c1 h.1)).symm); clear HT
      rw [← HQ.out]
      go_enter Try.func23, Try.ntmps23
      go_wp2_with fail
      refine (HV.out _).mono ?_
      rintro e w1 ⟨rfl, hb⟩
      have x4 := (hb.cell (p := ⟨w.heap.size, 4, none⟩) HW.out).trans X4.out
      have x5 := (hb.cell (p := ⟨w.heap.size, 5, none⟩) HW.out).trans X5.out
      have hlt := Nat.lt_of_lt_of_le HW.out hb.size
      have HB := Lib.hid (HA.out.trans (hb.mono HA.out.size))
      clear hb
      go_wp2_with fail
      go_ret
      exact ⟨by first | rfl | (apply ret_bl; rw [decide_eq_false_iff_not]; omega) | (apply ret_bl; rw [decide_eq_true_iff]; omega), HB.out⟩
  · rw [show rokB ⟨u.r.X0, u.r.Y0, u.r.X1, u.r.Y1⟩ = false from decide_eq_false c0] at HV
    have HQ : Hid (false = decide (BOk u)) := Lib.hid (decide_eq_false (fun h => c0 h.1)).symm
    clear c0
    rw [← HQ.out]
    go_enter Try.func23, Try.ntmps23
    go_wp2_with fail
    refine (HV.out _).mono ?_
    rintro e w1 ⟨rfl, hb⟩
    have x4 := (hb.cell (p := ⟨w.heap.size, 4, none⟩) HW.out).trans X4.out
    have x5 := (hb.cell (p := ⟨w.heap.size, 5, none⟩) HW.out).trans X5.out
    have hlt := Nat.lt_of_lt_of_le HW.out hb.size
    have HB := Lib.hid (HA.out.trans (hb.mono HA.out.size))
    clear hb
    go_wp2_with fail
    go_ret
    exact ⟨by first | rfl | (apply ret_bl; rw [decide_eq_false_iff_not]; omega) | (apply ret_bl; rw [decide_eq_true_iff]; omega), HB.out⟩
end Go.Proofs.Ytkjblmfmaenllaa
