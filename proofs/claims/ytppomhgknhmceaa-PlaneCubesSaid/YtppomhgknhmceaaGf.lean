/-
  Contracts of the reference of layer 6 (1): RightRect, ints, Same.
-/
import Derived.Test.YtppomhgknhmceaaGe
import Derived.BigQuiet
set_option linter.unusedVariables false
set_option maxRecDepth 100000
namespace Go.Proofs.Ytppomhgknhmceaa
open Go.RowKit

/-- the first k of two lists are equal. -/
theorem take_eq_step {α : Type} {l m : List α} {k : Nat} (h1 : k < l.length) (h2 : k < m.length) (h : l.take k = m.take k) (e : l[k] = m[k]) : l.take (k + 1) = m.take (k + 1) := by
  rw [List.take_succ_eq_append_getElem h1, List.take_succ_eq_append_getElem h2, h, e]
instance (l m : List Int) : Decidable (l = m) := inferInstance
theorem rc_parts {u v : Rc} : u = v ∨ (u ≠ v ∧ ((u.X0 == v.X0) = false ∨ (u.X0 = v.X0 ∧ (u.Y0 == v.Y0) = false) ∨ (u.X0 = v.X0 ∧ u.Y0 = v.Y0 ∧ (u.X1 == v.X1) = false) ∨ (u.X0 = v.X0 ∧ u.Y0 = v.Y0 ∧ u.X1 = v.X1 ∧ (u.Y1 == v.Y1) = false))) := by
  by_cases e : u = v
  · exact Or.inl e
  · refine Or.inr ⟨e, ?_⟩
    by_cases c0 : u.X0 = v.X0
    · by_cases c1 : u.Y0 = v.Y0
      · by_cases c2 : u.X1 = v.X1
        · by_cases c3 : u.Y1 = v.Y1
          · exact absurd (Rc.eq c0 c1 c2 c3) e
          · exact Or.inr (Or.inr (Or.inr ⟨c0, c1, c2, by simp [c3]⟩))
        · exact Or.inr (Or.inr (Or.inl ⟨c0, c1, by simp [c2]⟩))
      · exact Or.inr (Or.inl ⟨c0, by simp [c1]⟩)
    · exact Or.inl (by simp [c0])
end Go.Proofs.Ytppomhgknhmceaa
