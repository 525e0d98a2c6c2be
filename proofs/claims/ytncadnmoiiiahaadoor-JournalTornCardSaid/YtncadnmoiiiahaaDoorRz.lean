/-
  What the texts of both disks build on.
-/
import Derived.Test.YtncadnmoiiiahaaDoorProg
import Derived.Test.YtncadnmoiiiahaaDoorDa
import Derived.WalkKit
import Derived.Lib.Hide
import Derived.WalkLawsBesides
import Derived.WalkSpells
import Derived.Outline
import Derived.BigQuiet
import Derived.Deep.QuietTactic
import Derived.OwnWalk
import Derived.Deep.OwnRows
import Derived.Laws.OwnMore
set_option linter.unusedVariables false
namespace Go.Proofs.YtncadnmoiiiahaaDoor
open Go.RowKit

/-- the cells of a list of pending sectors. -/
def qcells (l : List (Int × Nat)) : List Value := l.flatMap fun x => [.int .i64 x.1, .int .i64 (x.2 : Int)]
theorem qcells_length (l : List (Int × Nat)) : (qcells l).length = l.length * 2 := by
  induction l with
  | nil => rfl
  | cons x l ih => simp only [qcells, List.flatMap_cons, List.length_append, List.length_cons, List.length_nil] at ih ⊢; omega
theorem qcells_at (l : List (Int × Nat)) : ∀ (j : Nat) (h : j < l.length), (qcells l)[j * 2]? = some (.int .i64 l[j].1) ∧ (qcells l)[j * 2 + 1]? = some (.int .i64 (l[j].2 : Int)) := by
  induction l with
  | nil => intro j h; simp at h
  | cons x l ih =>
    intro j h
    cases j with
    | zero => exact ⟨rfl, rfl⟩
    | succ j =>
      have h2 : j < l.length := by simpa using h
      have h3 := ih j h2
      have e : ∀ i, (qcells (x :: l))[i + 2]? = (qcells l)[i]? := fun i => by
        show ([Value.int .i64 x.1, .int .i64 (x.2 : Int)] ++ qcells l)[i + 2]? = _
        rw [List.getElem?_append_right (by simp)]; simp
      simp only [List.getElem_cons_succ]
      rw [show (j + 1) * 2 = j * 2 + 2 by omega, show j * 2 + 2 + 1 = j * 2 + 1 + 2 by omega, e, e]
      exact h3
/-- what a list's value is: its address and its elements' cells. -/
theorem own_parts {w : World} {B e size n : Nat} {v : Value} {xs : List Value} (h : w.ownsRow B e size v n xs) :
    ∃ A cap, v = .slice A n cap ∧ (0 < n → ∃ g, A = some ⟨g, 0, none⟩ ∧ g < w.heap.size ∧ ∀ j, j < n * size → w.cell? ⟨g, j, none⟩ = xs[j]?) := by
  obtain ⟨hl, hv⟩ := h
  rcases hv with ⟨rfl, rfl⟩ | ⟨g, cap, cur, rfl, hB, hg, h2⟩
  · exact ⟨none, 0, rfl, fun h => absurd h (Nat.lt_irrefl _)⟩
  · refine ⟨_, cap, rfl, fun _ => ⟨g, rfl, ?_, fun j hj => ?_⟩⟩
    · rcases Nat.lt_or_ge g w.heap.size with hlt | hge
      · exact hlt
      · rw [Array.getElem?_eq_none hge] at hg; cases hg
    · exact World.ownsRow.cellAt ⟨hl, .inr ⟨g, cap, cur, rfl, hB, hg, h2⟩⟩ j hj


/-- an int of 64 bits. -/
def In64 (n : Int) : Prop := -9223372036854775808 ≤ n ∧ n ≤ 9223372036854775807

end Go.Proofs.YtncadnmoiiiahaaDoor
