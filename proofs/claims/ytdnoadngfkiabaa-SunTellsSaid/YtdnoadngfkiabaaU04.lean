/-
  Contracts of the reference of layer 6 (2): what combine's contracts say.
  Plain mathematics of sight (layer 11), 3: forms of cells and of cubes that are moved. No program in this text.
-/
import Derived.Test.YtdnoadngfkiabaaU03
import Derived.BigQuiet
import Derived.Test.YtdnoadngfkiabaaU02
set_option linter.unusedVariables false
set_option maxRecDepth 100000
namespace Go.Proofs.Ytdnoadngfkiabaa
open Go.RowKit

theorem infoInt : (Try.prog.info? 3).map (fun i => (i.zero, i.size, i.bytes)) = some (some (.int .i64 0), 1, 8) := by kernel_rfl
/-- a slice of ints that the call made, and nothing that was there has turned. -/
structure OwnI (v : Value) (l : List Int) (w wr : World) : Prop where
  own : wr.ownsRow w.heap.size 3 1 v l.length (icells l)
  bel : Below w.heap.size w wr
theorem OwnI.drewN {v : Value} {l : List Int} {w wr : World} (h : OwnI v l w wr) (n : Nat) : OwnI v l w (wr.drewN n) := by
  refine ⟨?_, below_drewN h.bel n⟩
  obtain ⟨h1, h2⟩ := h.own
  exact ⟨h1, h2⟩
theorem icells_snoc (l : List Int) (x : Int) : icells (l ++ [x]) = icells l ++ [.int .i64 x] := by simp [icells]
theorem tmod_even {p : Nat} (h : p % 2 = 0) : Int.tmod (p : Int) 2 = 0 ∧ Int.tmod ((p : Int) + 1) 2 = 1 := by
  rw [Int.tmod_eq_emod_of_nonneg (by omega), Int.tmod_eq_emod_of_nonneg (by omega)]; omega
theorem tmod_odd {p : Nat} (h : p % 2 = 1) : Int.tmod (p : Int) 2 = 1 ∧ Int.tmod ((p : Int) + 1) 2 = 0 := by
  rw [Int.tmod_eq_emod_of_nonneg (by omega), Int.tmod_eq_emod_of_nonneg (by omega)]; omega
/-- where the loop stands. -/
def CombAt (op : Bool → Bool → Bool) (a b : List Int) (p q : Nat) (P Q : Bool) (l : List Int) : Prop := l ++ combGo op (a.drop p) (b.drop q) P Q (op P Q) = comb op a b
theorem drop_at {l : List Int} {p : Nat} (h : p < l.length) : l.drop p = l[p] :: l.drop (p + 1) := List.drop_eq_getElem_cons h
end Go.Proofs.Ytdnoadngfkiabaa
namespace Go.Proofs.Ytdnoadngfkiabaa

/-! ### slabs that are moved -/
/-! ### solids that are moved -/
end Go.Proofs.Ytdnoadngfkiabaa
