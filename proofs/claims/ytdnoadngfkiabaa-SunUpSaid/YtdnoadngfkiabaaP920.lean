/-
  Contracts of the program's layer 8 (6): the sort and the compaction that changes calls (the library's).
-/
import Derived.Test.YtdnoadngfkiabaaP908
import Derived.Test.YtdnoadngfkiabaaWs
import Derived.Test.YtdnoadngfkiabaaP919
set_option linter.unusedVariables false
set_option maxRecDepth 100000
namespace Go.Proofs.Ytdnoadngfkiabaa
open Go.RowKit Go.Shelf Go.Lib Go.Sort

theorem holds_own {w : World} {B g cap : Nat} {l : List Int} (h : w.ownsRow B 3 1 (.slice (some ⟨g, 0, none⟩) l.length cap) l.length (icells l)) : Holds (Value.int .i64) w g 0 l.toArray := fun j hj => by
  have hj' : j < l.length := by simpa using hj
  refine ⟨?_, h.frozenAt _⟩
  rw [Nat.zero_add, h.cellAt j (by omega)]
  simp [icells, hj']
theorem gsort_holds (B g cap : Nat) (l : List Int) (w : World) (h : w.ownsRow B 3 1 (.slice (some ⟨g, 0, none⟩) l.length cap) l.length (icells l)) (hl : l.length ≤ 1099511627776) :
    Calls Try.prog 50 #[.slice (some ⟨g, 0, none⟩) l.length cap] w fun e w' => e = .returned (.tuple #[]) ∧ ∃ S : List Int, S.Perm l ∧ SrtN S ∧ Holds (Value.int .i64) w' g 0 S.toArray ∧ w.grownBy w' (some g) := by
  have hg : g < w.heap.size := (h.lt g rfl).2
  have hH := holds_own h
  refine (Go.Proofs.Try.slices_Sort_int g 0 cap l w hH hg (by omega)).mono ?_
  rintro e w' ⟨rfl, n, os, rfl⟩
  have hp := List.mergeSort_perm l (fun x y => decide (x ≤ y))
  refine ⟨rfl, l.mergeSort fun x y => decide (x ≤ y), hp, ?_, holds_grow _ _ _ _ _ _ (by simpa using hg) (holds_putRow _ _ _ _ l.toArray _ (holds_ahead _ _ _ _ _ _ hH) (by simp [hp.length_eq])), grownBy_sort⟩
  have hs := List.pairwise_mergeSort (le := fun x y : Int => decide (x ≤ y)) (fun a b c h1 h2 => by simp at *; omega) (fun a b => by simp; omega) l
  intro i j hi hj hij
  rcases Nat.lt_or_ge i j with hlt | hge
  · have := List.pairwise_iff_getElem.1 hs i j hi hj hlt
    simpa using this
  · obtain rfl : i = j := by omega
    exact Int.le_refl _
theorem ycompact_any (g cap : Nat) (S : List Int) (w : World) (hH : Holds (Value.int .i64) w g 0 S.toArray) (hg : g < w.heap.size) (hs : SrtN S) (hl : S.length ≤ 1099511627776) (hc : S.length ≤ cap) :
    Calls Try.prog 51 #[.slice (some ⟨g, 0, none⟩) S.length cap] w fun e w' => e = .returned (.slice (some ⟨g, 0, none⟩) (Lib.compact S).length cap) ∧ (∀ j (h : j < (Lib.compact S).length), w'.cell? ⟨g, j, none⟩ = some (.int .i64 (Lib.compact S)[j])) ∧ w.grownBy w' (some g) := by
  refine (Go.Proofs.Try.slices_Compact_int g 0 cap S w hH (by omega) hc).mono ?_
  rintro e w' ⟨rfl, q, rfl⟩
  have hcl := (compact_is hs).2.2
  refine ⟨rfl, fun j hj => ?_, rfl, rfl, rfl, by simp [putRow, mapBlock, Sort.ahead], fun k hk hne => ?_⟩
  · have := cell?_putRow (Value.int .i64) (Sort.ahead w q) g 0 S.toArray (Lib.compact S ++ List.replicate (S.length - (Lib.compact S).length) 0).toArray (holds_ahead _ _ _ _ _ _ hH) (by simp; omega) j (by simp; omega)
    rw [Nat.zero_add] at this
    rw [this, getElem!_pos _ j (by simp; omega)]
    simp [hj]
  · have : k ≠ g := fun e => hne (by rw [e])
    simp [putRow, mapBlock, Sort.ahead, Array.getElem?_modify]; intro e; exact absurd e.symm this
theorem gsort_none (A : Option Addr) (cap : Nat) (w : World) : Calls Try.prog 50 #[.slice A 0 cap] w fun e w' => e = .returned (.tuple #[]) ∧ w' = w := Go.Proofs.Try.slices_Sort_int_none A cap w
theorem ycompact_none (A : Option Addr) (cap : Nat) (w : World) : Calls Try.prog 51 #[.slice A 0 cap] w fun e w' => e = .returned (.slice A 0 cap) ∧ w' = w := Go.Proofs.Try.slices_Compact_int_empty A cap w
end Go.Proofs.Ytdnoadngfkiabaa
