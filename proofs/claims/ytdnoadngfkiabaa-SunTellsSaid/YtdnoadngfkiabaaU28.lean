/-
  Contracts of the program's layer 9, 7: Of.
-/
import Derived.Test.YtdnoadngfkiabaaU20
import Derived.Test.YtdnoadngfkiabaaU23
set_option linter.unusedVariables false
set_option maxRecDepth 100000
namespace Go.Proofs.Ytdnoadngfkiabaa
open Go.RowKit

/-- a box at a block of its own. -/
def BxAt (w : World) (p : Nat) (u : Bx) : Prop := w.heap[p]? = some (.cells #[.int .i64 u.r.X0, .int .i64 u.r.Y0, .int .i64 u.r.X1, .int .i64 u.r.Y1, .int .i64 u.z0, .int .i64 u.z1] 45 (0, 0))
theorem BxAt.lt {w : World} {p : Nat} {u : Bx} (h : BxAt w p u) : p < w.heap.size := (Array.getElem?_eq_some_iff.1 h).1
theorem BxAt.c4 {w : World} {p : Nat} {u : Bx} (h : BxAt w p u) : w.cell? ⟨p, 4, none⟩ = some (.int .i64 u.z0) := by rw [Lib.cell_of_heap h]; rfl
theorem BxAt.c5 {w : World} {p : Nat} {u : Bx} (h : BxAt w p u) : w.cell? ⟨p, 5, none⟩ = some (.int .i64 u.z1) := by rw [Lib.cell_of_heap h]; rfl
theorem BxAt.below {w w' : World} {p : Nat} {u : Bx} (h : BxAt w p u) (hb : Below w.heap.size w w') : BxAt w' p u := (hb.block p h.lt).trans h
theorem BxAt.new (w : World) (u : Bx) : BxAt (w.alloc (.cells #[.int .i64 u.r.X0, .int .i64 u.r.Y0, .int .i64 u.r.X1, .int .i64 u.r.Y1, .int .i64 u.z0, .int .i64 u.z1] 45)) w.heap.size u := heap_alloc_new w _
end Go.Proofs.Ytdnoadngfkiabaa
