/-
  Contracts of the program's layer 6 (6): column.
-/
import Derived.Test.YtdnoadngfkiabaaU09
import Derived.IntWalk
import Derived.Shelf.Abstract
import Derived.Deep.DeepCutAuto
set_option linter.unusedVariables false
set_option maxRecDepth 100000
namespace Go.Proofs.Ytdnoadngfkiabaa
open Go.RowKit

/-- behind the counting of a side. -/
def Mid (p : Nat) (y : Int) (nb m cn : Nat) (c : List Int) (v : Value) (l : List Rc) (w wr : World) : Prop := wr.cell? ⟨p, 2, none⟩ = some (.int .i64 y) ∧ p < wr.heap.size ∧ CW nb m cn c v l w wr
theorem Mid.go {p : Nat} {y : Int} {nb m cn : Nat} {c : List Int} {v : Value} {l : List Rc} {w wr w' : World} (h : Mid p y nb m cn c v l w wr) (hb : Below wr.heap.size wr w') : Mid p y nb m cn c v l w w' :=
  ⟨(hb.cell (p := ⟨p, 2, none⟩) h.2.1).trans h.1, Nat.lt_of_lt_of_le h.2.1 hb.size, h.2.2.go hb⟩
theorem Mid.drewN {p : Nat} {y : Int} {nb m cn : Nat} {c : List Int} {v : Value} {l : List Rc} {w wr : World} (h : Mid p y nb m cn c v l w wr) (n : Nat) : Mid p y nb m cn c v l w (wr.drewN n) := h.go (below_drewN (Below.refl _ _) n)
end Go.Proofs.Ytdnoadngfkiabaa
