/-
  Contracts of the program's layer 6 (14): Parts of two rectangles that don't touch, and of what is no region.
-/
import Derived.Test.YtppomhgknhmceaaGreatHt
set_option linter.unusedVariables false
set_option maxRecDepth 100000
namespace Go.Proofs.YtppomhgknhmceaaGreat
open Go.RowKit

def flg (k : Nat) : List Bool := [decide (0 < k), decide (1 < k)]
structure PW (vp : Value) (Vs : List Value) (k rb : Nat) (w wr : World) : Prop where
  own : wr.ownsRow w.heap.size 40 1 vp k Vs
  flags : wr.ownsRow rb 4 1 (.slice (some ⟨rb, 0, none⟩) 2 2) 2 (bcells (flg k))
  bel : Below w.heap.size w wr
def LenIs (n : Nat) (w : World) (e : Ending) (w' : World) : Prop := ∃ A cap, e = .returned (.slice A n cap) ∧ Below w.heap.size w w'
theorem own_val {w : World} {B e n : Nat} {v : Value} {xs : List Value} (h : w.ownsRow B e 1 v n xs) : ∃ A cap, v = .slice A n cap := by
  obtain ⟨A, cap, rfl, _⟩ := own_parts h
  exact ⟨A, cap, rfl⟩
end Go.Proofs.YtppomhgknhmceaaGreat
