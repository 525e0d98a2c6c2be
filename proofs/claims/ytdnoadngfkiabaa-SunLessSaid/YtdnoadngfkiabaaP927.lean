/-
  The laws' examples (small) of layer 9.
-/
import Derived.Test.YtdnoadngfkiabaaP916
import Derived.Test.YtdnoadngfkiabaaP926
set_option linter.unusedVariables false
set_option maxRecDepth 100000
namespace Go.Proofs.Ytdnoadngfkiabaa
open Go.RowKit

instance : DecidableEq Sl := fun a b => decidable_of_iff (a.z0 = b.z0 ∧ a.z1 = b.z1 ∧ a.ar = b.ar) ⟨fun h => Sl.eq h.1 h.2.1 h.2.2, fun h => by subst h; exact ⟨rfl, rfl, rfl⟩⟩
/-- what the walk keeps: lists of rectangles and of slabs at slices, and that nothing that was there has turned. -/
def SK9 (R : List (Option Addr × Nat × List Rc)) (M : List (Option Addr × Nat × List Sl)) (w0 w : World) : Prop := (∀ p ∈ R, RIn w p.1 p.2.1 p.2.2) ∧ (∀ p ∈ M, SIn w p.1 p.2.1 p.2.2) ∧ Below w0.heap.size w0 w
theorem SK9.go {R : List (Option Addr × Nat × List Rc)} {M : List (Option Addr × Nat × List Sl)} {w0 w w' : World} (h : SK9 R M w0 w) (hb : Below w.heap.size w w') : SK9 R M w0 w' := ⟨fun p hp => (h.1 p hp).below hb, fun p hp => (h.2.1 p hp).below hb, h.2.2.trans (hb.mono h.2.2.size)⟩
theorem SK9.start (w : World) : SK9 [] [] w w := ⟨fun p hp => (by cases hp), fun p hp => (by cases hp), Below.refl _ _⟩
/-! ### the examples -/
end Go.Proofs.Ytdnoadngfkiabaa
