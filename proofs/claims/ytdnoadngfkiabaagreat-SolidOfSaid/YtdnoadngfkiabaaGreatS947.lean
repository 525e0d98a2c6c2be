/-
  SolidBoxes: the law's walk.
-/
import Derived.Test.YtdnoadngfkiabaaGreatS943
import Derived.Test.YtdnoadngfkiabaaGreatS946
import Derived.BigQuiet
set_option linter.unusedVariables false
set_option maxRecDepth 100000
namespace Go.Proofs.YtdnoadngfkiabaaGreat
open Go.RowKit

theorem BIn.below {w w' : World} {A : Option Addr} {c : Nat} {l : List Bx} (h : BIn w A c l) (hb : Below w.heap.size w w') : BIn w' A c l := ⟨h.row.below hb, h.len, h.room, h.room2, h.nil⟩
end Go.Proofs.YtdnoadngfkiabaaGreat
