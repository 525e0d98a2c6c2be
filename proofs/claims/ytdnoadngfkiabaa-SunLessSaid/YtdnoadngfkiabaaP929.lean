/-
  SolidBoxes: the law's walk.
-/
import Derived.Test.YtdnoadngfkiabaaP928
import Derived.Test.YtdnoadngfkiabaaP921
import Derived.BigQuiet
set_option linter.unusedVariables false
set_option maxRecDepth 100000
namespace Go.Proofs.Ytdnoadngfkiabaa
open Go.RowKit

theorem BIn.below {w w' : World} {A : Option Addr} {c : Nat} {l : List Bx} (h : BIn w A c l) (hb : Below w.heap.size w w') : BIn w' A c l := ⟨h.row.below hb, h.len, h.room, h.room2, h.nil⟩
end Go.Proofs.Ytdnoadngfkiabaa
