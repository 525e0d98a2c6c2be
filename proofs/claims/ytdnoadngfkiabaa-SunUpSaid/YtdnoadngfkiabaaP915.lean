/-
  Contracts of the program's layer 6 (14): Parts of two rectangles that don't touch, and of what is no region.
-/
import Derived.Test.YtdnoadngfkiabaaP914
set_option linter.unusedVariables false
set_option maxRecDepth 100000
namespace Go.Proofs.Ytdnoadngfkiabaa
open Go.RowKit

end Go.Proofs.Ytdnoadngfkiabaa
