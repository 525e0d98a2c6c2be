/-
  Contracts of the program's layer 6 (14): Parts of two rectangles that don't touch, and of what is no region.
-/
import Derived.Test.YtdnoadngfkiabaaGreatS916
set_option linter.unusedVariables false
set_option maxRecDepth 100000
namespace Go.Proofs.YtdnoadngfkiabaaGreat
open Go.RowKit

end Go.Proofs.YtdnoadngfkiabaaGreat
