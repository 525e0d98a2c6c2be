/-
  Contracts of the program's layer 9, 8: both, Union, Common, Minus.
-/
import Derived.Test.YtdnoadngfkiabaaP922
set_option linter.unusedVariables false
set_option maxRecDepth 100000
namespace Go.Proofs.Ytdnoadngfkiabaa
open Go.RowKit

end Go.Proofs.Ytdnoadngfkiabaa
