/-
  Contracts of the reference of layer 6 (2): combine (or).
-/
import Derived.Test.YtdnoadngfkiabaaP903
import Derived.BigQuiet
set_option linter.unusedVariables false
set_option maxRecDepth 100000
namespace Go.Proofs.Ytdnoadngfkiabaa
open Go.RowKit

end Go.Proofs.Ytdnoadngfkiabaa
