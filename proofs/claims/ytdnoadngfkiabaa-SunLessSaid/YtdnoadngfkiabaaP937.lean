/-
  Contracts of the reference of layer 6 (7): Of, Right.
-/
import Derived.Test.YtdnoadngfkiabaaP935
import Derived.Test.YtdnoadngfkiabaaP936
import Derived.Test.YtdnoadngfkiabaaP910
set_option linter.unusedVariables false
set_option maxRecDepth 100000
namespace Go.Proofs.Ytdnoadngfkiabaa
open Go.RowKit

end Go.Proofs.Ytdnoadngfkiabaa
