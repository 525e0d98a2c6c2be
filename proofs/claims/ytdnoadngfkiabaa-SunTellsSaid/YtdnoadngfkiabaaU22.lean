/-
  Contracts of the program's layer 8 (6): the sort and the compaction that changes calls (the library's).
-/
import Derived.Test.YtdnoadngfkiabaaU12
import Derived.Test.YtdnoadngfkiabaaWs
import Derived.Test.YtdnoadngfkiabaaU21
set_option linter.unusedVariables false
set_option maxRecDepth 100000
namespace Go.Proofs.Ytdnoadngfkiabaa
open Go.RowKit Go.Shelf Go.Lib Go.Sort

end Go.Proofs.Ytdnoadngfkiabaa
