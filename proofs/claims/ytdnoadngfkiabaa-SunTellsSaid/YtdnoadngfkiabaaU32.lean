/-
  Contracts of the program's layer 9, 11: Top.
-/
import Derived.Test.YtdnoadngfkiabaaU31
set_option linter.unusedVariables false
set_option maxRecDepth 100000
namespace Go.Proofs.Ytdnoadngfkiabaa
open Go.RowKit Go.Shelf

attribute [local go_sem] Oper.semAt_some
end Go.Proofs.Ytdnoadngfkiabaa
