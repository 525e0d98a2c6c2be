/-
  Mathematics: the boxes of a solid.
  Rows of boxes in memory, as a function that makes one hands it back.
-/
import Derived.Test.YtkjblmfmaenllaaGreatWt
import Derived.Test.YtkjblmfmaenllaaGreatRq
set_option linter.unusedVariables false
set_option maxRecDepth 100000
namespace Go.Proofs.YtkjblmfmaenllaaGreat

end Go.Proofs.YtkjblmfmaenllaaGreat
namespace Go.Proofs.YtkjblmfmaenllaaGreat
open Go.RowKit

def bxc (b : Bx) : List Value := [.int .i64 b.r.X0, .int .i64 b.r.Y0, .int .i64 b.r.X1, .int .i64 b.r.Y1, .int .i64 b.z0, .int .i64 b.z1]
end Go.Proofs.YtkjblmfmaenllaaGreat
