/-
  Mathematics of the laws of layer 9: what stays small; the boxes of a solid.
  Bits of int at .i64: and, or, and not of numbers below 2^63; 1 << i; x >> i. No program in it.
-/
import Derived.Test.YtdnoadngfkiabaaU33
import Derived.Test.YtdnoadngfkiabaaU07
import Derived.ProofKit
import Derived.Laws.BitsAllLaws
import Derived.IntWalk
set_option linter.unusedVariables false
set_option maxRecDepth 100000
namespace Go.Proofs.Ytdnoadngfkiabaa

/-! ### the boxes of a solid -/
end Go.Proofs.Ytdnoadngfkiabaa
namespace Go.Proofs.Ytdnoadngfkiabaa
open Go

theorem i64_and_nat (a b : Nat) (ha : a < 9223372036854775808) (hb : b < 9223372036854775808) : bits .and .i64 (a : Int) (b : Int) = ((a &&& b : Nat) : Int) := by
  have hx : a &&& b < 2 ^ 63 := Nat.and_lt_two_pow _ (by omega)
  show IntKind.i64.wrap ((BitVec.ofInt 64 (a : Int) &&& BitVec.ofInt 64 (b : Int)).toNat : Int) = _
  rw [BitVec.toNat_and, ofInt_u64 a (by omega), ofInt_u64 b (by omega)]
  exact IntWalk.i64_in _ (by omega)
end Go.Proofs.Ytdnoadngfkiabaa
