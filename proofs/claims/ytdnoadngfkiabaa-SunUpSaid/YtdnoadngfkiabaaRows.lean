/-
  No cell of these rows narrows 'for every input' (looked for: loops, veiled, ifaces, maps, wideKeys, modest, calm, conditions, laid).
  DERIVED. THE GIVEN ROWS OF THIS SEAT. 4 by the template 'for every input the law returns true; each argument reads behind the call as it read before'; 0 by the template 'total and deterministic' (their statements: YtdnoadngfkiabaaTotals.lean).
  GIVEN WITH THE SEED: the statements are not yours to turn. If you find one false, say at which input.
  Laid BY PROGRAM, IN A SANDBOX (cutbox-rows.mjs): the forced cells as the released guide's own fill.sh prints them over the translation 778c859e4d3ea1d1… (all of the seat's roots in one cut). By AI agents, Wed Nov 11 2026. No macro, syntax, notation, axiom, sorry.
-/
import Derived.Test.YtdnoadngfkiabaaChecked
import GoSem.Claim
import GoSem.ClaimJoined
import GoSem.ClaimMapViews
import Derived.JoinedTies
import Derived.KernelRfl
namespace Go.Proofs.Ytdnoadngfkiabaa
/- THE CELL 'sum', in the pinned program and in every row, IS THE sha256 OF THE DUMP (.gsa) THAT YtdnoadngfkiabaaProg.lean LOADS. Nothing in Lean hashes anything: it is a label: what it is worth is what the hold of that sum in a sandbox is worth. -/
noncomputable def Try.pinned : Pinned := { name := "ytdnoadngfkiabaa", sum := "778c859e4d3ea1d1fdac6ba9de79f23220457d0f7c300d9eb8fcf16b3c4c8853", checked := Try.checked }
namespace Rows
def none {H : Type} : Left H := { results := [], args := [] }

/-- 'greenbeltlaw12.SunTells': WHATEVER THE INPUT: true; the input reads as it did. -/
def sunTellsSpec : ChangeSpec := { name := "sunTells", fn := fun _ => fun
  | [d1, d2, d3, d4, d5] => { results := [.lit (.bool true)], args := [d1, d2, d3, d4, d5] }
  | _ => none }
def sunTellsRow : OpenClaim := { program := "ytdnoadngfkiabaa", sum := "778c859e4d3ea1d1fdac6ba9de79f23220457d0f7c300d9eb8fcf16b3c4c8853", func := "greenbelt/greenbeltlaw12.SunTells", spec := "sunTells", unfollowed := true, recurses := true, apart := false }
def SunTellsSaid : Prop := sunTellsRow.holds Try.pinned (OpenSpec.ofChange sunTellsSpec)

/-- ITS FALSE NEIGHBOUR: 'it returns false'. Refute it at one input. -/
def sunTellsWrong : ChangeSpec := { name := "sunTells", fn := fun _ => fun
  | [d1, d2, d3, d4, d5] => { results := [.lit (.bool false)], args := [d1, d2, d3, d4, d5] }
  | _ => none }
def SunTellsWrongFalsely : Prop := sunTellsRow.holds Try.pinned (OpenSpec.ofChange sunTellsWrong)

/-- 'greenbeltlaw12.SunLess': WHATEVER THE INPUT: true; the input reads as it did. -/
def sunLessSpec : ChangeSpec := { name := "sunLess", fn := fun _ => fun
  | [d1, d2, d3, d4] => { results := [.lit (.bool true)], args := [d1, d2, d3, d4] }
  | _ => none }
def sunLessRow : OpenClaim := { program := "ytdnoadngfkiabaa", sum := "778c859e4d3ea1d1fdac6ba9de79f23220457d0f7c300d9eb8fcf16b3c4c8853", func := "greenbelt/greenbeltlaw12.SunLess", spec := "sunLess", unfollowed := true, recurses := true, apart := false }
def SunLessSaid : Prop := sunLessRow.holds Try.pinned (OpenSpec.ofChange sunLessSpec)

/-- ITS FALSE NEIGHBOUR: 'it returns false'. Refute it at one input. -/
def sunLessWrong : ChangeSpec := { name := "sunLess", fn := fun _ => fun
  | [d1, d2, d3, d4] => { results := [.lit (.bool false)], args := [d1, d2, d3, d4] }
  | _ => none }
def SunLessWrongFalsely : Prop := sunLessRow.holds Try.pinned (OpenSpec.ofChange sunLessWrong)

/-- 'greenbeltlaw12.SunUp': WHATEVER THE INPUT: true; the input reads as it did. -/
def sunUpSpec : ChangeSpec := { name := "sunUp", fn := fun _ => fun
  | [d1, d2, d3] => { results := [.lit (.bool true)], args := [d1, d2, d3] }
  | _ => none }
def sunUpRow : OpenClaim := { program := "ytdnoadngfkiabaa", sum := "778c859e4d3ea1d1fdac6ba9de79f23220457d0f7c300d9eb8fcf16b3c4c8853", func := "greenbelt/greenbeltlaw12.SunUp", spec := "sunUp", unfollowed := true, recurses := true, apart := false }
def SunUpSaid : Prop := sunUpRow.holds Try.pinned (OpenSpec.ofChange sunUpSpec)

/-- ITS FALSE NEIGHBOUR: 'it returns false'. Refute it at one input. -/
def sunUpWrong : ChangeSpec := { name := "sunUp", fn := fun _ => fun
  | [d1, d2, d3] => { results := [.lit (.bool false)], args := [d1, d2, d3] }
  | _ => none }
def SunUpWrongFalsely : Prop := sunUpRow.holds Try.pinned (OpenSpec.ofChange sunUpWrong)

/-- 'greenbeltlaw12.SunMoves': WHATEVER THE INPUT: true; the input reads as it did. -/
def sunMovesSpec : ChangeSpec := { name := "sunMoves", fn := fun _ => fun
  | [d1, d2, d3, d4, d5] => { results := [.lit (.bool true)], args := [d1, d2, d3, d4, d5] }
  | _ => none }
def sunMovesRow : OpenClaim := { program := "ytdnoadngfkiabaa", sum := "778c859e4d3ea1d1fdac6ba9de79f23220457d0f7c300d9eb8fcf16b3c4c8853", func := "greenbelt/greenbeltlaw12.SunMoves", spec := "sunMoves", unfollowed := true, recurses := true, apart := false }
def SunMovesSaid : Prop := sunMovesRow.holds Try.pinned (OpenSpec.ofChange sunMovesSpec)

/-- ITS FALSE NEIGHBOUR: 'it returns false'. Refute it at one input. -/
def sunMovesWrong : ChangeSpec := { name := "sunMoves", fn := fun _ => fun
  | [d1, d2, d3, d4, d5] => { results := [.lit (.bool false)], args := [d1, d2, d3, d4, d5] }
  | _ => none }
def SunMovesWrongFalsely : Prop := sunMovesRow.holds Try.pinned (OpenSpec.ofChange sunMovesWrong)

/- THE SECOND FORM. 'bulk': how many values and letters a reading holds, each counted each time it is reached (what is shared counts as often as it is met; a slice's spare places count too). A statement '..UptoSaid' is the law's where the arguments, and the package variables that the reading takes, are together of bulk at most 1048576: NARROWER than '..Said'. Prove '..Said' where nothing that the law and all that it calls make is longer than what came in: it says more and counts as full. Else prove '..UptoSaid'. A law counts once. -/
mutual
def uptoBulk {H : Type} : DataW H → Nat
  | .lit (.string bytes) => bytes.length + 1
  | .lit _ => 1
  | .nil => 1
  | .ptr d => uptoBulk d + 1
  | .slice elems spare => uptoBulkAll elems + uptoBulkAll spare + 1
  | .agg parts => uptoBulkAll parts + 1
  | .iface _ d => uptoBulk d + 1
  | .map entries => uptoBulkEntries entries + 1
  | .held _ => 1
def uptoBulkAll {H : Type} : List (DataW H) → Nat
  | [] => 0
  | d :: r => uptoBulk d + uptoBulkAll r
def uptoBulkEntries {H : Type} : List (Lit × DataW H) → Nat
  | [] => 0
  | x :: r => uptoBulkEntry x + uptoBulkEntries r
def uptoBulkEntry {H : Type} : Lit × DataW H → Nat
  | (.string bytes, d) => bytes.length + uptoBulk d + 1
  | (_, d) => uptoBulk d + 1
 end
def uptoSmall : (H : Type) → List (DataW H) → Bool := fun _ ds => decide (uptoBulkAll ds ≤ 1048576)
def OpenSpec.upto (s : _root_.Go.ChangeSpec) : _root_.Go.OpenSpec := { _root_.Go.OpenSpec.ofChange s with cond := some uptoSmall }

/-- 'greenbeltlaw12.SunTells', WHERE WHAT IT READS IS OF BULK AT MOST 1048576: true; the input reads as it did. -/
def sunTellsUptoRow : OpenClaim := { program := "ytdnoadngfkiabaa", sum := "778c859e4d3ea1d1fdac6ba9de79f23220457d0f7c300d9eb8fcf16b3c4c8853", func := "greenbelt/greenbeltlaw12.SunTells", spec := "sunTells", unfollowed := true, recurses := true, apart := false, narrowed := true }
def SunTellsUptoSaid : Prop := sunTellsUptoRow.holds Try.pinned (OpenSpec.upto sunTellsSpec)

/-- 'greenbeltlaw12.SunLess', WHERE WHAT IT READS IS OF BULK AT MOST 1048576: true; the input reads as it did. -/
def sunLessUptoRow : OpenClaim := { program := "ytdnoadngfkiabaa", sum := "778c859e4d3ea1d1fdac6ba9de79f23220457d0f7c300d9eb8fcf16b3c4c8853", func := "greenbelt/greenbeltlaw12.SunLess", spec := "sunLess", unfollowed := true, recurses := true, apart := false, narrowed := true }
def SunLessUptoSaid : Prop := sunLessUptoRow.holds Try.pinned (OpenSpec.upto sunLessSpec)

/-- 'greenbeltlaw12.SunUp', WHERE WHAT IT READS IS OF BULK AT MOST 1048576: true; the input reads as it did. -/
def sunUpUptoRow : OpenClaim := { program := "ytdnoadngfkiabaa", sum := "778c859e4d3ea1d1fdac6ba9de79f23220457d0f7c300d9eb8fcf16b3c4c8853", func := "greenbelt/greenbeltlaw12.SunUp", spec := "sunUp", unfollowed := true, recurses := true, apart := false, narrowed := true }
def SunUpUptoSaid : Prop := sunUpUptoRow.holds Try.pinned (OpenSpec.upto sunUpSpec)

/-- 'greenbeltlaw12.SunMoves', WHERE WHAT IT READS IS OF BULK AT MOST 1048576: true; the input reads as it did. -/
def sunMovesUptoRow : OpenClaim := { program := "ytdnoadngfkiabaa", sum := "778c859e4d3ea1d1fdac6ba9de79f23220457d0f7c300d9eb8fcf16b3c4c8853", func := "greenbelt/greenbeltlaw12.SunMoves", spec := "sunMoves", unfollowed := true, recurses := true, apart := false, narrowed := true }
def SunMovesUptoSaid : Prop := sunMovesUptoRow.holds Try.pinned (OpenSpec.upto sunMovesSpec)

end Rows
end Go.Proofs.Ytdnoadngfkiabaa
