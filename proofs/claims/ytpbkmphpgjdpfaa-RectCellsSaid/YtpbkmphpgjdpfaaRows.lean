/-
  No cell of these rows narrows 'for every input' (looked for: loops, veiled, ifaces, maps, wideKeys, modest, calm, conditions, laid).
  DERIVED. THE GIVEN ROWS OF THIS SEAT. 6 by the template 'for every input the law returns true; each argument reads behind the call as it read before'; 0 by the template 'total and deterministic' (their statements: YtpbkmphpgjdpfaaTotals.lean).
  GIVEN WITH THE SEED: the statements are not yours to turn. If you find one false, say at which input.
  Laid BY PROGRAM, IN A SANDBOX (cutbox-rows.mjs): the forced cells as the released guide's own fill.sh prints them over the translation 969dfc1475b8730e… (all of the seat's roots in one cut). By AI agents, Wed Nov 11 2026. No macro, syntax, notation, axiom, sorry.
-/
import Derived.Test.YtpbkmphpgjdpfaaChecked
import GoSem.Claim
import GoSem.ClaimJoined
import GoSem.ClaimMapViews
import Derived.JoinedTies
import Derived.KernelRfl
namespace Go.Proofs.Ytpbkmphpgjdpfaa
/- THE CELL 'sum', in the pinned program and in every row, IS THE sha256 OF THE DUMP (.gsa) THAT YtpbkmphpgjdpfaaProg.lean LOADS. Nothing in Lean hashes anything: it is a label: what it is worth is what the hold of that sum in a sandbox is worth. -/
noncomputable def Try.pinned : Pinned := { name := "ytpbkmphpgjdpfaa", sum := "969dfc1475b8730e50f38ca8ae4ed5111b452879a4dcda424cdafd6e1cfc154d", checked := Try.checked }
namespace Rows
def none {H : Type} : Left H := { results := [], args := [] }

/-- 'greenbeltlaw05.RectTells': WHATEVER THE INPUT: true; the input reads as it did. -/
def rectTellsSpec : ChangeSpec := { name := "rectTells", fn := fun _ => fun
  | [d1, d2, d3, d4, d5] => { results := [.lit (.bool true)], args := [d1, d2, d3, d4, d5] }
  | _ => none }
def rectTellsRow : OpenClaim := { program := "ytpbkmphpgjdpfaa", sum := "969dfc1475b8730e50f38ca8ae4ed5111b452879a4dcda424cdafd6e1cfc154d", func := "greenbelt/greenbeltlaw05.RectTells", spec := "rectTells", apart := false }
def RectTellsSaid : Prop := rectTellsRow.holds Try.pinned (OpenSpec.ofChange rectTellsSpec)

/-- ITS FALSE NEIGHBOUR: 'it returns false'. Refute it at one input. -/
def rectTellsWrong : ChangeSpec := { name := "rectTells", fn := fun _ => fun
  | [d1, d2, d3, d4, d5] => { results := [.lit (.bool false)], args := [d1, d2, d3, d4, d5] }
  | _ => none }
def RectTellsWrongFalsely : Prop := rectTellsRow.holds Try.pinned (OpenSpec.ofChange rectTellsWrong)

/-- 'greenbeltlaw05.RectBounds': WHATEVER THE INPUT: true; the input reads as it did. -/
def rectBoundsSpec : ChangeSpec := { name := "rectBounds", fn := fun _ => fun
  | [d] => { results := [.lit (.bool true)], args := [d] }
  | _ => none }
def rectBoundsRow : OpenClaim := { program := "ytpbkmphpgjdpfaa", sum := "969dfc1475b8730e50f38ca8ae4ed5111b452879a4dcda424cdafd6e1cfc154d", func := "greenbelt/greenbeltlaw05.RectBounds", spec := "rectBounds", apart := false }
def RectBoundsSaid : Prop := rectBoundsRow.holds Try.pinned (OpenSpec.ofChange rectBoundsSpec)

/-- ITS FALSE NEIGHBOUR: 'it returns false'. Refute it at one input. -/
def rectBoundsWrong : ChangeSpec := { name := "rectBounds", fn := fun _ => fun
  | [d] => { results := [.lit (.bool false)], args := [d] }
  | _ => none }
def RectBoundsWrongFalsely : Prop := rectBoundsRow.holds Try.pinned (OpenSpec.ofChange rectBoundsWrong)

/-- 'greenbeltlaw05.RectGap': WHATEVER THE INPUT: true; the input reads as it did. -/
def rectGapSpec : ChangeSpec := { name := "rectGap", fn := fun _ => fun
  | [d1, d2, d3] => { results := [.lit (.bool true)], args := [d1, d2, d3] }
  | _ => none }
def rectGapRow : OpenClaim := { program := "ytpbkmphpgjdpfaa", sum := "969dfc1475b8730e50f38ca8ae4ed5111b452879a4dcda424cdafd6e1cfc154d", func := "greenbelt/greenbeltlaw05.RectGap", spec := "rectGap", apart := false }
def RectGapSaid : Prop := rectGapRow.holds Try.pinned (OpenSpec.ofChange rectGapSpec)

/-- ITS FALSE NEIGHBOUR: 'it returns false'. Refute it at one input. -/
def rectGapWrong : ChangeSpec := { name := "rectGap", fn := fun _ => fun
  | [d1, d2, d3] => { results := [.lit (.bool false)], args := [d1, d2, d3] }
  | _ => none }
def RectGapWrongFalsely : Prop := rectGapRow.holds Try.pinned (OpenSpec.ofChange rectGapWrong)

/-- 'greenbeltlaw05.RectGrows': WHATEVER THE INPUT: true; the input reads as it did. -/
def rectGrowsSpec : ChangeSpec := { name := "rectGrows", fn := fun _ => fun
  | [d1, d2, d3] => { results := [.lit (.bool true)], args := [d1, d2, d3] }
  | _ => none }
def rectGrowsRow : OpenClaim := { program := "ytpbkmphpgjdpfaa", sum := "969dfc1475b8730e50f38ca8ae4ed5111b452879a4dcda424cdafd6e1cfc154d", func := "greenbelt/greenbeltlaw05.RectGrows", spec := "rectGrows", apart := false }
def RectGrowsSaid : Prop := rectGrowsRow.holds Try.pinned (OpenSpec.ofChange rectGrowsSpec)

/-- ITS FALSE NEIGHBOUR: 'it returns false'. Refute it at one input. -/
def rectGrowsWrong : ChangeSpec := { name := "rectGrows", fn := fun _ => fun
  | [d1, d2, d3] => { results := [.lit (.bool false)], args := [d1, d2, d3] }
  | _ => none }
def RectGrowsWrongFalsely : Prop := rectGrowsRow.holds Try.pinned (OpenSpec.ofChange rectGrowsWrong)

/-- 'greenbeltlaw05.RectCells': WHATEVER THE INPUT: true; the input reads as it did. -/
def rectCellsSpec : ChangeSpec := { name := "rectCells", fn := fun _ => fun
  | [d1, d2] => { results := [.lit (.bool true)], args := [d1, d2] }
  | _ => none }
def rectCellsRow : OpenClaim := { program := "ytpbkmphpgjdpfaa", sum := "969dfc1475b8730e50f38ca8ae4ed5111b452879a4dcda424cdafd6e1cfc154d", func := "greenbelt/greenbeltlaw05.RectCells", spec := "rectCells", apart := false }
def RectCellsSaid : Prop := rectCellsRow.holds Try.pinned (OpenSpec.ofChange rectCellsSpec)

/-- ITS FALSE NEIGHBOUR: 'it returns false'. Refute it at one input. -/
def rectCellsWrong : ChangeSpec := { name := "rectCells", fn := fun _ => fun
  | [d1, d2] => { results := [.lit (.bool false)], args := [d1, d2] }
  | _ => none }
def RectCellsWrongFalsely : Prop := rectCellsRow.holds Try.pinned (OpenSpec.ofChange rectCellsWrong)

/-- 'greenbeltlaw05.RectMeets': WHATEVER THE INPUT: true; the input reads as it did. -/
def rectMeetsSpec : ChangeSpec := { name := "rectMeets", fn := fun _ => fun
  | [d1, d2, d3] => { results := [.lit (.bool true)], args := [d1, d2, d3] }
  | _ => none }
def rectMeetsRow : OpenClaim := { program := "ytpbkmphpgjdpfaa", sum := "969dfc1475b8730e50f38ca8ae4ed5111b452879a4dcda424cdafd6e1cfc154d", func := "greenbelt/greenbeltlaw05.RectMeets", spec := "rectMeets", apart := false }
def RectMeetsSaid : Prop := rectMeetsRow.holds Try.pinned (OpenSpec.ofChange rectMeetsSpec)

/-- ITS FALSE NEIGHBOUR: 'it returns false'. Refute it at one input. -/
def rectMeetsWrong : ChangeSpec := { name := "rectMeets", fn := fun _ => fun
  | [d1, d2, d3] => { results := [.lit (.bool false)], args := [d1, d2, d3] }
  | _ => none }
def RectMeetsWrongFalsely : Prop := rectMeetsRow.holds Try.pinned (OpenSpec.ofChange rectMeetsWrong)

/- THE SECOND FORM. 'bulk': how many values and letters a reading holds, each counted each time it is reached (what is shared counts as often as it is met; a slice's spare places count too). A statement '..UptoSaid' is the law's where the arguments, and the package variables that the reading takes, are together of bulk at most 1048576: NARROWER than '..Said'. Prove '..Said' where nothing that the law and all that it calls make is longer than what came in: it says more and counts as full. Else prove '..UptoSaid'. A law counts once. -/
mutual
def uptoBulk {H : Type} : DataW H → Nat
  | .lit (.string bytes) => bytes.length + 1
  | .lit _ => 1
  | .nil => 1
  | .ptr d => uptoBulk d + 1
  | .slice elems spare => uptoBulkAll elems + uptoBulkAll spare + 1
  | .agg parts => uptoBulkAll parts + 1
  | .iface _ d => uptoBulk d + 1
  | .map entries => uptoBulkEntries entries + 1
  | .held _ => 1
def uptoBulkAll {H : Type} : List (DataW H) → Nat
  | [] => 0
  | d :: r => uptoBulk d + uptoBulkAll r
def uptoBulkEntries {H : Type} : List (Lit × DataW H) → Nat
  | [] => 0
  | x :: r => uptoBulkEntry x + uptoBulkEntries r
def uptoBulkEntry {H : Type} : Lit × DataW H → Nat
  | (.string bytes, d) => bytes.length + uptoBulk d + 1
  | (_, d) => uptoBulk d + 1
 end
def uptoSmall : (H : Type) → List (DataW H) → Bool := fun _ ds => decide (uptoBulkAll ds ≤ 1048576)
def OpenSpec.upto (s : _root_.Go.ChangeSpec) : _root_.Go.OpenSpec := { _root_.Go.OpenSpec.ofChange s with cond := some uptoSmall }

/-- 'greenbeltlaw05.RectTells', WHERE WHAT IT READS IS OF BULK AT MOST 1048576: true; the input reads as it did. -/
def rectTellsUptoRow : OpenClaim := { program := "ytpbkmphpgjdpfaa", sum := "969dfc1475b8730e50f38ca8ae4ed5111b452879a4dcda424cdafd6e1cfc154d", func := "greenbelt/greenbeltlaw05.RectTells", spec := "rectTells", apart := false, narrowed := true }
def RectTellsUptoSaid : Prop := rectTellsUptoRow.holds Try.pinned (OpenSpec.upto rectTellsSpec)

/-- 'greenbeltlaw05.RectBounds', WHERE WHAT IT READS IS OF BULK AT MOST 1048576: true; the input reads as it did. -/
def rectBoundsUptoRow : OpenClaim := { program := "ytpbkmphpgjdpfaa", sum := "969dfc1475b8730e50f38ca8ae4ed5111b452879a4dcda424cdafd6e1cfc154d", func := "greenbelt/greenbeltlaw05.RectBounds", spec := "rectBounds", apart := false, narrowed := true }
def RectBoundsUptoSaid : Prop := rectBoundsUptoRow.holds Try.pinned (OpenSpec.upto rectBoundsSpec)

/-- 'greenbeltlaw05.RectGap', WHERE WHAT IT READS IS OF BULK AT MOST 1048576: true; the input reads as it did. -/
def rectGapUptoRow : OpenClaim := { program := "ytpbkmphpgjdpfaa", sum := "969dfc1475b8730e50f38ca8ae4ed5111b452879a4dcda424cdafd6e1cfc154d", func := "greenbelt/greenbeltlaw05.RectGap", spec := "rectGap", apart := false, narrowed := true }
def RectGapUptoSaid : Prop := rectGapUptoRow.holds Try.pinned (OpenSpec.upto rectGapSpec)

/-- 'greenbeltlaw05.RectGrows', WHERE WHAT IT READS IS OF BULK AT MOST 1048576: true; the input reads as it did. -/
def rectGrowsUptoRow : OpenClaim := { program := "ytpbkmphpgjdpfaa", sum := "969dfc1475b8730e50f38ca8ae4ed5111b452879a4dcda424cdafd6e1cfc154d", func := "greenbelt/greenbeltlaw05.RectGrows", spec := "rectGrows", apart := false, narrowed := true }
def RectGrowsUptoSaid : Prop := rectGrowsUptoRow.holds Try.pinned (OpenSpec.upto rectGrowsSpec)

/-- 'greenbeltlaw05.RectCells', WHERE WHAT IT READS IS OF BULK AT MOST 1048576: true; the input reads as it did. -/
def rectCellsUptoRow : OpenClaim := { program := "ytpbkmphpgjdpfaa", sum := "969dfc1475b8730e50f38ca8ae4ed5111b452879a4dcda424cdafd6e1cfc154d", func := "greenbelt/greenbeltlaw05.RectCells", spec := "rectCells", apart := false, narrowed := true }
def RectCellsUptoSaid : Prop := rectCellsUptoRow.holds Try.pinned (OpenSpec.upto rectCellsSpec)

/-- 'greenbeltlaw05.RectMeets', WHERE WHAT IT READS IS OF BULK AT MOST 1048576: true; the input reads as it did. -/
def rectMeetsUptoRow : OpenClaim := { program := "ytpbkmphpgjdpfaa", sum := "969dfc1475b8730e50f38ca8ae4ed5111b452879a4dcda424cdafd6e1cfc154d", func := "greenbelt/greenbeltlaw05.RectMeets", spec := "rectMeets", apart := false, narrowed := true }
def RectMeetsUptoSaid : Prop := rectMeetsUptoRow.holds Try.pinned (OpenSpec.upto rectMeetsSpec)

end Rows
end Go.Proofs.Ytpbkmphpgjdpfaa
