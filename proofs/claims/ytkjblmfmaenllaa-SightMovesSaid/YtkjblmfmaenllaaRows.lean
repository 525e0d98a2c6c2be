/-
  No cell of these rows narrows 'for every input' (looked for: loops, veiled, ifaces, maps, wideKeys, modest, calm, conditions, laid).
  DERIVED. THE GIVEN ROWS OF THIS SEAT. 6 by the template 'for every input the law returns true; each argument reads behind the call as it read before'; 0 by the template 'total and deterministic' (their statements: YtkjblmfmaenllaaTotals.lean).
  GIVEN WITH THE SEED: the statements are not yours to turn. If you find one false, say at which input.
  Laid BY PROGRAM, IN A SANDBOX (cutbox-rows.mjs): the forced cells as the released guide's own fill.sh prints them over the translation 360d1b105ced273e… (all of the seat's roots in one cut). By AI agents, Wed Nov 11 2026. No macro, syntax, notation, axiom, sorry.
-/
import Derived.Test.YtkjblmfmaenllaaChecked
import GoSem.Claim
import GoSem.ClaimJoined
import GoSem.ClaimMapViews
import Derived.JoinedTies
import Derived.KernelRfl
namespace Go.Proofs.Ytkjblmfmaenllaa
/- THE CELL 'sum', in the pinned program and in every row, IS THE sha256 OF THE DUMP (.gsa) THAT YtkjblmfmaenllaaProg.lean LOADS. Nothing in Lean hashes anything: it is a label: what it is worth is what the hold of that sum in a sandbox is worth. -/
noncomputable def Try.pinned : Pinned := { name := "ytkjblmfmaenllaa", sum := "360d1b105ced273ef7684f46da3cb0b3cc2e458d9501ae85dddf882f59b9c58c", checked := Try.checked }
namespace Rows
def none {H : Type} : Left H := { results := [], args := [] }

/-- 'greenbeltlaw11.SightTells': WHATEVER THE INPUT: true; the input reads as it did. -/
def sightTellsSpec : ChangeSpec := { name := "sightTells", fn := fun _ => fun
  | [d1, d2, d3, d4] => { results := [.lit (.bool true)], args := [d1, d2, d3, d4] }
  | _ => none }
def sightTellsRow : OpenClaim := { program := "ytkjblmfmaenllaa", sum := "360d1b105ced273ef7684f46da3cb0b3cc2e458d9501ae85dddf882f59b9c58c", func := "greenbelt/greenbeltlaw11.SightTells", spec := "sightTells", unfollowed := true, recurses := true, apart := false }
def SightTellsSaid : Prop := sightTellsRow.holds Try.pinned (OpenSpec.ofChange sightTellsSpec)

/-- ITS FALSE NEIGHBOUR: 'it returns false'. Refute it at one input. -/
def sightTellsWrong : ChangeSpec := { name := "sightTells", fn := fun _ => fun
  | [d1, d2, d3, d4] => { results := [.lit (.bool false)], args := [d1, d2, d3, d4] }
  | _ => none }
def SightTellsWrongFalsely : Prop := sightTellsRow.holds Try.pinned (OpenSpec.ofChange sightTellsWrong)

/-- 'greenbeltlaw11.SightSamples': WHATEVER THE INPUT: true; the input reads as it did. -/
def sightSamplesSpec : ChangeSpec := { name := "sightSamples", fn := fun _ => fun
  | [d1, d2, d3] => { results := [.lit (.bool true)], args := [d1, d2, d3] }
  | _ => none }
def sightSamplesRow : OpenClaim := { program := "ytkjblmfmaenllaa", sum := "360d1b105ced273ef7684f46da3cb0b3cc2e458d9501ae85dddf882f59b9c58c", func := "greenbelt/greenbeltlaw11.SightSamples", spec := "sightSamples", unfollowed := true, recurses := true, apart := false }
def SightSamplesSaid : Prop := sightSamplesRow.holds Try.pinned (OpenSpec.ofChange sightSamplesSpec)

/-- ITS FALSE NEIGHBOUR: 'it returns false'. Refute it at one input. -/
def sightSamplesWrong : ChangeSpec := { name := "sightSamples", fn := fun _ => fun
  | [d1, d2, d3] => { results := [.lit (.bool false)], args := [d1, d2, d3] }
  | _ => none }
def SightSamplesWrongFalsely : Prop := sightSamplesRow.holds Try.pinned (OpenSpec.ofChange sightSamplesWrong)

/-- 'greenbeltlaw11.SightUnion': WHATEVER THE INPUT: true; the input reads as it did. -/
def sightUnionSpec : ChangeSpec := { name := "sightUnion", fn := fun _ => fun
  | [d1, d2, d3, d4, d5] => { results := [.lit (.bool true)], args := [d1, d2, d3, d4, d5] }
  | _ => none }
def sightUnionRow : OpenClaim := { program := "ytkjblmfmaenllaa", sum := "360d1b105ced273ef7684f46da3cb0b3cc2e458d9501ae85dddf882f59b9c58c", func := "greenbelt/greenbeltlaw11.SightUnion", spec := "sightUnion", unfollowed := true, recurses := true, apart := false }
def SightUnionSaid : Prop := sightUnionRow.holds Try.pinned (OpenSpec.ofChange sightUnionSpec)

/-- ITS FALSE NEIGHBOUR: 'it returns false'. Refute it at one input. -/
def sightUnionWrong : ChangeSpec := { name := "sightUnion", fn := fun _ => fun
  | [d1, d2, d3, d4, d5] => { results := [.lit (.bool false)], args := [d1, d2, d3, d4, d5] }
  | _ => none }
def SightUnionWrongFalsely : Prop := sightUnionRow.holds Try.pinned (OpenSpec.ofChange sightUnionWrong)

/-- 'greenbeltlaw11.SightSplits': WHATEVER THE INPUT: true; the input reads as it did. -/
def sightSplitsSpec : ChangeSpec := { name := "sightSplits", fn := fun _ => fun
  | [d1, d2, d3, d4, d5] => { results := [.lit (.bool true)], args := [d1, d2, d3, d4, d5] }
  | _ => none }
def sightSplitsRow : OpenClaim := { program := "ytkjblmfmaenllaa", sum := "360d1b105ced273ef7684f46da3cb0b3cc2e458d9501ae85dddf882f59b9c58c", func := "greenbelt/greenbeltlaw11.SightSplits", spec := "sightSplits", unfollowed := true, recurses := true, apart := false }
def SightSplitsSaid : Prop := sightSplitsRow.holds Try.pinned (OpenSpec.ofChange sightSplitsSpec)

/-- ITS FALSE NEIGHBOUR: 'it returns false'. Refute it at one input. -/
def sightSplitsWrong : ChangeSpec := { name := "sightSplits", fn := fun _ => fun
  | [d1, d2, d3, d4, d5] => { results := [.lit (.bool false)], args := [d1, d2, d3, d4, d5] }
  | _ => none }
def SightSplitsWrongFalsely : Prop := sightSplitsRow.holds Try.pinned (OpenSpec.ofChange sightSplitsWrong)

/-- 'greenbeltlaw11.SightRays': WHATEVER THE INPUT: true; the input reads as it did. -/
def sightRaysSpec : ChangeSpec := { name := "sightRays", fn := fun _ => fun
  | [d1, d2, d3, d4] => { results := [.lit (.bool true)], args := [d1, d2, d3, d4] }
  | _ => none }
def sightRaysRow : OpenClaim := { program := "ytkjblmfmaenllaa", sum := "360d1b105ced273ef7684f46da3cb0b3cc2e458d9501ae85dddf882f59b9c58c", func := "greenbelt/greenbeltlaw11.SightRays", spec := "sightRays", unfollowed := true, recurses := true, apart := false }
def SightRaysSaid : Prop := sightRaysRow.holds Try.pinned (OpenSpec.ofChange sightRaysSpec)

/-- ITS FALSE NEIGHBOUR: 'it returns false'. Refute it at one input. -/
def sightRaysWrong : ChangeSpec := { name := "sightRays", fn := fun _ => fun
  | [d1, d2, d3, d4] => { results := [.lit (.bool false)], args := [d1, d2, d3, d4] }
  | _ => none }
def SightRaysWrongFalsely : Prop := sightRaysRow.holds Try.pinned (OpenSpec.ofChange sightRaysWrong)

/-- 'greenbeltlaw11.SightMoves': WHATEVER THE INPUT: true; the input reads as it did. -/
def sightMovesSpec : ChangeSpec := { name := "sightMoves", fn := fun _ => fun
  | [d1, d2, d3, d4, d5] => { results := [.lit (.bool true)], args := [d1, d2, d3, d4, d5] }
  | _ => none }
def sightMovesRow : OpenClaim := { program := "ytkjblmfmaenllaa", sum := "360d1b105ced273ef7684f46da3cb0b3cc2e458d9501ae85dddf882f59b9c58c", func := "greenbelt/greenbeltlaw11.SightMoves", spec := "sightMoves", unfollowed := true, recurses := true, apart := false }
def SightMovesSaid : Prop := sightMovesRow.holds Try.pinned (OpenSpec.ofChange sightMovesSpec)

/-- ITS FALSE NEIGHBOUR: 'it returns false'. Refute it at one input. -/
def sightMovesWrong : ChangeSpec := { name := "sightMoves", fn := fun _ => fun
  | [d1, d2, d3, d4, d5] => { results := [.lit (.bool false)], args := [d1, d2, d3, d4, d5] }
  | _ => none }
def SightMovesWrongFalsely : Prop := sightMovesRow.holds Try.pinned (OpenSpec.ofChange sightMovesWrong)

/- THE SECOND FORM. 'bulk': how many values and letters a reading holds, each counted each time it is reached (what is shared counts as often as it is met; a slice's spare places count too). A statement '..UptoSaid' is the law's where the arguments, and the package variables that the reading takes, are together of bulk at most 1048576: NARROWER than '..Said'. Prove '..Said' where nothing that the law and all that it calls make is longer than what came in: it says more and counts as full. Else prove '..UptoSaid'. A law counts once. -/
mutual
def uptoBulk {H : Type} : DataW H → Nat
  | .lit (.string bytes) => bytes.length + 1
  | .lit _ => 1
  | .nil => 1
  | .ptr d => uptoBulk d + 1
  | .slice elems spare => uptoBulkAll elems + uptoBulkAll spare + 1
  | .agg parts => uptoBulkAll parts + 1
  | .iface _ d => uptoBulk d + 1
  | .map entries => uptoBulkEntries entries + 1
  | .held _ => 1
def uptoBulkAll {H : Type} : List (DataW H) → Nat
  | [] => 0
  | d :: r => uptoBulk d + uptoBulkAll r
def uptoBulkEntries {H : Type} : List (Lit × DataW H) → Nat
  | [] => 0
  | x :: r => uptoBulkEntry x + uptoBulkEntries r
def uptoBulkEntry {H : Type} : Lit × DataW H → Nat
  | (.string bytes, d) => bytes.length + uptoBulk d + 1
  | (_, d) => uptoBulk d + 1
 end
def uptoSmall : (H : Type) → List (DataW H) → Bool := fun _ ds => decide (uptoBulkAll ds ≤ 1048576)
def OpenSpec.upto (s : _root_.Go.ChangeSpec) : _root_.Go.OpenSpec := { _root_.Go.OpenSpec.ofChange s with cond := some uptoSmall }

/-- 'greenbeltlaw11.SightTells', WHERE WHAT IT READS IS OF BULK AT MOST 1048576: true; the input reads as it did. -/
def sightTellsUptoRow : OpenClaim := { program := "ytkjblmfmaenllaa", sum := "360d1b105ced273ef7684f46da3cb0b3cc2e458d9501ae85dddf882f59b9c58c", func := "greenbelt/greenbeltlaw11.SightTells", spec := "sightTells", unfollowed := true, recurses := true, apart := false, narrowed := true }
def SightTellsUptoSaid : Prop := sightTellsUptoRow.holds Try.pinned (OpenSpec.upto sightTellsSpec)

/-- 'greenbeltlaw11.SightSamples', WHERE WHAT IT READS IS OF BULK AT MOST 1048576: true; the input reads as it did. -/
def sightSamplesUptoRow : OpenClaim := { program := "ytkjblmfmaenllaa", sum := "360d1b105ced273ef7684f46da3cb0b3cc2e458d9501ae85dddf882f59b9c58c", func := "greenbelt/greenbeltlaw11.SightSamples", spec := "sightSamples", unfollowed := true, recurses := true, apart := false, narrowed := true }
def SightSamplesUptoSaid : Prop := sightSamplesUptoRow.holds Try.pinned (OpenSpec.upto sightSamplesSpec)

/-- 'greenbeltlaw11.SightUnion', WHERE WHAT IT READS IS OF BULK AT MOST 1048576: true; the input reads as it did. -/
def sightUnionUptoRow : OpenClaim := { program := "ytkjblmfmaenllaa", sum := "360d1b105ced273ef7684f46da3cb0b3cc2e458d9501ae85dddf882f59b9c58c", func := "greenbelt/greenbeltlaw11.SightUnion", spec := "sightUnion", unfollowed := true, recurses := true, apart := false, narrowed := true }
def SightUnionUptoSaid : Prop := sightUnionUptoRow.holds Try.pinned (OpenSpec.upto sightUnionSpec)

/-- 'greenbeltlaw11.SightSplits', WHERE WHAT IT READS IS OF BULK AT MOST 1048576: true; the input reads as it did. -/
def sightSplitsUptoRow : OpenClaim := { program := "ytkjblmfmaenllaa", sum := "360d1b105ced273ef7684f46da3cb0b3cc2e458d9501ae85dddf882f59b9c58c", func := "greenbelt/greenbeltlaw11.SightSplits", spec := "sightSplits", unfollowed := true, recurses := true, apart := false, narrowed := true }
def SightSplitsUptoSaid : Prop := sightSplitsUptoRow.holds Try.pinned (OpenSpec.upto sightSplitsSpec)

/-- 'greenbeltlaw11.SightRays', WHERE WHAT IT READS IS OF BULK AT MOST 1048576: true; the input reads as it did. -/
def sightRaysUptoRow : OpenClaim := { program := "ytkjblmfmaenllaa", sum := "360d1b105ced273ef7684f46da3cb0b3cc2e458d9501ae85dddf882f59b9c58c", func := "greenbelt/greenbeltlaw11.SightRays", spec := "sightRays", unfollowed := true, recurses := true, apart := false, narrowed := true }
def SightRaysUptoSaid : Prop := sightRaysUptoRow.holds Try.pinned (OpenSpec.upto sightRaysSpec)

/-- 'greenbeltlaw11.SightMoves', WHERE WHAT IT READS IS OF BULK AT MOST 1048576: true; the input reads as it did. -/
def sightMovesUptoRow : OpenClaim := { program := "ytkjblmfmaenllaa", sum := "360d1b105ced273ef7684f46da3cb0b3cc2e458d9501ae85dddf882f59b9c58c", func := "greenbelt/greenbeltlaw11.SightMoves", spec := "sightMoves", unfollowed := true, recurses := true, apart := false, narrowed := true }
def SightMovesUptoSaid : Prop := sightMovesUptoRow.holds Try.pinned (OpenSpec.upto sightMovesSpec)

end Rows
end Go.Proofs.Ytkjblmfmaenllaa
