/-
  No cell of these rows narrows 'for every input' (looked for: loops, veiled, ifaces, maps, wideKeys, modest, calm, conditions, laid).
  DERIVED. THE GIVEN ROWS OF THIS SEAT. 5 by the template 'for every input the law returns true; each argument reads behind the call as it read before'; 0 by the template 'total and deterministic' (their statements: YteecfgdicckplaaTotals.lean).
  GIVEN WITH THE SEED: the statements are not yours to turn. If you find one false, say at which input.
  Laid BY PROGRAM, IN A SANDBOX (cutbox-rows.mjs): the forced cells as the released guide's own fill.sh prints them over the translation 13437d4aacc92bd6… (all of the seat's roots in one cut). By AI agents, Wed Nov 11 2026. No macro, syntax, notation, axiom, sorry.
-/
import Derived.Test.YteecfgdicckplaaChecked
import GoSem.Claim
import GoSem.ClaimJoined
import GoSem.ClaimMapViews
import Derived.JoinedTies
import Derived.KernelRfl
namespace Go.Proofs.Yteecfgdicckplaa
/- THE CELL 'sum', in the pinned program and in every row, IS THE sha256 OF THE DUMP (.gsa) THAT YteecfgdicckplaaProg.lean LOADS. Nothing in Lean hashes anything: it is a label: what it is worth is what the hold of that sum in a sandbox is worth. -/
noncomputable def Try.pinned : Pinned := { name := "yteecfgdicckplaa", sum := "13437d4aacc92bd665e061a4e9a41c62fc13472a3c17c86077b576e95a30dd27", checked := Try.checked }
namespace Rows
def none {H : Type} : Left H := { results := [], args := [] }

/-- 'greenbeltlaw09.SolidCubes': WHATEVER THE INPUT: true; the input reads as it did. -/
def solidCubesSpec : ChangeSpec := { name := "solidCubes", fn := fun _ => fun
  | [d1, d2] => { results := [.lit (.bool true)], args := [d1, d2] }
  | _ => none }
def solidCubesRow : OpenClaim := { program := "yteecfgdicckplaa", sum := "13437d4aacc92bd665e061a4e9a41c62fc13472a3c17c86077b576e95a30dd27", func := "greenbelt/greenbeltlaw09.SolidCubes", spec := "solidCubes", unfollowed := true, recurses := true, apart := false }
def SolidCubesSaid : Prop := solidCubesRow.holds Try.pinned (OpenSpec.ofChange solidCubesSpec)

/-- ITS FALSE NEIGHBOUR: 'it returns false'. Refute it at one input. -/
def solidCubesWrong : ChangeSpec := { name := "solidCubes", fn := fun _ => fun
  | [d1, d2] => { results := [.lit (.bool false)], args := [d1, d2] }
  | _ => none }
def SolidCubesWrongFalsely : Prop := solidCubesRow.holds Try.pinned (OpenSpec.ofChange solidCubesWrong)

/-- 'greenbeltlaw09.SolidAlgebra': WHATEVER THE INPUT: true; the input reads as it did. -/
def solidAlgebraSpec : ChangeSpec := { name := "solidAlgebra", fn := fun _ => fun
  | [d1, d2, d3] => { results := [.lit (.bool true)], args := [d1, d2, d3] }
  | _ => none }
def solidAlgebraRow : OpenClaim := { program := "yteecfgdicckplaa", sum := "13437d4aacc92bd665e061a4e9a41c62fc13472a3c17c86077b576e95a30dd27", func := "greenbelt/greenbeltlaw09.SolidAlgebra", spec := "solidAlgebra", unfollowed := true, recurses := true, apart := false }
def SolidAlgebraSaid : Prop := solidAlgebraRow.holds Try.pinned (OpenSpec.ofChange solidAlgebraSpec)

/-- ITS FALSE NEIGHBOUR: 'it returns false'. Refute it at one input. -/
def solidAlgebraWrong : ChangeSpec := { name := "solidAlgebra", fn := fun _ => fun
  | [d1, d2, d3] => { results := [.lit (.bool false)], args := [d1, d2, d3] }
  | _ => none }
def SolidAlgebraWrongFalsely : Prop := solidAlgebraRow.holds Try.pinned (OpenSpec.ofChange solidAlgebraWrong)

/-- 'greenbeltlaw09.SolidSections': WHATEVER THE INPUT: true; the input reads as it did. -/
def solidSectionsSpec : ChangeSpec := { name := "solidSections", fn := fun _ => fun
  | [d1, d2, d3, d4] => { results := [.lit (.bool true)], args := [d1, d2, d3, d4] }
  | _ => none }
def solidSectionsRow : OpenClaim := { program := "yteecfgdicckplaa", sum := "13437d4aacc92bd665e061a4e9a41c62fc13472a3c17c86077b576e95a30dd27", func := "greenbelt/greenbeltlaw09.SolidSections", spec := "solidSections", unfollowed := true, recurses := true, apart := false }
def SolidSectionsSaid : Prop := solidSectionsRow.holds Try.pinned (OpenSpec.ofChange solidSectionsSpec)

/-- ITS FALSE NEIGHBOUR: 'it returns false'. Refute it at one input. -/
def solidSectionsWrong : ChangeSpec := { name := "solidSections", fn := fun _ => fun
  | [d1, d2, d3, d4] => { results := [.lit (.bool false)], args := [d1, d2, d3, d4] }
  | _ => none }
def SolidSectionsWrongFalsely : Prop := solidSectionsRow.holds Try.pinned (OpenSpec.ofChange solidSectionsWrong)

/-- 'greenbeltlaw09.SolidBoxes': WHATEVER THE INPUT: true; the input reads as it did. -/
def solidBoxesSpec : ChangeSpec := { name := "solidBoxes", fn := fun _ => fun
  | [d] => { results := [.lit (.bool true)], args := [d] }
  | _ => none }
def solidBoxesRow : OpenClaim := { program := "yteecfgdicckplaa", sum := "13437d4aacc92bd665e061a4e9a41c62fc13472a3c17c86077b576e95a30dd27", func := "greenbelt/greenbeltlaw09.SolidBoxes", spec := "solidBoxes", unfollowed := true, recurses := true, apart := false }
def SolidBoxesSaid : Prop := solidBoxesRow.holds Try.pinned (OpenSpec.ofChange solidBoxesSpec)

/-- ITS FALSE NEIGHBOUR: 'it returns false'. Refute it at one input. -/
def solidBoxesWrong : ChangeSpec := { name := "solidBoxes", fn := fun _ => fun
  | [d] => { results := [.lit (.bool false)], args := [d] }
  | _ => none }
def SolidBoxesWrongFalsely : Prop := solidBoxesRow.holds Try.pinned (OpenSpec.ofChange solidBoxesWrong)

/-- 'greenbeltlaw09.SolidFull': WHATEVER THE INPUT: true; the input reads as it did. -/
def solidFullSpec : ChangeSpec := { name := "solidFull", fn := fun _ => fun
  | [d1, d2] => { results := [.lit (.bool true)], args := [d1, d2] }
  | _ => none }
def solidFullRow : OpenClaim := { program := "yteecfgdicckplaa", sum := "13437d4aacc92bd665e061a4e9a41c62fc13472a3c17c86077b576e95a30dd27", func := "greenbelt/greenbeltlaw09.SolidFull", spec := "solidFull", unfollowed := true, recurses := true, apart := false }
def SolidFullSaid : Prop := solidFullRow.holds Try.pinned (OpenSpec.ofChange solidFullSpec)

/-- ITS FALSE NEIGHBOUR: 'it returns false'. Refute it at one input. -/
def solidFullWrong : ChangeSpec := { name := "solidFull", fn := fun _ => fun
  | [d1, d2] => { results := [.lit (.bool false)], args := [d1, d2] }
  | _ => none }
def SolidFullWrongFalsely : Prop := solidFullRow.holds Try.pinned (OpenSpec.ofChange solidFullWrong)

/- THE SECOND FORM. 'bulk': how many values and letters a reading holds, each counted each time it is reached (what is shared counts as often as it is met; a slice's spare places count too). A statement '..UptoSaid' is the law's where the arguments, and the package variables that the reading takes, are together of bulk at most 1048576: NARROWER than '..Said'. Prove '..Said' where nothing that the law and all that it calls make is longer than what came in: it says more and counts as full. Else prove '..UptoSaid'. A law counts once. -/
mutual
def uptoBulk {H : Type} : DataW H → Nat
  | .lit (.string bytes) => bytes.length + 1
  | .lit _ => 1
  | .nil => 1
  | .ptr d => uptoBulk d + 1
  | .slice elems spare => uptoBulkAll elems + uptoBulkAll spare + 1
  | .agg parts => uptoBulkAll parts + 1
  | .iface _ d => uptoBulk d + 1
  | .map entries => uptoBulkEntries entries + 1
  | .held _ => 1
def uptoBulkAll {H : Type} : List (DataW H) → Nat
  | [] => 0
  | d :: r => uptoBulk d + uptoBulkAll r
def uptoBulkEntries {H : Type} : List (Lit × DataW H) → Nat
  | [] => 0
  | x :: r => uptoBulkEntry x + uptoBulkEntries r
def uptoBulkEntry {H : Type} : Lit × DataW H → Nat
  | (.string bytes, d) => bytes.length + uptoBulk d + 1
  | (_, d) => uptoBulk d + 1
 end
def uptoSmall : (H : Type) → List (DataW H) → Bool := fun _ ds => decide (uptoBulkAll ds ≤ 1048576)
def OpenSpec.upto (s : _root_.Go.ChangeSpec) : _root_.Go.OpenSpec := { _root_.Go.OpenSpec.ofChange s with cond := some uptoSmall }

/-- 'greenbeltlaw09.SolidCubes', WHERE WHAT IT READS IS OF BULK AT MOST 1048576: true; the input reads as it did. -/
def solidCubesUptoRow : OpenClaim := { program := "yteecfgdicckplaa", sum := "13437d4aacc92bd665e061a4e9a41c62fc13472a3c17c86077b576e95a30dd27", func := "greenbelt/greenbeltlaw09.SolidCubes", spec := "solidCubes", unfollowed := true, recurses := true, apart := false, narrowed := true }
def SolidCubesUptoSaid : Prop := solidCubesUptoRow.holds Try.pinned (OpenSpec.upto solidCubesSpec)

/-- 'greenbeltlaw09.SolidAlgebra', WHERE WHAT IT READS IS OF BULK AT MOST 1048576: true; the input reads as it did. -/
def solidAlgebraUptoRow : OpenClaim := { program := "yteecfgdicckplaa", sum := "13437d4aacc92bd665e061a4e9a41c62fc13472a3c17c86077b576e95a30dd27", func := "greenbelt/greenbeltlaw09.SolidAlgebra", spec := "solidAlgebra", unfollowed := true, recurses := true, apart := false, narrowed := true }
def SolidAlgebraUptoSaid : Prop := solidAlgebraUptoRow.holds Try.pinned (OpenSpec.upto solidAlgebraSpec)

/-- 'greenbeltlaw09.SolidSections', WHERE WHAT IT READS IS OF BULK AT MOST 1048576: true; the input reads as it did. -/
def solidSectionsUptoRow : OpenClaim := { program := "yteecfgdicckplaa", sum := "13437d4aacc92bd665e061a4e9a41c62fc13472a3c17c86077b576e95a30dd27", func := "greenbelt/greenbeltlaw09.SolidSections", spec := "solidSections", unfollowed := true, recurses := true, apart := false, narrowed := true }
def SolidSectionsUptoSaid : Prop := solidSectionsUptoRow.holds Try.pinned (OpenSpec.upto solidSectionsSpec)

/-- 'greenbeltlaw09.SolidBoxes', WHERE WHAT IT READS IS OF BULK AT MOST 1048576: true; the input reads as it did. -/
def solidBoxesUptoRow : OpenClaim := { program := "yteecfgdicckplaa", sum := "13437d4aacc92bd665e061a4e9a41c62fc13472a3c17c86077b576e95a30dd27", func := "greenbelt/greenbeltlaw09.SolidBoxes", spec := "solidBoxes", unfollowed := true, recurses := true, apart := false, narrowed := true }
def SolidBoxesUptoSaid : Prop := solidBoxesUptoRow.holds Try.pinned (OpenSpec.upto solidBoxesSpec)

/-- 'greenbeltlaw09.SolidFull', WHERE WHAT IT READS IS OF BULK AT MOST 1048576: true; the input reads as it did. -/
def solidFullUptoRow : OpenClaim := { program := "yteecfgdicckplaa", sum := "13437d4aacc92bd665e061a4e9a41c62fc13472a3c17c86077b576e95a30dd27", func := "greenbelt/greenbeltlaw09.SolidFull", spec := "solidFull", unfollowed := true, recurses := true, apart := false, narrowed := true }
def SolidFullUptoSaid : Prop := solidFullUptoRow.holds Try.pinned (OpenSpec.upto solidFullSpec)

end Rows
end Go.Proofs.Yteecfgdicckplaa
