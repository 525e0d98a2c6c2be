/-
  No cell of these rows narrows 'for every input' (looked for: loops, veiled, ifaces, maps, wideKeys, modest, calm, conditions, laid).
  DERIVED. THE GIVEN ROWS OF THIS SEAT. 2 by the template 'for every input the law returns true; each argument reads behind the call as it read before'; 0 by the template 'total and deterministic' (their statements: YtppomhgknhmceaaTotals.lean).
  GIVEN WITH THE SEED: the statements are not yours to turn. If you find one false, say at which input.
  Laid BY PROGRAM, IN A SANDBOX (cutbox-rows.mjs): the forced cells as the released guide's own fill.sh prints them over the translation b4b0e3e5433d07e5… (all of the seat's roots in one cut). By AI agents, Wed Nov 11 2026. No macro, syntax, notation, axiom, sorry.
-/
import Derived.Test.YtppomhgknhmceaaChecked
import GoSem.Claim
import GoSem.ClaimJoined
import GoSem.ClaimMapViews
import Derived.JoinedTies
import Derived.KernelRfl
namespace Go.Proofs.Ytppomhgknhmceaa
/- THE CELL 'sum', in the pinned program and in every row, IS THE sha256 OF THE DUMP (.gsa) THAT YtppomhgknhmceaaProg.lean LOADS. Nothing in Lean hashes anything: it is a label: what it is worth is what the hold of that sum in a sandbox is worth. -/
noncomputable def Try.pinned : Pinned := { name := "ytppomhgknhmceaa", sum := "b4b0e3e5433d07e5dd0a307eda5af85f089f403a0fd11a7ca25c7b2b1440ed2e", checked := Try.checked }
namespace Rows
def none {H : Type} : Left H := { results := [], args := [] }

/-- 'greenbeltlaw10.PlaneCubes': WHATEVER THE INPUT: true; the input reads as it did. -/
def planeCubesSpec : ChangeSpec := { name := "planeCubes", fn := fun _ => fun
  | [d1, d2, d3, d4, d5] => { results := [.lit (.bool true)], args := [d1, d2, d3, d4, d5] }
  | _ => none }
def planeCubesRow : OpenClaim := { program := "ytppomhgknhmceaa", sum := "b4b0e3e5433d07e5dd0a307eda5af85f089f403a0fd11a7ca25c7b2b1440ed2e", func := "greenbelt/greenbeltlaw10.PlaneCubes", spec := "planeCubes", unfollowed := true, recurses := true, apart := false }
def PlaneCubesSaid : Prop := planeCubesRow.holds Try.pinned (OpenSpec.ofChange planeCubesSpec)

/-- ITS FALSE NEIGHBOUR: 'it returns false'. Refute it at one input. -/
def planeCubesWrong : ChangeSpec := { name := "planeCubes", fn := fun _ => fun
  | [d1, d2, d3, d4, d5] => { results := [.lit (.bool false)], args := [d1, d2, d3, d4, d5] }
  | _ => none }
def PlaneCubesWrongFalsely : Prop := planeCubesRow.holds Try.pinned (OpenSpec.ofChange planeCubesWrong)

/-- 'greenbeltlaw10.PlaneRooms': WHATEVER THE INPUT: true; the input reads as it did. -/
def planeRoomsSpec : ChangeSpec := { name := "planeRooms", fn := fun _ => fun
  | [d1, d2, d3, d4, d5, d6, d7] => { results := [.lit (.bool true)], args := [d1, d2, d3, d4, d5, d6, d7] }
  | _ => none }
def planeRoomsRow : OpenClaim := { program := "ytppomhgknhmceaa", sum := "b4b0e3e5433d07e5dd0a307eda5af85f089f403a0fd11a7ca25c7b2b1440ed2e", func := "greenbelt/greenbeltlaw10.PlaneRooms", spec := "planeRooms", unfollowed := true, recurses := true, apart := false }
def PlaneRoomsSaid : Prop := planeRoomsRow.holds Try.pinned (OpenSpec.ofChange planeRoomsSpec)

/-- ITS FALSE NEIGHBOUR: 'it returns false'. Refute it at one input. -/
def planeRoomsWrong : ChangeSpec := { name := "planeRooms", fn := fun _ => fun
  | [d1, d2, d3, d4, d5, d6, d7] => { results := [.lit (.bool false)], args := [d1, d2, d3, d4, d5, d6, d7] }
  | _ => none }
def PlaneRoomsWrongFalsely : Prop := planeRoomsRow.holds Try.pinned (OpenSpec.ofChange planeRoomsWrong)

/- THE SECOND FORM. 'bulk': how many values and letters a reading holds, each counted each time it is reached (what is shared counts as often as it is met; a slice's spare places count too). A statement '..UptoSaid' is the law's where the arguments, and the package variables that the reading takes, are together of bulk at most 1048576: NARROWER than '..Said'. Prove '..Said' where nothing that the law and all that it calls make is longer than what came in: it says more and counts as full. Else prove '..UptoSaid'. A law counts once. -/
mutual
def uptoBulk {H : Type} : DataW H → Nat
  | .lit (.string bytes) => bytes.length + 1
  | .lit _ => 1
  | .nil => 1
  | .ptr d => uptoBulk d + 1
  | .slice elems spare => uptoBulkAll elems + uptoBulkAll spare + 1
  | .agg parts => uptoBulkAll parts + 1
  | .iface _ d => uptoBulk d + 1
  | .map entries => uptoBulkEntries entries + 1
  | .held _ => 1
def uptoBulkAll {H : Type} : List (DataW H) → Nat
  | [] => 0
  | d :: r => uptoBulk d + uptoBulkAll r
def uptoBulkEntries {H : Type} : List (Lit × DataW H) → Nat
  | [] => 0
  | x :: r => uptoBulkEntry x + uptoBulkEntries r
def uptoBulkEntry {H : Type} : Lit × DataW H → Nat
  | (.string bytes, d) => bytes.length + uptoBulk d + 1
  | (_, d) => uptoBulk d + 1
 end
def uptoSmall : (H : Type) → List (DataW H) → Bool := fun _ ds => decide (uptoBulkAll ds ≤ 1048576)
def OpenSpec.upto (s : _root_.Go.ChangeSpec) : _root_.Go.OpenSpec := { _root_.Go.OpenSpec.ofChange s with cond := some uptoSmall }

/-- 'greenbeltlaw10.PlaneCubes', WHERE WHAT IT READS IS OF BULK AT MOST 1048576: true; the input reads as it did. -/
def planeCubesUptoRow : OpenClaim := { program := "ytppomhgknhmceaa", sum := "b4b0e3e5433d07e5dd0a307eda5af85f089f403a0fd11a7ca25c7b2b1440ed2e", func := "greenbelt/greenbeltlaw10.PlaneCubes", spec := "planeCubes", unfollowed := true, recurses := true, apart := false, narrowed := true }
def PlaneCubesUptoSaid : Prop := planeCubesUptoRow.holds Try.pinned (OpenSpec.upto planeCubesSpec)

/-- 'greenbeltlaw10.PlaneRooms', WHERE WHAT IT READS IS OF BULK AT MOST 1048576: true; the input reads as it did. -/
def planeRoomsUptoRow : OpenClaim := { program := "ytppomhgknhmceaa", sum := "b4b0e3e5433d07e5dd0a307eda5af85f089f403a0fd11a7ca25c7b2b1440ed2e", func := "greenbelt/greenbeltlaw10.PlaneRooms", spec := "planeRooms", unfollowed := true, recurses := true, apart := false, narrowed := true }
def PlaneRoomsUptoSaid : Prop := planeRoomsUptoRow.holds Try.pinned (OpenSpec.upto planeRoomsSpec)

end Rows
end Go.Proofs.Ytppomhgknhmceaa
