/-
  No cell of these rows narrows 'for every input' (looked for: loops, veiled, ifaces, maps, wideKeys, modest, calm, conditions, laid).
  DERIVED. THE GIVEN ROWS OF THIS SEAT. 6 by the template 'for every input the law returns true; each argument reads behind the call as it read before'; 0 by the template 'total and deterministic' (their statements: YtngddecpfhlilaaGreatTotals.lean).
  GIVEN WITH THE SEED: the statements are not yours to turn. If you find one false, say at which input.
  Laid BY PROGRAM, IN A SANDBOX (cutbox-rows.mjs): the forced cells as the released guide's own fill.sh prints them over the translation 13a9a8bc7ad71369… (all of the seat's roots in one cut). By AI agents, Wed Nov 11 2026. No macro, syntax, notation, axiom, sorry.
-/
import Derived.Test.YtngddecpfhlilaaGreatChecked
import GoSem.Claim
import GoSem.ClaimJoined
import GoSem.ClaimMapViews
import Derived.JoinedTies
import Derived.KernelRfl
namespace Go.Proofs.YtngddecpfhlilaaGreat
/- THE CELL 'sum', in the pinned program and in every row, IS THE sha256 OF THE DUMP (.gsa) THAT YtngddecpfhlilaaGreatProg.lean LOADS. Nothing in Lean hashes anything: it is a label: what it is worth is what the hold of that sum in a sandbox is worth. -/
noncomputable def Tryz.pinned : Pinned := { name := "ytngddecpfhlilaagreat", sum := "13a9a8bc7ad71369af25722f4d27a841883a2cbaba815eb89e254455ec113786", checked := Tryz.checked }
namespace Rows
def none {H : Type} : Left H := { results := [], args := [] }

/-- 'greenbeltlaw13.ParcelTells': WHATEVER THE INPUT: true; the input reads as it did. -/
def parcelTellsSpec : ChangeSpec := { name := "parcelTells", fn := fun _ => fun
  | [d1, d2, d3, d4, d5, d6] => { results := [.lit (.bool true)], args := [d1, d2, d3, d4, d5, d6] }
  | _ => none }
def parcelTellsRow : OpenClaim := { program := "ytngddecpfhlilaagreat", sum := "13a9a8bc7ad71369af25722f4d27a841883a2cbaba815eb89e254455ec113786", func := "greenbelt/greenbeltlaw13.ParcelTells", spec := "parcelTells", unfollowed := true, recurses := true, apart := false }
def ParcelTellsSaid : Prop := parcelTellsRow.holds Tryz.pinned (OpenSpec.ofChange parcelTellsSpec)

/-- ITS FALSE NEIGHBOUR: 'it returns false'. Refute it at one input. -/
def parcelTellsWrong : ChangeSpec := { name := "parcelTells", fn := fun _ => fun
  | [d1, d2, d3, d4, d5, d6] => { results := [.lit (.bool false)], args := [d1, d2, d3, d4, d5, d6] }
  | _ => none }
def ParcelTellsWrongFalsely : Prop := parcelTellsRow.holds Tryz.pinned (OpenSpec.ofChange parcelTellsWrong)

/-- 'greenbeltlaw13.ParcelKeeps': WHATEVER THE INPUT: true; the input reads as it did. -/
def parcelKeepsSpec : ChangeSpec := { name := "parcelKeeps", fn := fun _ => fun
  | [d1, d2, d3] => { results := [.lit (.bool true)], args := [d1, d2, d3] }
  | _ => none }
def parcelKeepsRow : OpenClaim := { program := "ytngddecpfhlilaagreat", sum := "13a9a8bc7ad71369af25722f4d27a841883a2cbaba815eb89e254455ec113786", func := "greenbelt/greenbeltlaw13.ParcelKeeps", spec := "parcelKeeps", unfollowed := true, recurses := true, apart := false }
def ParcelKeepsSaid : Prop := parcelKeepsRow.holds Tryz.pinned (OpenSpec.ofChange parcelKeepsSpec)

/-- ITS FALSE NEIGHBOUR: 'it returns false'. Refute it at one input. -/
def parcelKeepsWrong : ChangeSpec := { name := "parcelKeeps", fn := fun _ => fun
  | [d1, d2, d3] => { results := [.lit (.bool false)], args := [d1, d2, d3] }
  | _ => none }
def ParcelKeepsWrongFalsely : Prop := parcelKeepsRow.holds Tryz.pinned (OpenSpec.ofChange parcelKeepsWrong)

/-- 'greenbeltlaw13.ParcelLines': WHATEVER THE INPUT: true; the input reads as it did. -/
def parcelLinesSpec : ChangeSpec := { name := "parcelLines", fn := fun _ => fun
  | [d] => { results := [.lit (.bool true)], args := [d] }
  | _ => none }
def parcelLinesRow : OpenClaim := { program := "ytngddecpfhlilaagreat", sum := "13a9a8bc7ad71369af25722f4d27a841883a2cbaba815eb89e254455ec113786", func := "greenbelt/greenbeltlaw13.ParcelLines", spec := "parcelLines", unfollowed := true, recurses := true, apart := false }
def ParcelLinesSaid : Prop := parcelLinesRow.holds Tryz.pinned (OpenSpec.ofChange parcelLinesSpec)

/-- ITS FALSE NEIGHBOUR: 'it returns false'. Refute it at one input. -/
def parcelLinesWrong : ChangeSpec := { name := "parcelLines", fn := fun _ => fun
  | [d] => { results := [.lit (.bool false)], args := [d] }
  | _ => none }
def ParcelLinesWrongFalsely : Prop := parcelLinesRow.holds Tryz.pinned (OpenSpec.ofChange parcelLinesWrong)

/-- 'greenbeltlaw13.ParcelBack': WHATEVER THE INPUT: true; the input reads as it did. -/
def parcelBackSpec : ChangeSpec := { name := "parcelBack", fn := fun _ => fun
  | [d1, d2, d3] => { results := [.lit (.bool true)], args := [d1, d2, d3] }
  | _ => none }
def parcelBackRow : OpenClaim := { program := "ytngddecpfhlilaagreat", sum := "13a9a8bc7ad71369af25722f4d27a841883a2cbaba815eb89e254455ec113786", func := "greenbelt/greenbeltlaw13.ParcelBack", spec := "parcelBack", unfollowed := true, recurses := true, apart := false }
def ParcelBackSaid : Prop := parcelBackRow.holds Tryz.pinned (OpenSpec.ofChange parcelBackSpec)

/-- ITS FALSE NEIGHBOUR: 'it returns false'. Refute it at one input. -/
def parcelBackWrong : ChangeSpec := { name := "parcelBack", fn := fun _ => fun
  | [d1, d2, d3] => { results := [.lit (.bool false)], args := [d1, d2, d3] }
  | _ => none }
def ParcelBackWrongFalsely : Prop := parcelBackRow.holds Tryz.pinned (OpenSpec.ofChange parcelBackWrong)

/-- 'greenbeltlaw13.ParcelNears': WHATEVER THE INPUT: true; the input reads as it did. -/
def parcelNearsSpec : ChangeSpec := { name := "parcelNears", fn := fun _ => fun
  | [d1, d2, d3] => { results := [.lit (.bool true)], args := [d1, d2, d3] }
  | _ => none }
def parcelNearsRow : OpenClaim := { program := "ytngddecpfhlilaagreat", sum := "13a9a8bc7ad71369af25722f4d27a841883a2cbaba815eb89e254455ec113786", func := "greenbelt/greenbeltlaw13.ParcelNears", spec := "parcelNears", unfollowed := true, recurses := true, apart := false }
def ParcelNearsSaid : Prop := parcelNearsRow.holds Tryz.pinned (OpenSpec.ofChange parcelNearsSpec)

/-- ITS FALSE NEIGHBOUR: 'it returns false'. Refute it at one input. -/
def parcelNearsWrong : ChangeSpec := { name := "parcelNears", fn := fun _ => fun
  | [d1, d2, d3] => { results := [.lit (.bool false)], args := [d1, d2, d3] }
  | _ => none }
def ParcelNearsWrongFalsely : Prop := parcelNearsRow.holds Tryz.pinned (OpenSpec.ofChange parcelNearsWrong)

/-- 'greenbeltlaw13.ParcelEasements': WHATEVER THE INPUT: true; the input reads as it did. -/
def parcelEasementsSpec : ChangeSpec := { name := "parcelEasements", fn := fun _ => fun
  | [d1, d2, d3, d4] => { results := [.lit (.bool true)], args := [d1, d2, d3, d4] }
  | _ => none }
def parcelEasementsRow : OpenClaim := { program := "ytngddecpfhlilaagreat", sum := "13a9a8bc7ad71369af25722f4d27a841883a2cbaba815eb89e254455ec113786", func := "greenbelt/greenbeltlaw13.ParcelEasements", spec := "parcelEasements", unfollowed := true, recurses := true, apart := false }
def ParcelEasementsSaid : Prop := parcelEasementsRow.holds Tryz.pinned (OpenSpec.ofChange parcelEasementsSpec)

/-- ITS FALSE NEIGHBOUR: 'it returns false'. Refute it at one input. -/
def parcelEasementsWrong : ChangeSpec := { name := "parcelEasements", fn := fun _ => fun
  | [d1, d2, d3, d4] => { results := [.lit (.bool false)], args := [d1, d2, d3, d4] }
  | _ => none }
def ParcelEasementsWrongFalsely : Prop := parcelEasementsRow.holds Tryz.pinned (OpenSpec.ofChange parcelEasementsWrong)

/- THE SECOND FORM. 'bulk': how many values and letters a reading holds, each counted each time it is reached (what is shared counts as often as it is met; a slice's spare places count too). A statement '..UptoSaid' is the law's where the arguments, and the package variables that the reading takes, are together of bulk at most 1048576: NARROWER than '..Said'. Prove '..Said' where nothing that the law and all that it calls make is longer than what came in: it says more and counts as full. Else prove '..UptoSaid'. A law counts once. -/
mutual
def uptoBulk {H : Type} : DataW H → Nat
  | .lit (.string bytes) => bytes.length + 1
  | .lit _ => 1
  | .nil => 1
  | .ptr d => uptoBulk d + 1
  | .slice elems spare => uptoBulkAll elems + uptoBulkAll spare + 1
  | .agg parts => uptoBulkAll parts + 1
  | .iface _ d => uptoBulk d + 1
  | .map entries => uptoBulkEntries entries + 1
  | .held _ => 1
def uptoBulkAll {H : Type} : List (DataW H) → Nat
  | [] => 0
  | d :: r => uptoBulk d + uptoBulkAll r
def uptoBulkEntries {H : Type} : List (Lit × DataW H) → Nat
  | [] => 0
  | x :: r => uptoBulkEntry x + uptoBulkEntries r
def uptoBulkEntry {H : Type} : Lit × DataW H → Nat
  | (.string bytes, d) => bytes.length + uptoBulk d + 1
  | (_, d) => uptoBulk d + 1
 end
def uptoSmall : (H : Type) → List (DataW H) → Bool := fun _ ds => decide (uptoBulkAll ds ≤ 1048576)
def OpenSpec.upto (s : _root_.Go.ChangeSpec) : _root_.Go.OpenSpec := { _root_.Go.OpenSpec.ofChange s with cond := some uptoSmall }

/-- 'greenbeltlaw13.ParcelTells', WHERE WHAT IT READS IS OF BULK AT MOST 1048576: true; the input reads as it did. -/
def parcelTellsUptoRow : OpenClaim := { program := "ytngddecpfhlilaagreat", sum := "13a9a8bc7ad71369af25722f4d27a841883a2cbaba815eb89e254455ec113786", func := "greenbelt/greenbeltlaw13.ParcelTells", spec := "parcelTells", unfollowed := true, recurses := true, apart := false, narrowed := true }
def ParcelTellsUptoSaid : Prop := parcelTellsUptoRow.holds Tryz.pinned (OpenSpec.upto parcelTellsSpec)

/-- 'greenbeltlaw13.ParcelKeeps', WHERE WHAT IT READS IS OF BULK AT MOST 1048576: true; the input reads as it did. -/
def parcelKeepsUptoRow : OpenClaim := { program := "ytngddecpfhlilaagreat", sum := "13a9a8bc7ad71369af25722f4d27a841883a2cbaba815eb89e254455ec113786", func := "greenbelt/greenbeltlaw13.ParcelKeeps", spec := "parcelKeeps", unfollowed := true, recurses := true, apart := false, narrowed := true }
def ParcelKeepsUptoSaid : Prop := parcelKeepsUptoRow.holds Tryz.pinned (OpenSpec.upto parcelKeepsSpec)

/-- 'greenbeltlaw13.ParcelLines', WHERE WHAT IT READS IS OF BULK AT MOST 1048576: true; the input reads as it did. -/
def parcelLinesUptoRow : OpenClaim := { program := "ytngddecpfhlilaagreat", sum := "13a9a8bc7ad71369af25722f4d27a841883a2cbaba815eb89e254455ec113786", func := "greenbelt/greenbeltlaw13.ParcelLines", spec := "parcelLines", unfollowed := true, recurses := true, apart := false, narrowed := true }
def ParcelLinesUptoSaid : Prop := parcelLinesUptoRow.holds Tryz.pinned (OpenSpec.upto parcelLinesSpec)

/-- 'greenbeltlaw13.ParcelBack', WHERE WHAT IT READS IS OF BULK AT MOST 1048576: true; the input reads as it did. -/
def parcelBackUptoRow : OpenClaim := { program := "ytngddecpfhlilaagreat", sum := "13a9a8bc7ad71369af25722f4d27a841883a2cbaba815eb89e254455ec113786", func := "greenbelt/greenbeltlaw13.ParcelBack", spec := "parcelBack", unfollowed := true, recurses := true, apart := false, narrowed := true }
def ParcelBackUptoSaid : Prop := parcelBackUptoRow.holds Tryz.pinned (OpenSpec.upto parcelBackSpec)

/-- 'greenbeltlaw13.ParcelNears', WHERE WHAT IT READS IS OF BULK AT MOST 1048576: true; the input reads as it did. -/
def parcelNearsUptoRow : OpenClaim := { program := "ytngddecpfhlilaagreat", sum := "13a9a8bc7ad71369af25722f4d27a841883a2cbaba815eb89e254455ec113786", func := "greenbelt/greenbeltlaw13.ParcelNears", spec := "parcelNears", unfollowed := true, recurses := true, apart := false, narrowed := true }
def ParcelNearsUptoSaid : Prop := parcelNearsUptoRow.holds Tryz.pinned (OpenSpec.upto parcelNearsSpec)

/-- 'greenbeltlaw13.ParcelEasements', WHERE WHAT IT READS IS OF BULK AT MOST 1048576: true; the input reads as it did. -/
def parcelEasementsUptoRow : OpenClaim := { program := "ytngddecpfhlilaagreat", sum := "13a9a8bc7ad71369af25722f4d27a841883a2cbaba815eb89e254455ec113786", func := "greenbelt/greenbeltlaw13.ParcelEasements", spec := "parcelEasements", unfollowed := true, recurses := true, apart := false, narrowed := true }
def ParcelEasementsUptoSaid : Prop := parcelEasementsUptoRow.holds Tryz.pinned (OpenSpec.upto parcelEasementsSpec)

end Rows
end Go.Proofs.YtngddecpfhlilaaGreat
