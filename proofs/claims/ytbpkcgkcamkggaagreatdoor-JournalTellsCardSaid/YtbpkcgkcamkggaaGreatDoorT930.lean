/-
  Contracts of wire.Reader's methods: what a reader at a block r reads, as the functions of the first text say.
-/
import Derived.Test.YtbpkcgkcamkggaaGreatDoorT929
import Derived.Deep.QuietTactic
import Derived.BigQuiet
import Derived.OwnWalk
import Derived.Deep.OwnRows
set_option linter.unusedVariables false
namespace Go.Proofs.YtbpkcgkcamkggaaGreatDoor.W
open Go.RowKit Go.Sort

/-- block r is a reader (of type T) with this rest and this mark. -/
def RdrAt (T : TypeId) (r : Nat) (s : ByteArray) (f : Bool) (w : World) : Prop := w.heap[r]? = some (.cells #[.string s, .bool f] T (0, 0))

section
variable {T : TypeId} {r : Nat} {s : ByteArray} {f : Bool} {w w' : World}
theorem RdrAt.lt (h : RdrAt T r s f w) : r < w.heap.size := by
  rcases Nat.lt_or_ge r w.heap.size with hlt | hge
  · exact hlt
  · unfold RdrAt at h; rw [Array.getElem?_eq_none hge] at h; cases h
theorem RdrAt.cell0 (h : RdrAt T r s f w) : w.cell? ⟨r, 0, none⟩ = some (.string s) := by rw [Lib.cell_of_heap h]; rfl
theorem RdrAt.cell1 (h : RdrAt T r s f w) : w.cell? ⟨r, 1, none⟩ = some (.bool f) := by rw [Lib.cell_of_heap h]; rfl
theorem RdrAt.froz (h : RdrAt T r s f w) (i : Nat) : w.frozen? ⟨r, i, none⟩ = false := Lib.frozen_of_heap h i
theorem RdrAt.set0 (h : RdrAt T r s f w) (s' : ByteArray) : RdrAt T r s' f (w.setCell ⟨r, 0, none⟩ (.string s')) := by
  unfold RdrAt at h ⊢
  simp [World.setCell, Array.getElem?_modify, h]
theorem RdrAt.set1 (h : RdrAt T r s f w) (f' : Bool) : RdrAt T r s f' (w.setCell ⟨r, 1, none⟩ (.bool f')) := by
  unfold RdrAt at h ⊢
  simp [World.setCell, Array.getElem?_modify, h]
theorem grown_set (w : World) (r i : Nat) (u : Value) : w.grownBy (w.setCell ⟨r, i, none⟩ u) (some r) :=
  ⟨rfl, rfl, rfl, by simp [World.setCell], fun k _ hk => Below.heap_setCell _ _ _ _ (fun e => hk (by simp [e]))⟩
theorem RdrAt.kept {row : Option Nat} (h : RdrAt T r s f w) (hg : w.grownBy w' row) (hr : some r ≠ row) : RdrAt T r s f w' := (hg.block r h.lt hr).trans h
theorem RdrAt.below {B : Nat} (h : RdrAt T r s f w) (hg : Below B w w') (hr : r < B) : RdrAt T r s f w' := (hg.block r hr).trans h
theorem grown_trans {row : Option Nat} {a b c : World} (h : a.grownBy b row) (k : b.grownBy c row) : a.grownBy c row :=
  ⟨k.os.trans h.os, k.tape.trans h.tape, k.output.trans h.output, Nat.le_trans h.size k.size, fun i hi hr => (k.block i (Nat.lt_of_lt_of_le hi h.size) hr).trans (h.block i hi hr)⟩
theorem below_of_grown {a b : World} {B r : Nat} (h : a.grownBy b (some r)) (hB : B ≤ a.heap.size) (hr : B ≤ r) : Below B a b :=
  ⟨h.os, h.tape, h.output, h.size, fun i hi => h.block i (by omega) (fun e => by injection e with e; omega)⟩
end

/-- the reader's method ends with the value v, the reader's rest is l, its mark f; nothing else has turned. -/
def After (T : TypeId) (r : Nat) (v : Value) (l : List UInt8) (f : Bool) (w : World) (e : Ending) (w' : World) : Prop :=
  e = .returned v ∧ (∃ s : ByteArray, s.data.toList = l ∧ RdrAt T r s f w') ∧ w.grownBy w' (some r)

set_option maxHeartbeats 400000 in
theorem fail_any (r : Nat) (s : ByteArray) (f : Bool) (w : World) (hr : RdrAt 109 r s f w) :
    Calls Tryz.prog 78 #[.pointer (some ⟨r, 0, none⟩)] w (After 109 r (.tuple #[]) [] true w) := by
  have c0 := hr.cell0
  have c1 := hr.cell1
  have f0 := hr.froz 0
  have f1 := hr.froz 1
  have H := Lib.hid hr; clear hr
  go_enter Tryz.func78, Tryz.ntmps78
  go_wp2
  go_end0
  exact ⟨rfl, ⟨_, rfl, (H.out.set0 _).set1 _⟩, grown_trans (grown_set _ _ _ _) (grown_set _ _ _ _)⟩

set_option maxHeartbeats 400000 in
theorem open_any (s : ByteArray) (w : World) :
    Calls Tryz.prog 53 #[.string s] w fun e w' => e = .returned (.pointer (some ⟨w.heap.size, 0, none⟩)) ∧ w' = w.alloc (.cells #[.string s, .bool false] 109) := by
  go_enter Tryz.func53, Tryz.ntmps53
  go_wp2
  go_ret
  exact ⟨rfl, rfl⟩

set_option maxHeartbeats 400000 in
theorem left_any (r : Nat) (s : ByteArray) (f : Bool) (w : World) (hr : RdrAt 109 r s f w) :
    Calls Tryz.prog 57 #[.pointer (some ⟨r, 0, none⟩)] w fun e w' => e = .returned (.int .i64 s.size) ∧ w = w' := by
  have c0 := hr.cell0
  have H := Lib.hid hr; clear hr
  go_enter Tryz.func57, Tryz.ntmps57
  go_wp2
  go_ret
  exact ⟨rfl, rfl⟩

set_option maxHeartbeats 400000 in
theorem done_any (r : Nat) (s : ByteArray) (f : Bool) (w : World) (hr : RdrAt 109 r s f w) :
    Calls Tryz.prog 79 #[.pointer (some ⟨r, 0, none⟩)] w fun e w' => e = .returned (.bool (!f && s.toList.isEmpty)) ∧ w = w' := by
  have c0 := hr.cell0
  have c1 := hr.cell1
  have H := Lib.hid hr; clear hr
  cases f
  · go_enter Tryz.func79, Tryz.ntmps79
    go_wp2
    go_ret
    exact ⟨rfl, rfl⟩
  · go_enter Tryz.func79, Tryz.ntmps79
    go_wp2
    go_ret
    exact ⟨rfl, rfl⟩

end Go.Proofs.YtbpkcgkcamkggaaGreatDoor.W
