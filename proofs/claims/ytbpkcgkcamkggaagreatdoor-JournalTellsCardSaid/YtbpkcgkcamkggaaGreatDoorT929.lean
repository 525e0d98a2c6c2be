/-
  Contracts of strconv.Itoa and of the writers of package wire.
-/
import Derived.Test.YtbpkcgkcamkggaaGreatDoorT928
import Derived.Test.YtbpkcgkcamkggaaGreatDoorWs
import Derived.WalkKit
import Derived.Lib.Hide
import Derived.Lib.AppendIntMem
import Derived.WalkLawsBesides
import Derived.WalkSpells
import Derived.Outline
set_option linter.unusedVariables false
namespace Go.Proofs.YtbpkcgkcamkggaaGreatDoor.W
open Go.RowKit Go.Sort

/-! ### the table, and the writers -/

/-- The library's table of powers of ten reads as its text lays it. -/
def Tab (w : World) : Prop := Lib.TabIs Tryz.prog w "internal/strconv.uint64pow10" .u64 Lib.pow10Tab

theorem Tab.on {w w' : World} (h : Tab w) (hb : Below w.heap.size w w') : Tab w' := Lib.tabBelow_of_tabIs h w' hb

theorem below_grow (w : World) (k : Nat) (os : Array Obj) : Below w.heap.size w (grow (w.drewN k) os) :=
  ⟨rfl, rfl, rfl, Lib.size_grow w k os, fun j hj => Lib.heap_grow_old w k os j (by omega)⟩

/-- the call returns the string L, and writes nothing that was there. -/
def StrIs (L : List UInt8) (w : World) (e : Ending) (w' : World) : Prop := ∃ s : ByteArray, e = .returned (.string s) ∧ s.data.toList = L ∧ Below w.heap.size w w'

theorem size_list (s : ByteArray) : s.data.toList.length = s.size := Array.length_toList
theorem size_of {s : ByteArray} {L : List UInt8} (h : s.data.toList = L) : s.size = L.length := by rw [← h, size_list]

theorem itoa_any (n : Int) (h : In64 n) (w : World) (ht : Tab w) :
    Calls Tryz.prog 83 #[.int .i64 n] w (StrIs (Lib.itoa n) w) :=
  (Tryz.strconv_Itoa n h.1 h.2 w ht).mono fun e w' ⟨he, k, os, hw⟩ => ⟨_, he, rfl, hw ▸ below_grow w k os⟩

set_option maxHeartbeats 400000 in
theorem int_any (n : Int) (h : In64 n) (w : World) (ht : Tab w) :
    Calls Tryz.prog 84 #[.int .i64 n] w (StrIs (eInt n) w) := by
  have hi := Lib.hid h; clear h
  go_enter Tryz.func84, Tryz.ntmps84
  go_wp2_with (go_at_call 83; refine (itoa_any n hi.out _ ht).mono ?_; rintro e w' ⟨s, rfl, hs, hb⟩; have hz := size_of hs; have hz2 := itoa_len n hi.out; have hz3 : s.size ≤ 20 := (by omega); clear hz hz2; have hS := Lib.hid hs; clear hs)
  go_ret
  exact ⟨_, rfl, by simp [eInt, hS.out], hb⟩

set_option maxHeartbeats 400000 in
theorem num_any (n : Int) (h : In64 n) (w : World) (ht : Tab w) :
    Calls Tryz.prog 65 #[.int .i64 n] w (StrIs (eNum n) w) := by
  by_cases hn : n < 0
  · have he : eNum n = [] := by simp [eNum, hn]
    have hE := Lib.hid he; clear he h
    go_enter Tryz.func65, Tryz.ntmps65
    go_wp2
    go_ret
    exact ⟨_, rfl, by rw [hE.out], Below.refl _ _⟩
  · have he : eNum n = eInt n := by simp [eNum, hn]
    have hE := Lib.hid he; clear he
    have hi := Lib.hid h; clear h
    go_enter Tryz.func65, Tryz.ntmps65
    go_wp2_with (go_at_call 84; refine (int_any n hi.out _ ht).mono ?_; rintro e w' ⟨s, rfl, hs, hb⟩; have hS := Lib.hid hs; clear hs)
    go_ret
    exact ⟨_, rfl, by rw [hS.out, hE.out], hb⟩

set_option maxHeartbeats 400000 in
theorem text_any (t : ByteArray) (ht0 : t.size ≤ 1099511627776) (w : World) (ht : Tab w) :
    Calls Tryz.prog 64 #[.string t] w (StrIs (eText t.data.toList) w) := by
  have hi : In64 (t.size : Int) := by unfold In64; omega
  have hI := Lib.hid hi; clear hi
  go_enter Tryz.func64, Tryz.ntmps64
  go_wp2_with (go_at_call 83; refine (itoa_any _ hI.out _ ht).mono ?_; rintro e w' ⟨s, rfl, hs, hb⟩; have hz := size_of hs; have hz2 := itoa_len _ hI.out; have hz3 : s.size ≤ 20 := (by omega); clear hz hz2; have hS := Lib.hid hs; clear hs)
  go_ret
  refine ⟨_, rfl, ?_, hb⟩
  have hs := hS.out
  unfold Lib.itoa at hs
  rw [if_neg (by omega)] at hs
  have e1 := size_list t
  simp [eText, hs, e1]

end Go.Proofs.YtbpkcgkcamkggaaGreatDoor.W
