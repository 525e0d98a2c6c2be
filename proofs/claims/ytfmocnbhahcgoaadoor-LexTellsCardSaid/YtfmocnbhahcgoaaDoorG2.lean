/-
  Layer 14: what stands in the package's variables; contracts of the library's functions, of leading, Word, Number.
-/
import Derived.Test.YtfmocnbhahcgoaaDoorG1
import Derived.WalkSmall
import Derived.Lib.Hide
import Derived.Lib.AppendIntMem
import Derived.Lib.IndexBytes
import Derived.BigQuiet
import Derived.OwnWalk
import Derived.Deep.QuietTactic
import Derived.Deep.OwnRows
import Derived.Deep.RegionHeld3
import Derived.StillTailTactics
set_option linter.unusedVariables false
set_option maxRecDepth 100000
namespace Go.Proofs.YtfmocnbhahcgoaaDoor
open Go.RowKit Go.Sort

/-- the package's variables as the program's text lays them. -/
structure Glb (w : World) : Prop where
  sg : w.var? Tryd.prog "greenbelt/lex.signs" = some (sgns.map fun l => Value.string ⟨l.toArray⟩).toArray
  es : ∃ tp p, w.var? Tryd.prog "strconv.ErrSyntax" = some #[.iface tp p]
  er : ∃ tp p, w.var? Tryd.prog "strconv.ErrRange" = some #[.iface tp p]
  tab : Lib.TabIs Tryd.prog w "internal/strconv.uint64pow10" .u64 Lib.pow10Tab
theorem gn_signs : Tryd.prog.globalNamed "greenbelt/lex.signs" = some 0 := by kernel_rfl
theorem gn_syntax : Tryd.prog.globalNamed "strconv.ErrSyntax" = some 1 := by kernel_rfl
theorem gn_range : Tryd.prog.globalNamed "strconv.ErrRange" = some 2 := by kernel_rfl
theorem var_lt {w : World} {n : String} {g : Nat} {cs : Array Value} (hg : Tryd.prog.globalNamed n = some g) (h : w.var? Tryd.prog n = some cs) : g < w.heap.size := by
  unfold World.var? at h
  rw [hg] at h
  rcases Nat.lt_or_ge g w.heap.size with h1 | h1
  · exact h1
  · simp [Array.getElem?_eq_none h1] at h
theorem Glb.below {w w' : World} (h : Glb w) (hb : Below w.heap.size w w') : Glb w' := by
  obtain ⟨t1, p1, h1⟩ := h.es
  obtain ⟨t2, p2, h2⟩ := h.er
  exact ⟨var?_below hb gn_signs (var_lt gn_signs h.sg) h.sg, ⟨t1, p1, var?_below hb gn_syntax (var_lt gn_syntax h1) h1⟩, ⟨t2, p2, var?_below hb gn_range (var_lt gn_range h2) h2⟩, Lib.tabBelow_of_tabIs h.tab w' hb⟩
theorem below_grow (w : World) (k : Nat) (os : Array Obj) : Below w.heap.size w (grow (w.drewN k) os) :=
  ⟨rfl, rfl, rfl, Lib.size_grow w k os, fun j hj => Lib.heap_grow_old w k os j (by omega)⟩
/-- the call returns the string L, and writes nothing that was there. -/
def StrIs (L : List UInt8) (w : World) (e : Ending) (w' : World) : Prop := ∃ s : ByteArray, e = .returned (.string s) ∧ s.data.toList = L ∧ Below w.heap.size w w'
def BoolIs (b : Bool) (w : World) (e : Ending) (w' : World) : Prop := e = .returned (.bool b) ∧ Below w.heap.size w w'
theorem size_list (s : ByteArray) : s.data.toList.length = s.size := Array.length_toList
theorem size_of {s : ByteArray} {L : List UInt8} (h : s.data.toList = L) : s.size = L.length := by rw [← h, size_list]
theorem str_ext {s t : ByteArray} (h : s.data.toList = t.data.toList) : s = t := by rw [← Lib.mk_data s, ← Lib.mk_data t, h]
theorem str_eq (s t : ByteArray) : (s.toList == t.toList) = decide (s.data.toList = t.data.toList) := by
  rw [Lib.toList_data, Lib.toList_data]
  by_cases h : s.data.toList = t.data.toList
  · rw [h]; simp
  · rw [decide_eq_false h, beq_eq_false_iff_ne]; exact h
theorem mk_list (l : List UInt8) : (⟨l.toArray⟩ : ByteArray).data.toList = l := rfl

/-! ### the library's functions -/
theorem trim_any (s cs : ByteArray) (w : World) (h1 : cs.size < 100) (h2 : ∀ (j : Nat) b, cs.data.toList[j]? = some b → b.toNat < 128) :
    Calls Tryd.prog 30 #[.string s, .string cs] w (StrIs (s.data.toList.dropWhile (cs.data.toList.contains ·)) w) :=
  (show Calls Tryd.prog 30 #[.string s, .string cs] w _ from Tryd.strings_TrimLeft_set s cs w (by omega) h2).mono fun e w' ⟨he, hb⟩ => ⟨_, he, rfl, hb⟩
theorem itoa_any (n : Int) (h0 : -9223372036854775808 ≤ n) (h1 : n ≤ 9223372036854775807) (w : World) (h : Glb w) : Calls Tryd.prog 26 #[.int .i64 n] w (StrIs (Lib.itoa n) w) :=
  (Tryd.strconv_Itoa n h0 h1 w h.tab).mono fun e w' ⟨he, k, os, hw⟩ => ⟨_, he, rfl, hw ▸ below_grow w k os⟩
/-- what Atoi returns: a number and nil, or something that is not nil. -/
def AtoiIs (r : Lib.NumEnd Int) (w : World) (e : Ending) (w' : World) : Prop :=
  (∃ v, r = .ok v ∧ -9223372036854775808 ≤ v ∧ v ≤ 9223372036854775807 ∧ e = .returned (.tuple #[.int .i64 v, .nilIface]) ∧ Below w.heap.size w w') ∨
  ((∀ v, r ≠ .ok v) ∧ ∃ z t p, e = .returned (.tuple #[.int .i64 z, .iface t p]) ∧ Below w.heap.size w w')
theorem atoi_any (s : ByteArray) (w : World) (hs : s.size ≤ 1099511627776) (h : Glb w) : Calls Tryd.prog 25 #[.string s] w (AtoiIs (Lib.atoiAll s.data.toList) w) := by
  obtain ⟨t1, p1, h1⟩ := h.es
  obtain ⟨t2, p2, h2⟩ := h.er
  by_cases hv : ∃ v, Lib.atoiAll s.data.toList = .ok v
  · obtain ⟨v, hr⟩ := hv
    obtain ⟨b0, b1⟩ := Lib.atoiAll_bounds hr
    refine (Tryd.strconv_Atoi_ok s (by omega) v hr w).mono fun e w' ⟨he, hw⟩ => Or.inl ⟨v, hr, b0, b1, he, ?_⟩
    rcases hw with rfl | ⟨t, rfl⟩
    · exact Below.refl _ _
    · exact Lib.bytesWorld_below _ _ _
  · have hno : ∀ v, Lib.atoiAll s.data.toList ≠ .ok v := fun v hr => hv ⟨v, hr⟩
    exact (show Calls Tryd.prog 25 #[.string s] w _ from Tryd.strconv_Atoi_not s (by omega) hno t1 t2 p1 p2 w h1 h2).mono fun e w' ⟨z, t, p, he, hb⟩ => Or.inr ⟨hno, z, t, p, he, hb⟩
theorem prefix_any (s p : ByteArray) (w : World) : Calls Tryd.prog 45 #[.string s, .string p] w (BoolIs (p.data.toList.isPrefixOf s.data.toList) w) :=
  (Tryd.strings_HasPrefix s p w).mono fun e w' ⟨he, hw⟩ => ⟨he, hw ▸ Below.refl _ _⟩

/-! ### the sets -/
theorem set_letters (b : UInt8) : ([97, 98, 99, 100, 101, 102, 103, 104, 105, 106, 107, 108, 109, 110, 111, 112, 113, 114, 115, 116, 117, 118, 119, 120, 121, 122] : List UInt8).contains b = ltr b := by
  rw [Bool.eq_iff_iff, List.contains_iff_mem, ltr_iff]
  simp only [List.mem_cons, List.mem_nil_iff, or_false, ← UInt8.toNat_inj]
  simp only [UInt8.reduceToNat]
  omega
theorem set_digits (b : UInt8) : ([48, 49, 50, 51, 52, 53, 54, 55, 56, 57] : List UInt8).contains b = dgt b := by
  rw [Bool.eq_iff_iff, List.contains_iff_mem, dgt_iff]
  simp only [List.mem_cons, List.mem_nil_iff, or_false, ← UInt8.toNat_inj]
  simp only [UInt8.reduceToNat]
  omega
theorem set_both (b : UInt8) : ([97, 98, 99, 100, 101, 102, 103, 104, 105, 106, 107, 108, 109, 110, 111, 112, 113, 114, 115, 116, 117, 118, 119, 120, 121, 122, 48, 49, 50, 51, 52, 53, 54, 55, 56, 57] : List UInt8).contains b = aln b := by
  have h : aln b = true ↔ (97 ≤ b.toNat ∧ b.toNat ≤ 122) ∨ (48 ≤ b.toNat ∧ b.toNat ≤ 57) := by unfold aln; rw [Bool.or_eq_true, ltr_iff, dgt_iff]
  rw [Bool.eq_iff_iff, List.contains_iff_mem, h]
  simp only [List.mem_cons, List.mem_nil_iff, or_false, ← UInt8.toNat_inj]
  simp only [UInt8.reduceToNat]
  omega
theorem set_blanks (b : UInt8) : ([9, 10, 32] : List UInt8).contains b = blk b := by
  have h : blk b = true ↔ b.toNat = 9 ∨ b.toNat = 10 ∨ b.toNat = 32 := by
    unfold blk
    simp only [Bool.or_eq_true, beq_iff_eq, ← UInt8.toNat_inj]
    simp only [UInt8.reduceToNat]
    omega
  rw [Bool.eq_iff_iff, List.contains_iff_mem, h]
  simp only [List.mem_cons, List.mem_nil_iff, or_false, ← UInt8.toNat_inj]
  simp only [UInt8.reduceToNat]
theorem take_len_le {f : UInt8 → Bool} (l : List UInt8) : (l.takeWhile f).length + (l.dropWhile f).length = l.length := by
  have := congrArg List.length (List.takeWhile_append_dropWhile (p := f) (l := l))
  rw [List.length_append] at this; exact this
theorem take_take {f : UInt8 → Bool} (l : List UInt8) : l.take (l.takeWhile f).length = l.takeWhile f := by
  conv => lhs; rw [← List.takeWhile_append_dropWhile (p := f) (l := l)]
  exact List.take_left'  (by rw [List.takeWhile_append_dropWhile])

/-! ### leading -/
set_option maxHeartbeats 1000000 in
theorem leading_any (s cs : ByteArray) (f : UInt8 → Bool) (w : World) (hs : s.size ≤ 1099511627776) (h1 : cs.size < 100) (h2 : ∀ (j : Nat) b, cs.data.toList[j]? = some b → b.toNat < 128) (hf : ∀ b, cs.data.toList.contains b = f b) :
    Calls Tryd.prog 22 #[.string s, .string cs] w (StrIs (s.data.toList.takeWhile f) w) := by
  have HT := Lib.hid (trim_any s cs w h1 h2)
  have hff : (fun x => cs.data.toList.contains x) = f := funext hf
  rw [show (s.data.toList.dropWhile (cs.data.toList.contains ·)) = s.data.toList.dropWhile f by rw [← hff]] at HT
  clear h1 h2 hf hff
  go_enter Tryd.func22, Tryd.ntmps22
  go_wp2_with fail
  refine HT.out.mono ?_
  rintro e w1 ⟨t, rfl, ht, hb⟩
  have hz : (s.data.toList.takeWhile f).length + t.size = s.size := by rw [size_of ht, take_len_le, size_list]
  have hz2 : t.size ≤ s.size := by omega
  have HB := Lib.hid hb
  have HZ : Hid ((s.extract 0 (s.size - t.size)).data.toList = s.data.toList.takeWhile f) := Lib.hid (by
    rw [Lib.extract_from_zero, show s.size - t.size = (s.data.toList.takeWhile f).length by omega, take_take])
  clear hz ht hb HT
  go_wp2_with fail
  go_ret
  exact ⟨_, rfl, HZ.out, HB.out⟩
end Go.Proofs.YtfmocnbhahcgoaaDoor
