/-
  Contracts of the writers of lists (package wire), and of the reference's writers.
-/
import Derived.Test.YtdpedeknccnbhaaDoorB
import Derived.OwnWalk
import Derived.Deep.OwnRows
set_option linter.unusedVariables false
namespace Go.Proofs.YtdpedeknccnbhaaDoor
open Go.RowKit Go.Sort

/-- a slice value with n one-cell elements that read as xs (nil where there are none is let in). -/
def Row (w : World) (A : Option Addr) (xs : List Value) : Prop :=
  0 < xs.length → ∃ b off, A = some ⟨b, off, none⟩ ∧ b < w.heap.size ∧ ∀ j u, xs[j]? = some u → w.cell? ⟨b, off + j, none⟩ = some u

theorem Row.below {w w' : World} {A : Option Addr} {xs : List Value} (h : Row w A xs) (hb : Below w.heap.size w w') : Row w' A xs := fun hn => by
  obtain ⟨b, off, e, hlt, hc⟩ := h hn
  exact ⟨b, off, e, Nat.lt_of_lt_of_le hlt hb.size, fun j u hu => (hb.cell (p := ⟨b, off + j, none⟩) hlt).trans (hc j u hu)⟩
theorem Row.nil {w : World} {A : Option Addr} : Row w A [] := fun h => absurd h (by simp)

theorem isB_below {T e : TypeId} {b : Nat} {p : Value} {xs : List Value} {w w' : World} {B : Nat} (h : Lib.BuilderAt T e B b p xs w) (hb : Below w.heap.size w w') : Lib.BuilderAt T e B b p xs w' := by
  have hlt := h.lt
  obtain ⟨hB, v, hk, hown, hne⟩ := h
  exact ⟨hB, v, (hb.block b hlt).trans hk, hown.kept (row := none) ⟨hb.os, hb.tape, hb.output, hb.size, fun k hk _ => hb.block k hk⟩ (by cases hv : v.ownBlock <;> simp), hne⟩

theorem bc_append (a b : List UInt8) : Lib.byteCells (a ++ b) = Lib.byteCells a ++ Lib.byteCells b := by simp [Lib.byteCells]
theorem strCells_list (s : ByteArray) (L : List UInt8) (h : s.data.toList = L) : Lib.strCells s = Lib.byteCells L := by subst h; rfl

theorem fl_snoc {α : Type} (g : α → List UInt8) (l : List α) (k : Nat) (h : k < l.length) : (l.take (k + 1)).flatMap g = (l.take k).flatMap g ++ g l[k] := by
  rw [List.take_succ_eq_append_getElem h, List.flatMap_append]; simp
theorem fl_len {α : Type} (g : α → List UInt8) (m : Nat) : ∀ (l : List α), (∀ x ∈ l, (g x).length ≤ m) → (l.flatMap g).length ≤ m * l.length
  | [], _ => by simp
  | x :: l, h => by
    have := fl_len g m l (fun y hy => h y (by simp [hy]))
    have h1 := h x (by simp)
    simp only [List.flatMap_cons, List.length_append, List.length_cons, Nat.mul_succ]
    omega

/-- what the builder holds behind k elements. -/
def held {α : Type} (g : α → List UInt8) (l : List α) (k : Nat) : List UInt8 := Lib.itoa (l.length : Int) ++ 91 :: (l.take k).flatMap g

theorem held_next {α : Type} (g : α → List UInt8) (l : List α) (k : Nat) (h : k < l.length) : held g l (k + 1) = held g l k ++ g l[k] := by
  unfold held
  rw [fl_snoc g l k h]; simp
theorem held_len (l : List Int) (k : Nat) (hk : k ≤ l.length) (hl : l.length ≤ 1099511627776) (hin : ∀ n ∈ l, In64 n) : (held eInt l k).length ≤ 30000000000000 := by
  have h1 := itoa_len (l.length : Int) (by unfold In64; omega)
  have h2 := fl_len eInt 21 (l.take k) (fun x hx => (eInt_len x (hin x (List.mem_of_mem_take hx))).2)
  rw [List.length_take] at h2
  unfold held
  rw [List.length_append, List.length_cons]
  omega
theorem held_end {α : Type} (g : α → List UInt8) (l : List α) : held g l l.length ++ [93] = eList g l := by
  unfold held eList Lib.itoa
  rw [if_neg (by omega), List.take_length]
  simp
theorem bc_len (l : List UInt8) : (Lib.byteCells l).length = l.length := Lib.byteCells_length l

set_option maxRecDepth 100000 in
set_option maxHeartbeats 2000000 in
theorem listInt_any (A : Option Addr) (cap : Nat) (l : List Int) (w : World) (hA : Row w A (l.map (Value.int .i64))) (hin : ∀ n ∈ l, In64 n) (hl : l.length ≤ 1099511627776) (ht : Tab w) :
    Calls Tryd.prog 46 #[.slice A l.length cap, .func (.func 13) #[] #[]] w (StrIs (eList eInt l) w) := by
  have hin64 : In64 (l.length : Int) := by unfold In64; omega
  have HI := Lib.hid hin64; clear hin64
  have HN := Lib.hid hin; clear hin
  have HA := Lib.hid hA; clear hA
  go_enter Tryd.func46, Tryd.ntmps46
  go_wp2_with fail
  have b1 : Below w.heap.size w (w.alloc (.cells #[.pointer none, .slice none 0 0] 68)) := (Below.refl _ _).alloc (Nat.le_refl _) _
  have i1 := Lib.fresh_isBuilder 68 5 w
  refine (itoa_any _ HI.out _ (ht.on b1)).mono ?_
  rintro e w2 ⟨s, rfl, hs, hb⟩
  have i2 : Lib.IsBuilder 68 5 w.heap.size w.heap.size [] w2 := i1.imp (isB_below · hb) (isB_below · hb)
  have b2 : Below w.heap.size w w2 := b1.trans (hb.mono (by simp))
  have hz := size_of hs
  have hz2 := itoa_len _ HI.out
  have hz3 : s.size ≤ 20 := by omega
  clear hz hz2 i1 b1 hb
  have HS := Lib.hid hs; clear hs
  go_wp2_with fail
  refine (writeString _ _ _ s _ i2 (by simp; omega) b2.size).mono ?_
  rintro e w3 ⟨rfl, i3, hb3⟩
  have b3 := b2.trans hb3
  clear i2 b2 hb3
  go_wp2_with fail
  refine (writeByte _ _ _ 91 _ (.inr i3) (by simp [Lib.strCells_length]; omega) b3.size).mono ?_
  rintro e w4 ⟨rfl, i4, hb4⟩
  have b4 := b3.trans hb4
  have i5 : Lib.BuilderAt 68 5 w.heap.size w.heap.size (.pointer (some ⟨w.heap.size, 0, none⟩)) (Lib.byteCells (held eInt l 0)) w4 := by
    have e1 : Lib.byteCells (held eInt l 0) = [] ++ Lib.strCells s ++ [.int .u8 91] := by
      rw [strCells_list s _ HS.out]
      simp [held, Lib.byteCells]
    rw [e1]; exact i4
  clear i3 b3 hb4 i4
  go_wp2
  go_loopw [7, 15] (fun _ i wr => ∃ k : Nat, k ≤ l.length ∧ i = .int .i64 k ∧ Lib.BuilderAt 68 5 w.heap.size w.heap.size (.pointer (some ⟨w.heap.size, 0, none⟩)) (Lib.byteCells (held eInt l k)) wr ∧ Below w.heap.size w wr) (fun _ i _ => l.length - (intOf i).toNat)
  case atStart => exact ⟨0, Nat.zero_le _, rfl, i5, b4⟩
  case round =>
    obtain ⟨k, hk, rfl, ib, bb⟩ := hrel
    have hlen := held_len l k hk hl HN.out
    clear i5 b4
    by_cases hlt : k < l.length
    · obtain ⟨bk, off, rfl, hbk, hc⟩ := HA.out (by simp; omega)
      have hcell : wr.cell? ⟨bk, off + k, none⟩ = some (.int .i64 l[k]) := (bb.cell (p := ⟨bk, off + k, none⟩) hbk).trans (hc k _ (by simp [hlt]))
      clear hc
      have HK : Hid (In64 l[k]) := HN.out _ (List.getElem_mem hlt)
      have hkl := eInt_len _ HK.out
      have hnx := held_next eInt l k hlt
      generalize l[k] = x at *
      have HX := Lib.hid hnx; clear hnx
      go_wp2_with fail
      refine (int_any _ HK.out _ (ht.on bb)).mono ?_
      rintro e w5 ⟨s5, rfl, hs5, hb5⟩
      have hz5 := size_of hs5
      have hz6 : s5.size ≤ 21 := by omega
      clear hz5
      have H5 := Lib.hid hs5; clear hs5
      have ib5 := isB_below ib hb5
      have bb5 := bb.trans (hb5.mono bb.size)
      go_wp2_with fail
      refine (writeString _ _ _ s5 _ (.inr ib5) (by rw [bc_len]; omega) bb5.size).mono ?_
      rintro e w6 ⟨rfl, i6, hb6⟩
      have b6 := bb5.trans hb6
      have i7 : Lib.BuilderAt 68 5 w.heap.size w.heap.size (.pointer (some ⟨w.heap.size, 0, none⟩)) (Lib.byteCells (held eInt l (k + 1))) w6 := by
        rw [HX.out, bc_append, ← strCells_list s5 _ H5.out]
        exact i6
      clear i6 ib5 ib hcell
      go_wp2
      go_roundw
      case rel => exact ⟨k + 1, by omega, by go_num, i7, b6⟩
      case measure => simp [intOf]; omega
    · obtain rfl : k = l.length := by omega
      go_wp2_with fail
      refine (writeByte _ _ _ 93 _ (.inr ib) (by rw [bc_len]; omega) bb.size).mono ?_
      rintro e w5 ⟨rfl, i5, hb5⟩
      have b5 := bb.trans hb5
      have i6 : Lib.IsBuilder 68 5 w.heap.size w.heap.size (Lib.byteCells (eList eInt l)) w5 := by
        rw [← held_end, bc_append]
        exact .inr i5
      go_wp2_with fail
      refine (Tryd.Builder_String_any _ _ _ _ i6 b5.size).mono ?_
      rintro e w6 ⟨rfl, hb6⟩
      go_wp2
      go_ret
      exact ⟨_, rfl, rfl, b5.trans hb6⟩

/-- a string's encoding. -/
def eStr (x : ByteArray) : List UInt8 := eText x.data.toList
theorem fl_take_len {α : Type} (g : α → List UInt8) (l : List α) (k : Nat) : ((l.take k).flatMap g).length ≤ (l.flatMap g).length := by
  conv => rhs; rw [← List.take_append_drop k l, List.flatMap_append, List.length_append]
  omega
theorem heldS_len (l : List ByteArray) (k : Nat) (_hk : k ≤ l.length) (hl : l.length ≤ 1099511627776) (htot : (l.flatMap eStr).length ≤ 100000000000000) : (held eStr l k).length ≤ 100000000000021 := by
  have h1 := itoa_len (l.length : Int) (by unfold In64; omega)
  have h2 := fl_take_len eStr l k
  unfold held
  rw [List.length_append, List.length_cons]
  omega

set_option maxRecDepth 100000 in
set_option maxHeartbeats 2000000 in
theorem listStr_any (A : Option Addr) (cap : Nat) (l : List ByteArray) (w : World) (hA : Row w A (l.map Value.string)) (hin : ∀ x ∈ l, x.size ≤ 1099511627776) (htot : (l.flatMap eStr).length ≤ 100000000000000) (hl : l.length ≤ 1099511627776) (ht : Tab w) :
    Calls Tryd.prog 47 #[.slice A l.length cap, .func (.func 15) #[] #[]] w (StrIs (eList eStr l) w) := by
  have hin64 : In64 (l.length : Int) := by unfold In64; omega
  have HI := Lib.hid hin64; clear hin64
  have HN := Lib.hid hin; clear hin
  have HA := Lib.hid hA; clear hA
  go_enter Tryd.func47, Tryd.ntmps47
  go_wp2_with fail
  have b1 : Below w.heap.size w (w.alloc (.cells #[.pointer none, .slice none 0 0] 68)) := (Below.refl _ _).alloc (Nat.le_refl _) _
  have i1 := Lib.fresh_isBuilder 68 5 w
  refine (itoa_any _ HI.out _ (ht.on b1)).mono ?_
  rintro e w2 ⟨s, rfl, hs, hb⟩
  have i2 : Lib.IsBuilder 68 5 w.heap.size w.heap.size [] w2 := i1.imp (isB_below · hb) (isB_below · hb)
  have b2 : Below w.heap.size w w2 := b1.trans (hb.mono (by simp))
  have hz := size_of hs
  have hz2 := itoa_len _ HI.out
  have hz3 : s.size ≤ 20 := by omega
  clear hz hz2 i1 b1 hb
  have HS := Lib.hid hs; clear hs
  go_wp2_with fail
  refine (writeString _ _ _ s _ i2 (by simp; omega) b2.size).mono ?_
  rintro e w3 ⟨rfl, i3, hb3⟩
  have b3 := b2.trans hb3
  clear i2 b2 hb3
  go_wp2_with fail
  refine (writeByte _ _ _ 91 _ (.inr i3) (by simp [Lib.strCells_length]; omega) b3.size).mono ?_
  rintro e w4 ⟨rfl, i4, hb4⟩
  have b4 := b3.trans hb4
  have i5 : Lib.BuilderAt 68 5 w.heap.size w.heap.size (.pointer (some ⟨w.heap.size, 0, none⟩)) (Lib.byteCells (held eStr l 0)) w4 := by
    have e1 : Lib.byteCells (held eStr l 0) = [] ++ Lib.strCells s ++ [.int .u8 91] := by
      rw [strCells_list s _ HS.out]
      simp [held, Lib.byteCells]
    rw [e1]; exact i4
  clear i3 b3 hb4 i4
  go_wp2
  go_loopw [7, 15] (fun _ i wr => ∃ k : Nat, k ≤ l.length ∧ i = .int .i64 k ∧ Lib.BuilderAt 68 5 w.heap.size w.heap.size (.pointer (some ⟨w.heap.size, 0, none⟩)) (Lib.byteCells (held eStr l k)) wr ∧ Below w.heap.size w wr) (fun _ i _ => l.length - (intOf i).toNat)
  case atStart => exact ⟨0, Nat.zero_le _, rfl, i5, b4⟩
  case round =>
    obtain ⟨k, hk, rfl, ib, bb⟩ := hrel
    have hlen := heldS_len l k hk hl htot
    clear i5 b4
    by_cases hlt : k < l.length
    · obtain ⟨bk, off, rfl, hbk, hc⟩ := HA.out (by simp; omega)
      have hcell : wr.cell? ⟨bk, off + k, none⟩ = some (.string l[k]) := (bb.cell (p := ⟨bk, off + k, none⟩) hbk).trans (hc k _ (by simp [hlt]))
      clear hc
      have hks : l[k].size ≤ 1099511627776 := HN.out _ (List.getElem_mem hlt)
      have hlen2 := heldS_len l (k + 1) (by omega) hl htot
      have hnx := held_next eStr l k hlt
      generalize l[k] = x at *
      have hkl : (held eStr l k).length + (eStr x).length ≤ 100000000000021 := by rw [hnx, List.length_append] at hlen2; omega
      clear hlen2
      have HX := Lib.hid hnx; clear hnx
      go_wp2_with fail
      refine (text_any _ hks _ (ht.on bb)).mono ?_
      rintro e w5 ⟨s5, rfl, hs5, hb5⟩
      have hz5 := size_of hs5
      have hz7 : (eStr x).length = s5.size := hz5.symm
      have hz6 : (held eStr l k).length + s5.size ≤ 100000000000021 := by omega
      clear hz7
      clear hz5
      have H5 := Lib.hid hs5; clear hs5
      have ib5 := isB_below ib hb5
      have bb5 := bb.trans (hb5.mono bb.size)
      go_wp2_with fail
      refine (writeString _ _ _ s5 _ (.inr ib5) (by rw [bc_len]; omega) bb5.size).mono ?_
      rintro e w6 ⟨rfl, i6, hb6⟩
      have b6 := bb5.trans hb6
      have i7 : Lib.BuilderAt 68 5 w.heap.size w.heap.size (.pointer (some ⟨w.heap.size, 0, none⟩)) (Lib.byteCells (held eStr l (k + 1))) w6 := by
        rw [HX.out, bc_append, ← strCells_list s5 (eStr x) H5.out]
        exact i6
      clear i6 ib5 ib hcell
      go_wp2
      go_roundw
      case rel => exact ⟨k + 1, by omega, by go_num, i7, b6⟩
      case measure => simp [intOf]; omega
    · obtain rfl : k = l.length := by omega
      go_wp2_with fail
      refine (writeByte _ _ _ 93 _ (.inr ib) (by rw [bc_len]; omega) bb.size).mono ?_
      rintro e w5 ⟨rfl, i5, hb5⟩
      have b5 := bb.trans hb5
      have i6 : Lib.IsBuilder 68 5 w.heap.size w.heap.size (Lib.byteCells (eList eStr l)) w5 := by
        rw [← held_end, bc_append]
        exact .inr i5
      go_wp2_with fail
      refine (Tryd.Builder_String_any _ _ _ _ i6 b5.size).mono ?_
      rintro e w6 ⟨rfl, hb6⟩
      go_wp2
      go_ret
      exact ⟨_, rfl, rfl, b5.trans hb6⟩

set_option maxHeartbeats 400000 in
theorem nums_any (A : Option Addr) (cap : Nat) (l : List Int) (w : World) (hA : Row w A (l.map (Value.int .i64))) (hin : ∀ n ∈ l, In64 n) (hl : l.length ≤ 1099511627776) (ht : Tab w) :
    Calls Tryd.prog 17 #[.slice A l.length cap] w (StrIs (eList eInt l) w) := by
  have H := Lib.hid (listInt_any A cap l w hA hin hl ht)
  clear hA hin
  go_enter Tryd.func17, Tryd.ntmps17
  go_wp2_with fail
  refine H.out.mono ?_
  rintro e w2 ⟨s, rfl, hs, hb⟩
  have HS := Lib.hid hs; clear hs
  go_wp2
  go_ret
  exact ⟨_, rfl, HS.out, hb⟩

set_option maxHeartbeats 400000 in
theorem texts_any (A : Option Addr) (cap : Nat) (l : List ByteArray) (w : World) (hA : Row w A (l.map Value.string)) (hin : ∀ x ∈ l, x.size ≤ 1099511627776) (htot : (l.flatMap eStr).length ≤ 100000000000000) (hl : l.length ≤ 1099511627776) (ht : Tab w) :
    Calls Tryd.prog 19 #[.slice A l.length cap] w (StrIs (eList eStr l) w) := by
  have H := Lib.hid (listStr_any A cap l w hA hin htot hl ht)
  clear hA hin
  go_enter Tryd.func19, Tryd.ntmps19
  go_wp2_with fail
  refine H.out.mono ?_
  rintro e w2 ⟨s, rfl, hs, hb⟩
  have HS := Lib.hid hs; clear hs
  go_wp2
  go_ret
  exact ⟨_, rfl, HS.out, hb⟩

end Go.Proofs.YtdpedeknccnbhaaDoor
