/-
  The program's journal (layer 3): its functions on strings: Sum, form, failed.
-/
import Derived.Test.YtbpkcgkcamkggaaGreatDoorT928
import Derived.Test.YtbpkcgkcamkggaaGreatDoorT932
import Derived.Test.YtbpkcgkcamkggaaGreatDoorT901
set_option linter.unusedVariables false
set_option maxRecDepth 100000
namespace Go.Proofs.YtbpkcgkcamkggaaGreatDoor
open Go.RowKit W

theorem list_size (s : ByteArray) : s.data.toList.length = s.size := Array.length_toList

set_option maxHeartbeats 2000000 in
theorem jsum_any (s : ByteArray) (w : World) (hs : s.size ≤ 1099511627776) :
    Calls Tryz.prog 10 #[.string s] w fun e w' => e = .returned (.int .i64 (rsum s.data.toList : Int)) ∧ w' = w := by
  go_enter Tryz.func10, Tryz.ntmps10
  go_wp2
  go_loopw [3, 4, 7] (fun v _ i wr => ∃ k : Nat, k ≤ s.size ∧ i = .int .i64 k ∧ v = .int .i64 (rsum (s.data.toList.take k) : Int) ∧ wr = w) (fun _ _ i _ => s.size - (intOf i).toNat)
  case atStart => exact ⟨0, Nat.zero_le _, rfl, rfl, rfl⟩
  case round =>
    obtain ⟨k, hk, rfl, rfl, rfl⟩ := hrel
    by_cases hlt : k < s.size
    · have hsn := rsum_snoc (s.data.toList.take k) s[k]
      rw [← take_snoc s k hlt, List.length_take, list_size, Nat.min_eq_left hk] at hsn
      have hS := rsum_lt (s.data.toList.take k)
      have hN := Lib.hid hsn
      clear hsn
      generalize rsum (s.data.toList.take k) = S at *
      have hc := s[k].toNat_lt
      have hm : s[k].toNat * (k + 1) ≤ 255 * 1099511627776 := Nat.mul_le_mul (by omega) (by omega)
      have hm0 : (0 : Int) ≤ (s[k].toNat : Int) * ((k : Int) + 1) := by
        have : ((s[k].toNat * (k + 1) : Nat) : Int) = (s[k].toNat : Int) * ((k : Int) + 1) := by simp
        omega
      have hm1 : (s[k].toNat : Int) * ((k : Int) + 1) ≤ 255 * 1099511627776 := by
        have : ((s[k].toNat * (k + 1) : Nat) : Int) = (s[k].toNat : Int) * ((k : Int) + 1) := by simp
        omega
      have hi0 : (0 : Int) ≤ (k : Int) := by omega
      have hi1 : (k : Int) < (s.size : Int) := by omega
      go_wp2
      go_roundw
      case rel =>
        refine ⟨k + 1, by omega, by go_num, ?_, trivial⟩
        rw [hN.out]
        simp
      case measure => simp [intOf]; omega
    · obtain rfl : k = s.size := by omega
      have hl : s.data.toList.take s.size = s.data.toList := by rw [← list_size, List.take_length]
      rw [hl]
      go_wp2
      go_ret
      exact ⟨rfl, rfl⟩


set_option maxHeartbeats 1000000 in
theorem jform_any (s : ByteArray) (w : World) (hs : s.size ≤ 1073741824) (ht : Tab w) :
    Calls Tryz.prog 40 #[.string s] w (W.StrIs (form s.data.toList) w) := by
  have hr := rsum_lt s.data.toList
  have hl : (form s.data.toList).length = (eText s.data.toList).length + (eNum (rsum s.data.toList : Int)).length := by unfold form; simp
  have hlen := form_len s.data.toList (by rw [list_size]; omega)
  rw [list_size] at hlen
  have HF : Hid (form s.data.toList = eText s.data.toList ++ eNum (rsum s.data.toList : Int)) := Lib.hid rfl
  have HT := Lib.hid ht
  clear ht
  go_enter Tryz.func40, Tryz.ntmps40
  go_wp2_with fail
  refine (text_any s (by omega) w HT.out).mono ?_
  rintro e w1 ⟨t, rfl, ht, hb1⟩
  have hz1 := size_of ht
  have HA := Lib.hid ht
  have HB := Lib.hid hb1
  clear ht hb1
  go_wp2_with fail
  refine (jsum_any s w1 (by omega)).mono ?_
  rintro e w2 ⟨rfl, rfl⟩
  go_wp2_with fail
  refine (num_any _ (by unfold W.In64; omega) w2 (HT.out.on HB.out)).mono ?_
  rintro e w3 ⟨u, rfl, hu, hb2⟩
  have hz2 := size_of hu
  have HU := Lib.hid hu
  have hz3 : t.size + u.size ≤ s.size + 41 := by omega
  clear hu hlen hl hz1 hz2
  have HB2 := Lib.hid (HB.out.trans (hb2.mono HB.out.size))
  clear hb2
  go_wp2
  go_ret
  exact ⟨_, rfl, by rw [HF.out, ← HA.out, ← HU.out]; simp, HB2.out⟩

set_option maxHeartbeats 1000000 in
/-- failed: a reader that is done has not failed. -/
theorem jfailed_any (r : Nat) (s : ByteArray) (f : Bool) (w : World) (hr : RdrAt 109 r s f w) (hs : s.size ≤ 1099511627776) :
    Calls Tryz.prog 56 #[.pointer (some ⟨r, 0, none⟩)] w fun e w' => e = .returned (.bool (decide (s.size = 0) && f)) ∧ w' = w := by
  have HR := Lib.hid hr
  clear hr
  by_cases h0 : s.size = 0
  · have hemp : s.toList.isEmpty = true := by
      have : s.data.toList = [] := List.eq_nil_of_length_eq_zero (by rw [list_size]; exact h0)
      have h2 : s = ⟨#[]⟩ := ByteArray.ext (Array.toList_inj.1 this)
      rw [h2]; decide +kernel
    have HE := Lib.hid hemp
    clear hemp
    have h0' : (s.size : Int) = 0 := by omega
    go_enter Tryz.func56, Tryz.ntmps56
    go_wp2_with fail
    refine (left_any r s f w HR.out).mono ?_
    rintro e w1 ⟨rfl, rfl⟩
    go_wp2_with fail
    refine (done_any r s f w HR.out).mono ?_
    rintro e w1 ⟨rfl, rfl⟩
    rw [HE.out]
    go_wp2
    go_ret
    exact ⟨by rw [h0]; cases f <;> rfl, rfl⟩
  · have h0' : (s.size : Int) ≠ 0 := by omega
    have h1 : ((s.size : Int) == 0) = false := beq_eq_false_iff_ne.2 h0'
    go_enter Tryz.func56, Tryz.ntmps56
    go_wp2_with fail
    refine (left_any r s f w HR.out).mono ?_
    rintro e w1 ⟨rfl, rfl⟩
    go_wp2
    go_ret
    exact ⟨by simp [h0], rfl⟩

end Go.Proofs.YtbpkcgkcamkggaaGreatDoor
