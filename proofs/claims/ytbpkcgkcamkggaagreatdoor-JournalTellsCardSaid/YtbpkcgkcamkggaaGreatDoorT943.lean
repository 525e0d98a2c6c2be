/-
  The reference's journal (1): Sum, Form, Forms.
-/
import Derived.Test.YtbpkcgkcamkggaaGreatDoorT938
import Derived.Test.YtbpkcgkcamkggaaGreatDoorT942
set_option linter.unusedVariables false
set_option maxRecDepth 100000
namespace Go.Proofs.YtbpkcgkcamkggaaGreatDoor
open Go.RowKit W

set_option maxHeartbeats 2000000 in
theorem qsum_any (s : ByteArray) (w : World) (hs : s.size ≤ 1099511627776) :
    Calls Tryz.prog 11 #[.string s] w fun e w' => e = .returned (.int .i64 (rsum s.data.toList : Int)) ∧ w' = w := by
  go_enter Tryz.func11, Tryz.ntmps11
  go_wp2
  go_loopw [3, 4] (fun v i wr => ∃ k : Nat, k ≤ s.size ∧ i = .int .i64 k ∧ v = .int .i64 (rsum (s.data.toList.take k) : Int) ∧ wr = w) (fun _ i _ => s.size - (intOf i).toNat)
  case atStart => exact ⟨0, Nat.zero_le _, rfl, rfl, rfl⟩
  case round =>
    obtain ⟨k, hk, rfl, rfl, rfl⟩ := hrel
    by_cases hlt : k < s.size
    · have hsn := rsum_snoc (s.data.toList.take k) s[k]
      rw [← take_snoc s k hlt, List.length_take, list_size, Nat.min_eq_left hk] at hsn
      have hS := rsum_lt (s.data.toList.take k)
      have hN := Lib.hid hsn
      clear hsn
      generalize rsum (s.data.toList.take k) = S at *
      have hc := s[k].toNat_lt
      have hm : s[k].toNat * (k + 1) ≤ 255 * 1099511627776 := Nat.mul_le_mul (by omega) (by omega)
      have hm0 : (0 : Int) ≤ (s[k].toNat : Int) * ((k : Int) + 1) := by
        have : ((s[k].toNat * (k + 1) : Nat) : Int) = (s[k].toNat : Int) * ((k : Int) + 1) := by simp
        omega
      have hm1 : (s[k].toNat : Int) * ((k : Int) + 1) ≤ 255 * 1099511627776 := by
        have : ((s[k].toNat * (k + 1) : Nat) : Int) = (s[k].toNat : Int) * ((k : Int) + 1) := by simp
        omega
      have hi0 : (0 : Int) ≤ (k : Int) := by omega
      have hi1 : (k : Int) < (s.size : Int) := by omega
      go_wp2
      go_roundw
      case rel =>
        refine ⟨k + 1, by omega, by go_num, ?_, trivial⟩
        rw [hN.out]
        simp
      case measure => simp [intOf]; omega
    · obtain rfl : k = s.size := by omega
      have hl : s.data.toList.take s.size = s.data.toList := by rw [← list_size, List.take_length]
      rw [hl]
      go_wp2
      go_ret
      exact ⟨rfl, rfl⟩


set_option maxHeartbeats 1000000 in
theorem qform_any (s : ByteArray) (w : World) (hs : s.size ≤ 1073741824) :
    Calls Tryz.prog 41 #[.string s] w (W.StrIs (form s.data.toList) w) := by
  have hr := rsum_lt s.data.toList
  have hl : (form s.data.toList).length = (eText s.data.toList).length + (eNum (rsum s.data.toList : Int)).length := by unfold form; simp
  have hlen := form_len s.data.toList (by rw [list_size]; omega)
  rw [list_size] at hlen
  have HF : Hid (form s.data.toList = eText s.data.toList ++ eNum (rsum s.data.toList : Int)) := Lib.hid rfl
  go_enter Tryz.func41, Tryz.ntmps41
  go_wp2_with fail
  refine (rText_any s (by omega) w).mono ?_
  rintro e w1 ⟨t, rfl, ht, hb1⟩
  have hz1 := size_of ht
  have HA := Lib.hid ht
  have HB := Lib.hid hb1
  clear ht hb1
  go_wp2_with fail
  refine (qsum_any s w1 (by omega)).mono ?_
  rintro e w2 ⟨rfl, rfl⟩
  go_wp2_with fail
  refine (rNum_any _ (by unfold W.In64; omega) w2).mono ?_
  rintro e w3 ⟨u, rfl, hu, hb2⟩
  have hz2 := size_of hu
  have HU := Lib.hid hu
  have hz3 : t.size + u.size ≤ s.size + 41 := by omega
  clear hu hlen hl hz1 hz2
  have HB2 := Lib.hid (HB.out.trans (hb2.mono HB.out.size))
  clear hb2
  go_wp2
  go_ret
  exact ⟨_, rfl, by rw [HF.out, ← HA.out, ← HU.out]; simp, HB2.out⟩


set_option maxHeartbeats 2000000 in
/-- Forms. -/
theorem qforms_any {O : Nat → Prop} (A : Option Addr) (cap : Nat) (R : List (List UInt8)) (w : World) (hA : TRow O w A R) (hf : (forms R).length ≤ 1073741824) :
    Calls Tryz.prog 38 #[.slice A R.length cap] w (W.StrIs (forms R) w) := by
  have HA := Lib.hid hA; clear hA
  have hRl : R.length ≤ (forms R).length := forms_count
  go_enter Tryz.func38, Tryz.ntmps38
  go_wp2
  go_loopw [3, 4] (fun v i wr => ∃ (k : Nat) (s : ByteArray), k ≤ R.length ∧ i = .int .i64 k ∧ v = .string s ∧ Hid (s.data.toList = forms (R.take k)) ∧ Hid (Below w.heap.size w wr)) (fun _ i _ => R.length - (intOf i).toNat)
  case atStart => exact ⟨0, ⟨#[]⟩, Nat.zero_le _, rfl, rfl, Lib.hid rfl, Lib.hid (Below.refl _ _)⟩
  case round =>
    obtain ⟨k, s, hk, rfl, rfl, hs, hb⟩ := hrel
    by_cases hlt : k < R.length
    · obtain ⟨b, off, rfl, hbl, _, hc⟩ := HA.out (by omega)
      obtain ⟨u, hu⟩ : ∃ u : ByteArray, u = bs R[k] := ⟨_, rfl⟩
      have hut : u.data.toList = R[k] := by rw [hu]; rfl
      have k1 : wr.cell? ⟨b, off + k, none⟩ = some (.string u) := by rw [hu]; exact (hb.out.cell (p := ⟨b, off + k, none⟩) hbl).trans (hc k hlt)
      have hsn : forms (R.take (k + 1)) = forms (R.take k) ++ form R[k] := by rw [List.take_succ_eq_append_getElem hlt, forms_snoc]
      have hle : (forms (R.take (k + 1))).length ≤ (forms R).length := by
        conv => rhs; rw [← List.take_append_drop (k + 1) R, forms_append, List.length_append]
        omega
      rw [hsn, List.length_append] at hle
      have hfl : u.size ≤ (form R[k]).length := by
        have h1 : R[k].length = u.size := by rw [← hut]; exact list_size u
        rw [form_eq, List.length_append, List.length_cons, List.length_append]
        omega
      have hss := list_size s
      rw [hs.out] at hss
      rw [← hut] at hsn hle hfl
      have HSN := Lib.hid hsn
      clear hc hu hut hsn
      generalize R[k] = t0 at *
      have hi0 : (0 : Int) ≤ (k : Int) := by omega
      have hi1 : (k : Int) < (R.length : Int) := by omega
      have HF := Lib.hid (qform_any u wr (by omega))
      go_wp2_with fail
      refine HF.out.mono ?_
      rintro e w2 ⟨v, rfl, hv, hb2⟩
      have hvz := list_size v
      rw [hv] at hvz
      have HS2 : Hid ((s ++ v).data.toList = forms (R.take (k + 1))) := Lib.hid (by rw [HSN.out, ← hs.out, ← hv]; simp)
      have HB2 := Lib.hid (hb.out.trans (hb2.mono hb.out.size))
      clear hv hb2 HF
      go_wp2
      go_roundw
      case rel => exact ⟨k + 1, s ++ v, by omega, by go_num, rfl, HS2, HB2⟩
      case measure => simp [intOf]; omega
    · obtain rfl : k = R.length := by omega
      rw [List.take_length] at hs
      go_wp2
      go_ret
      exact ⟨s, rfl, hs.out, hb.out⟩

end Go.Proofs.YtbpkcgkcamkggaaGreatDoor
