/-
  Layer 14: contracts of the reference's Word and Number.
-/
import Derived.Test.YtfmocnbhahcgoaaDoorG8
set_option linter.unusedVariables false
set_option maxRecDepth 100000
namespace Go.Proofs.YtfmocnbhahcgoaaDoor
open Go.RowKit

theorem at_list {s : ByteArray} {i : Nat} (h : i < s.size) : s.data.toList[i]? = some (s[i]'h) := by
  rw [List.getElem?_eq_getElem (by rw [size_list]; exact h)]; rfl
theorem all_of {f : UInt8 → Bool} {s : ByteArray} (h : ∀ j (hj : j < s.size), f (s[j]'hj) = true) : s.data.toList.all f = true := by
  rw [List.all_eq_true]
  intro b hb
  obtain ⟨i, hi, rfl⟩ := List.getElem_of_mem hb
  rw [size_list] at hi
  have := at_list hi
  rw [List.getElem?_eq_getElem (by rw [size_list]; exact hi)] at this
  injection this with this
  rw [this]; exact h i hi
theorem not_all {f : UInt8 → Bool} {s : ByteArray} {i : Nat} (hi : i < s.size) (h : f (s[i]'hi) = false) : s.data.toList.all f = false := by
  rw [Bool.eq_false_iff]
  intro h2
  rw [List.all_eq_true] at h2
  have := h2 _ (List.mem_of_getElem? (at_list hi))
  rw [h] at this; cases this
theorem hd_of {f : UInt8 → Bool} {s : ByteArray} (h : 0 < s.size) : hdB f s.data.toList = f (s[0]'h) := by
  have := at_list h
  cases hl : s.data.toList with
  | nil => rw [hl] at this; cases this
  | cons b r => rw [hl] at this; simp at this; rw [← this]; rfl
set_option maxHeartbeats 16000000 in
theorem rword_any (s : ByteArray) (w : World) (hs : s.size ≤ 1099511627776) : Calls Tryd.prog 17 #[.string s] w (BlIs (wordB s.data.toList) w) := by
  have H1 := Lib.hid letter_any
  have H2 := Lib.hid digit_any
  have HSZ := Lib.hid (size_list s)
  by_cases h0 : 0 < s.size
  case neg =>
    have HF : Hid (wordB s.data.toList = false) := Lib.hid (by
      have : s.data.toList = [] := List.eq_nil_of_length_eq_zero (by rw [HSZ.out]; omega)
      rw [this]; rfl)
    go_enter Tryd.func17, Tryd.ntmps17
    go_wp2_with fail
    go_ret
    exact ⟨by rw [HF.out]; rfl, Below.refl _ _⟩
  case pos =>
  by_cases h20 : s.size ≤ 20
  case neg =>
    have HF : Hid (wordB s.data.toList = false) := Lib.hid (by unfold wordB; rw [HSZ.out, decide_eq_false h20, Bool.and_false])
    go_enter Tryd.func17, Tryd.ntmps17
    go_wp2_with fail
    go_ret
    exact ⟨by rw [HF.out]; rfl, Below.refl _ _⟩
  case pos =>
  have HH := Lib.hid (hd_of (f := ltr) h0)
  have HC := Lib.hid (H1.out (s[0]'h0) w)
  go_enter Tryd.func17, Tryd.ntmps17
  go_wp2_with fail
  refine HC.out.mono ?_
  rintro e w1 ⟨rfl, hb1⟩
  have HB1 := Lib.hid hb1; clear hb1 HC
  cases hl : ltr (s[0]'h0) with
  | false =>
    have HF : Hid (wordB s.data.toList = false) := Lib.hid (by unfold wordB; rw [HH.out, hl]; rfl)
    go_wp2_with fail
    go_ret
    exact ⟨by rw [HF.out]; rfl, HB1.out⟩
  | true =>
    have HW : Hid (s.data.toList.all aln = true → wordB s.data.toList = true) := Lib.hid (fun h => by unfold wordB; rw [HH.out, hl, h, HSZ.out, decide_eq_true h20]; rfl)
    have HN : Hid (s.data.toList.all aln = false → wordB s.data.toList = false) := Lib.hid (fun h => by unfold wordB; rw [h, Bool.and_false]; rfl)
    have HA0 : Hid (∀ j (hj : j < s.size), j < 1 → aln (s[j]'hj) = true) := Lib.hid (fun j hj h => by
      obtain rfl : j = 0 := by omega
      unfold aln; rw [hl]; rfl)
    clear HH hl
    go_wp2_with fail
    go_loopw [3] (fun i wr => ∃ (k : Nat), 1 ≤ k ∧ k ≤ s.size ∧ i = .int .i64 k ∧ Hid (∀ j (hj : j < s.size), j < k → aln (s[j]'hj) = true) ∧ Hid (Below w.heap.size w wr)) (fun i _ => s.size - (intOf i).toNat)
    case atStart => exact ⟨1, Nat.le_refl _, h0, rfl, HA0, HB1⟩
    case round =>
      clear HA0
      obtain ⟨k, hk1, hk2, rfl, HA, HB⟩ := hrel
      by_cases hlt : k < s.size
      · have HLC := Lib.hid (H1.out (s[k]'hlt))
        have HDC := Lib.hid (H2.out (s[k]'hlt))
        have n0 : (0 : Int) ≤ (k : Int) := by omega
        have n1 : (k : Int) < (s.size : Int) := by omega
        have HNA := Lib.hid (not_all (f := aln) hlt)
        have HNX : Hid (aln (s[k]'hlt) = true → ∀ j (hj : j < s.size), j < k + 1 → aln (s[j]'hj) = true) := Lib.hid (fun h j hj hjk => by
          by_cases e : j = k
          · subst e; exact h
          · exact HA.out j hj (by omega))
        go_wp2_with fail
        refine (HLC.out _).mono ?_
        rintro e w2 ⟨rfl, hb2⟩
        have HB2 := Lib.hid (HB.out.trans (hb2.mono HB.out.size)); clear hb2 HB
        cases hl : ltr (s[k]'hlt) with
        | true =>
          have HX := Lib.hid (HNX.out (by unfold aln; rw [hl]; rfl))
          clear hl HNX HNA HA
          go_wp2_with fail
          go_roundw
          case rel => exact ⟨k + 1, by omega, by omega, by go_num, HX, HB2⟩
          case measure => simp [intOf]; omega
        | false =>
          go_wp2_with fail
          refine (HDC.out _).mono ?_
          rintro e w3 ⟨rfl, hb3⟩
          have HB3 := Lib.hid (HB2.out.trans (hb3.mono HB2.out.size)); clear hb3 HB2
          cases hd : dgt (s[k]'hlt) with
          | true =>
            have HX := Lib.hid (HNX.out (by unfold aln; rw [hd, Bool.or_true]))
            clear hl hd HNX HNA HA
            go_wp2_with fail
            go_roundw
            case rel => exact ⟨k + 1, by omega, by omega, by go_num, HX, HB3⟩
            case measure => simp [intOf]; omega
          | false =>
            have HF := Lib.hid (HN.out (HNA.out (by unfold aln; rw [hl, hd]; rfl)))
            clear hl hd HNX HNA HA
            go_wp2_with fail
            go_ret
            exact ⟨by rw [HF.out]; rfl, HB3.out⟩
      · have HF := Lib.hid (HW.out (all_of (fun j hj => HA.out j hj (by omega))))
        clear HA
        go_wp2_with fail
        go_ret
        exact ⟨by rw [HF.out]; rfl, HB.out⟩
/-! ### Number -/
theorem take_byte {s : ByteArray} {k : Nat} (hk : k < s.size) : s.data.toList.take (k + 1) = s.data.toList.take k ++ [s[k]'hk] := by
  rw [List.take_add_one, at_list hk]; rfl
theorem valD_take_le (l : List UInt8) (k : Nat) : valD (l.take k) ≤ valD l := by
  unfold valD
  conv => rhs; rw [← List.take_append_drop k l, List.foldl_append]
  exact foldD_le _ _
theorem numB_eq (l : List UInt8) : numB l = (!l.isEmpty && l.all dgt && (decide (l.length = 1) || !hdB (· == 48) l) && decide (valD l ≤ 1099511627776)) := rfl
set_option maxHeartbeats 16000000 in
theorem rnumber_any (s : ByteArray) (w : World) (hs : s.size ≤ 1099511627776) : Calls Tryd.prog 14 #[.string s] w (NumIs (numB s.data.toList) (numV s.data.toList) w) := by
  have H2 := Lib.hid digit_any
  have HSZ := Lib.hid (size_list s)
  have HF : Hid (numB s.data.toList = false → ∀ w', Below w.heap.size w w' → NumIs (numB s.data.toList) (numV s.data.toList) w (.returned (.tuple #[.int .i64 0, .bool false])) w') := Lib.hid (fun h w' hb => ⟨by unfold numV; rw [h]; rfl, hb⟩)
  go_enter Tryd.func14, Tryd.ntmps14
  go_wp2_with fail
  go_loopw [4, 5] (fun n i wr => ∃ (k v : Nat), k ≤ s.size ∧ v ≤ 10995116277800 ∧ i = .int .i64 k ∧ n = .int .i64 v ∧ Hid (v = valD (s.data.toList.take k) ∧ ∀ j (hj : j < s.size), j < k → dgt (s[j]'hj) = true) ∧ Hid (Below w.heap.size w wr)) (fun _ i _ => s.size - (intOf i).toNat)
  case atStart => exact ⟨0, 0, Nat.zero_le _, by omega, rfl, rfl, Lib.hid ⟨rfl, fun j hj h => by omega⟩, Lib.hid (Below.refl _ _)⟩
  case round =>
    obtain ⟨k, v, hk, hv, rfl, rfl, HV, HB⟩ := hrel
    by_cases hlt : k < s.size
    · have HDC := Lib.hid (H2.out (s[k]'hlt))
      have n0 : (0 : Int) ≤ (k : Int) := by omega
      have n1 : (k : Int) < (s.size : Int) := by omega
      have HNA := Lib.hid (not_all (f := dgt) hlt)
      have HNX : Hid (dgt (s[k]'hlt) = true → (10 * v + ((s[k]'hlt).toNat - 48) = valD (s.data.toList.take (k + 1)) ∧ ∀ j (hj : j < s.size), j < k + 1 → dgt (s[j]'hj) = true)) := Lib.hid (fun h => ⟨by rw [take_byte hlt, valD_snoc, ← HV.out.1], fun j hj hjk => by
        by_cases e : j = k
        · subst e; exact h
        · exact HV.out.2 j hj (by omega)⟩)
      have HBG : Hid (1099511627776 < v → numB s.data.toList = false) := Lib.hid (fun h => by
        have := valD_take_le s.data.toList k
        rw [← HV.out.1] at this
        rw [numB_eq, decide_eq_false (by omega : ¬ valD s.data.toList ≤ 1099511627776), Bool.and_false])
      go_wp2_with fail
      refine (HDC.out _).mono ?_
      rintro e w2 ⟨rfl, hb2⟩
      have HB2 := Lib.hid (HB.out.trans (hb2.mono HB.out.size)); clear hb2 HB HDC
      cases hd : dgt (s[k]'hlt) with
      | false =>
        have HX := Lib.hid (HF.out (by rw [numB_eq, HNA.out hd, Bool.and_false]; rfl))
        clear hd HNA HNX HBG
        go_wp2_with fail
        go_ret2
        exact HX.out _ HB2.out
      | true =>
        have hdd := dgt_iff.1 hd
        have HX := Lib.hid (HNX.out hd)
        by_cases hbig : v ≤ 1099511627776
        · have q0 : (48 : Int) ≤ ((s[k]'hlt).toNat : Int) := by omega
          have q1 : ((s[k]'hlt).toNat : Int) ≤ 57 := by omega
          have HQ : Hid (10 * (v : Int) + ((s[k]'hlt).toNat : Int) - 48 = ((10 * v + ((s[k]'hlt).toNat - 48) : Nat) : Int)) := Lib.hid (by omega)
          have HQ2 : Hid (10 * v + ((s[k]'hlt).toNat - 48) ≤ 10995116277800) := Lib.hid (by omega)
          clear hd hdd HNA HNX HBG HV
          go_wp2_with fail
          go_roundw
          case rel => exact ⟨k + 1, _, by omega, HQ2.out, by go_num, by rw [← HQ.out], HX, HB2⟩
          case measure => simp [intOf]; omega
        · have HX2 := Lib.hid (HF.out (HBG.out (by omega)))
          have q3 : (1099511627776 : Int) < (v : Int) := by omega
          clear hd hdd HNA HNX HBG HV
          go_wp2_with fail
          go_ret2
          exact HX2.out _ HB2.out
    · obtain rfl : k = s.size := by omega
      have HVV : Hid (v = valD s.data.toList) := Lib.hid (by have := HV.out.1; rw [List.take_of_length_le (by rw [HSZ.out]; omega)] at this; exact this)
      have HAL : Hid (s.data.toList.all dgt = true) := Lib.hid (all_of (fun j hj => HV.out.2 j hj hj))
      clear HV
      by_cases h0 : 0 < s.size
      case neg =>
        have HX := Lib.hid (HF.out (by
          have : s.data.toList = [] := List.eq_nil_of_length_eq_zero (by rw [HSZ.out]; omega)
          rw [this]; rfl))
        go_wp2_with fail
        go_ret2
        exact HX.out _ HB.out
      case pos =>
      have HH := Lib.hid (hd_of (f := (· == 48)) h0)
      have HNE : Hid (s.data.toList.isEmpty = false) := Lib.hid (by rw [List.isEmpty_eq_false_iff]; intro h; have := HSZ.out; rw [h] at this; simp at this; omega)
      have HB48 : Hid ((s[0]'h0 == 48) = decide ((s[0]'h0).toNat = 48)) := Lib.hid (byte_eq _ 48 (by omega))
      have HNB : Hid (numB s.data.toList = ((decide (s.size = 1) || !decide ((s[0]'h0).toNat = 48)) && decide (v ≤ 1099511627776))) := Lib.hid (by
        rw [numB_eq, HNE.out, HAL.out, HSZ.out, HH.out, HB48.out, ← HVV.out]; rfl)
      clear HH HNE HB48 HAL
      have HV2 : Hid (numB s.data.toList = true → NumIs (numB s.data.toList) (numV s.data.toList) w (.returned (.tuple #[.int .i64 v, .bool true])) wr) := Lib.hid (fun h => ⟨by unfold numV; rw [h, if_pos rfl, ← HVV.out], HB.out⟩)
      have HF2 : Hid (numB s.data.toList = false → NumIs (numB s.data.toList) (numV s.data.toList) w (.returned (.tuple #[.int .i64 0, .bool false])) wr) := Lib.hid (fun h => HF.out h _ HB.out)
      clear HF HVV
      by_cases h1 : s.size = 1
      · have g1 : ¬ (1 : Int) < (s.size : Int) := by omega
        by_cases hv40 : v ≤ 1099511627776
        · have HX := Lib.hid (HV2.out (by rw [HNB.out, decide_eq_true h1, decide_eq_true hv40]; rfl))
          clear HNB HV2 HF2 HB h1
          go_wp2_with fail
          go_ret2
          exact HX.out
        · have HX := Lib.hid (HF2.out (by rw [HNB.out, decide_eq_false hv40, Bool.and_false]))
          have g2 : (1099511627776 : Int) < (v : Int) := by omega
          clear HNB HV2 HF2 HB h1
          go_wp2_with fail
          go_ret2
          exact HX.out
      · have g1 : (1 : Int) < (s.size : Int) := by omega
        by_cases hz : (s[0]'h0).toNat = 48
        · have HX := Lib.hid (HF2.out (by rw [HNB.out, decide_eq_false h1, decide_eq_true hz]; rfl))
          have g3 : (((s[0]'h0).toNat : Int) == 48) = true := by rw [beq_iff_eq]; omega
          clear HNB HV2 HF2 HB h1 hz
          go_wp2_with fail
          go_ret2
          exact HX.out
        · have g3 : (((s[0]'h0).toNat : Int) == 48) = false := by rw [beq_eq_false_iff_ne]; omega
          by_cases hv40 : v ≤ 1099511627776
          · have HX := Lib.hid (HV2.out (by rw [HNB.out, decide_eq_false h1, decide_eq_false hz, decide_eq_true hv40]; rfl))
            clear HNB HV2 HF2 HB h1 hz
            go_wp2_with fail
            go_ret2
            exact HX.out
          · have HX := Lib.hid (HF2.out (by rw [HNB.out, decide_eq_false hv40, Bool.and_false]))
            have g2 : (1099511627776 : Int) < (v : Int) := by omega
            clear HNB HV2 HF2 HB h1 hz
            go_wp2_with fail
            go_ret2
            exact HX.out
end Go.Proofs.YtfmocnbhahcgoaaDoor
