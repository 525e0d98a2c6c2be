/-
  Contracts of the reference's reader (2): Back, ahead, number.
-/
import Derived.Test.YtbpkcgkcamkggaaGreatDoorT940
set_option linter.unusedVariables false
namespace Go.Proofs.YtbpkcgkcamkggaaGreatDoor.W
open Go.RowKit Go.Sort

/-- what Back comes to. -/
def BackPost (s : ByteArray) (w : World) (e : Ending) (w' : World) : Prop :=
  ∃ (v : Int) (ok : Bool), e = .returned (.tuple #[.int .i64 v, .bool ok]) ∧ (ok = true → s.data.toList = Lib.itoa v ∧ In64 v) ∧ (∀ u, In64 u → s.data.toList = Lib.itoa u → ok = true ∧ v = u) ∧ Below w.heap.size w w'

theorem back_no {s : ByteArray} {w w' : World} {v : Int} (h : ∀ u, In64 u → s.data.toList ≠ Lib.itoa u) (hb : Below w.heap.size w w') : BackPost s w (.returned (.tuple #[.int .i64 v, .bool false])) w' :=
  ⟨v, false, rfl, (fun h => nomatch h), fun u hu he => absurd he (h u hu), hb⟩

/-- the digits read so far. -/
def seen (s : ByteArray) (F k : Nat) : List UInt8 := (s.data.toList.take k).drop F
theorem seen_next (s : ByteArray) (F k : Nat) (hF : F ≤ k) (h : k < s.size) : seen s F (k + 1) = seen s F k ++ [s[k]] := by
  unfold seen
  rw [List.take_succ_eq_append_getElem (by rw [size_list]; exact h), List.drop_append_of_le_length (by rw [List.length_take, size_list]; omega)]
  rfl
theorem seen_end (s : ByteArray) (F : Nat) : seen s F s.size = s.data.toList.drop F := by
  unfold seen; rw [List.take_of_length_le (by rw [size_list]; omega)]

set_option maxRecDepth 100000 in
set_option maxHeartbeats 8000000 in
theorem back_any (s : ByteArray) (hsz : s.size ≤ 1099511627776) (w : World) : Calls Tryz.prog 91 #[.string s] w (BackPost s w) := by
  rcases Nat.eq_zero_or_pos s.size with h0 | hpos
  · obtain rfl := empty_of (List.eq_nil_of_length_eq_zero (by rw [size_list]; exact h0))
    clear h0
    go_enter Tryz.func91, Tryz.ntmps91
    go_wp2
    go_loop [5, 6] (fun n i => i = .int .i64 0 ∧ n = .int .i64 0) (fun _ _ => 0)
    case atStart => exact ⟨rfl, rfl⟩
    case round =>
      obtain ⟨rfl, rfl⟩ := hrel
      go_wp2_with fail
      refine (rInt_any 0 (by unfold In64; omega) _).mono ?_
      rintro e w5 ⟨s5, rfl, hs5, hb5⟩
      have hne : (([48, 59] : List UInt8) == (ByteArray.mk #[] ++ ByteArray.mk #[59]).toList) = false := by rw [Lib.toList_data]; rfl
      obtain rfl := str_eq (hs5.trans (show eInt 0 = [48, 59] by simp [eInt, Lib.itoa, Lib.decDigits]))
      clear hs5
      go_wp2
      go_ret2
      refine back_no (fun u hu he => ?_) hb5
      have := (itoa_len u hu).1
      rw [← he] at this
      simp at this
  · by_cases h45 : s[0] = 45
    · have hi0 : (0 : Int) < (s.size : Int) := by omega
      have hb0 : ((s[0].toNat : Int) == 45) = true := by rw [h45]; rfl
      have HF : Hid (fromOf s.data.toList = 1) := Lib.hid (by
        unfold fromOf
        rw [List.head?_eq_getElem?, List.getElem?_eq_getElem (by rw [size_list]; exact hpos), get_list s 0 hpos, h45]; rfl)
      clear h45
      go_enter Tryz.func91, Tryz.ntmps91
      go_wp2
      go_loop [5, 6] (fun n i => ∃ (k : Nat), 1 ≤ k ∧ k ≤ s.size ∧ i = .int .i64 k ∧ n = .int .i64 (bacc (seen s 1 k))) (fun _ i => s.size - (intOf i).toNat)
      case atStart => exact ⟨1, Nat.le_refl _, by omega, rfl, by simp [seen, bacc]⟩
      case round =>
        obtain ⟨k, hFk, hk, rfl, rfl⟩ := hrel
        by_cases hlt : k < s.size
        · have HB : Hid (isD s[k] = false ∨ 20 < k → ∀ u, In64 u → s.data.toList ≠ Lib.itoa u) := Lib.hid (fun hbad u hu => back_early (i := k) (by rw [size_list]; exact hlt) (by rw [HF.out]; exact hFk) hbad hu)
          have hnx := seen_next s 1 k hFk hlt
          have hbn := bacc_snoc (seen s 1 k) s[k]
          rw [← hnx] at hbn
          have hin := bacc_in (seen s 1 k)
          generalize bacc (seen s 1 k) = N at *
          have HN2 := Lib.hid hbn
          have hin1 := hin.1
          have hin2 := hin.2
          clear hbn hin hnx
          by_cases h48 : (48 : Int) ≤ (s[k].toNat : Int)
          · by_cases h57 : (s[k].toNat : Int) ≤ 57
            · by_cases h20 : (20 : Int) < (k : Int)
              · go_wp2
                go_ret2
                exact back_no (HB.out (.inr (by omega))) (Below.refl _ _)
              · have h20' : (k : Int) ≤ 20 := by omega
                go_wp2
                go_round
                case rel => exact ⟨k + 1, by omega, by omega, by go_num, by rw [HN2.out]⟩
                case measure => simp [intOf]; omega
            · have h57' : (57 : Int) < (s[k].toNat : Int) := by omega
              go_wp2
              go_ret2
              exact back_no (HB.out (.inl (notD_of _ (.inr h57')))) (Below.refl _ _)
          · have h48' : (s[k].toNat : Int) < 48 := by omega
            go_wp2
            go_ret2
            exact back_no (HB.out (.inl (notD_of _ (.inl h48')))) (Below.refl _ _)
        · obtain rfl : k = s.size := by omega
          have hv := fun (u : Int) (hu : In64 u) (he : s.data.toList = Lib.itoa u) => back_value hu he
          rw [HF.out, if_neg (by decide)] at hv
          have hse := seen_end s 1
          have hN : Hid (seen s 1 s.size = s.data.toList.drop 1) := Lib.hid hse
          rw [← hse] at hv
          have HV := Lib.hid hv
          clear hv hse
          have hin := bacc_in (seen s 1 s.size)
          generalize bacc (seen s 1 s.size) = N at *
          have HIN := Lib.hid hin; clear hin
          go_wp2_with fail
          refine (rInt_any N HIN.out _).mono ?_
          rintro e w5 ⟨s5, rfl, hs5, hb5⟩
          have hz5 := size_of hs5
          have hz6 := eInt_len N HIN.out
          have hz7 : s5.size ≤ 21 := by omega
          clear hz5 hz6
          by_cases hq : s.data.toList = Lib.itoa N
          · obtain rfl : s5 = s ++ ⟨#[59]⟩ := ByteArray.ext (Array.toList_inj.1 (by rw [hs5, eInt, ← hq]; simp))
            have HQ := Lib.hid hq
            clear hs5 hq
            go_wp2
            go_ret2
            exact ⟨N, true, rfl, fun _ => ⟨HQ.out, HIN.out⟩, fun u hu he => ⟨rfl, HV.out u hu he⟩, hb5⟩
          · have hne : (s5.toList == (s ++ ⟨#[59]⟩).toList) = false := by
              rw [beq_eq_false_iff_ne]
              intro h
              rw [Lib.toList_data, Lib.toList_data, hs5, eInt] at h
              exact hq (by simpa using h.symm)
            have HQ := Lib.hid hq
            clear hs5 hq
            go_wp2
            go_ret2
            exact ⟨N, false, rfl, (fun h => nomatch h), fun u hu he => absurd (by rw [he, HV.out u hu he]) HQ.out, hb5⟩
    · have hi0 : (0 : Int) < (s.size : Int) := by omega
      have hb0 : ((s[0].toNat : Int) == 45) = false := by rw [beq_eq_false_iff_ne]; intro h; exact h45 (UInt8.toNat_inj.1 (by show s[0].toNat = 45; omega))
      have HF : Hid (fromOf s.data.toList = 0) := Lib.hid (by
        unfold fromOf
        rw [List.head?_eq_getElem?, List.getElem?_eq_getElem (by rw [size_list]; exact hpos), get_list s 0 hpos]
        exact if_neg (fun e => h45 (Option.some.inj e)))
      clear h45
      go_enter Tryz.func91, Tryz.ntmps91
      go_wp2
      go_loop [5, 6] (fun n i => ∃ (k : Nat), 0 ≤ k ∧ k ≤ s.size ∧ i = .int .i64 k ∧ n = .int .i64 (bacc (seen s 0 k))) (fun _ i => s.size - (intOf i).toNat)
      case atStart => exact ⟨0, Nat.le_refl _, by omega, rfl, by simp [seen, bacc]⟩
      case round =>
        obtain ⟨k, hFk, hk, rfl, rfl⟩ := hrel
        by_cases hlt : k < s.size
        · have HB : Hid (isD s[k] = false ∨ 20 < k → ∀ u, In64 u → s.data.toList ≠ Lib.itoa u) := Lib.hid (fun hbad u hu => back_early (i := k) (by rw [size_list]; exact hlt) (by rw [HF.out]; exact hFk) hbad hu)
          have hnx := seen_next s 0 k hFk hlt
          have hbn := bacc_snoc (seen s 0 k) s[k]
          rw [← hnx] at hbn
          have hin := bacc_in (seen s 0 k)
          generalize bacc (seen s 0 k) = N at *
          have HN2 := Lib.hid hbn
          have hin1 := hin.1
          have hin2 := hin.2
          clear hbn hin hnx
          by_cases h48 : (48 : Int) ≤ (s[k].toNat : Int)
          · by_cases h57 : (s[k].toNat : Int) ≤ 57
            · by_cases h20 : (20 : Int) < (k : Int)
              · go_wp2
                go_ret2
                exact back_no (HB.out (.inr (by omega))) (Below.refl _ _)
              · have h20' : (k : Int) ≤ 20 := by omega
                go_wp2
                go_round
                case rel => exact ⟨k + 1, by omega, by omega, by go_num, by rw [HN2.out]⟩
                case measure => simp [intOf]; omega
            · have h57' : (57 : Int) < (s[k].toNat : Int) := by omega
              go_wp2
              go_ret2
              exact back_no (HB.out (.inl (notD_of _ (.inr h57')))) (Below.refl _ _)
          · have h48' : (s[k].toNat : Int) < 48 := by omega
            go_wp2
            go_ret2
            exact back_no (HB.out (.inl (notD_of _ (.inl h48')))) (Below.refl _ _)
        · obtain rfl : k = s.size := by omega
          have hv := fun (u : Int) (hu : In64 u) (he : s.data.toList = Lib.itoa u) => back_value hu he
          rw [HF.out, if_pos rfl] at hv
          have hse := seen_end s 0
          have hN : Hid (seen s 0 s.size = s.data.toList.drop 0) := Lib.hid hse
          rw [← hse] at hv
          have HV := Lib.hid hv
          clear hv hse
          have hin := bacc_in (seen s 0 s.size)
          generalize bacc (seen s 0 s.size) = N at *
          have hM : In64 (wrap64 (-N)) := wrap_in _
          have HIN := Lib.hid hin; clear hin
          have HIM := Lib.hid hM; clear hM
          go_wp2_with fail
          refine (rInt_any (wrap64 (-N)) HIM.out _).mono ?_
          generalize wrap64 (-N) = M at *
          rintro e w5 ⟨s5, rfl, hs5, hb5⟩
          have hz5 := size_of hs5
          have hz6 := eInt_len M HIM.out
          have hz7 : s5.size ≤ 21 := by omega
          clear hz5 hz6
          by_cases hq : s.data.toList = Lib.itoa M
          · obtain rfl : s5 = s ++ ⟨#[59]⟩ := ByteArray.ext (Array.toList_inj.1 (by rw [hs5, eInt, ← hq]; simp))
            have HQ := Lib.hid hq
            clear hs5 hq
            go_wp2
            go_ret2
            exact ⟨M, true, rfl, fun _ => ⟨HQ.out, HIM.out⟩, fun u hu he => ⟨rfl, HV.out u hu he⟩, hb5⟩
          · have hne : (s5.toList == (s ++ ⟨#[59]⟩).toList) = false := by
              rw [beq_eq_false_iff_ne]
              intro h
              rw [Lib.toList_data, Lib.toList_data, hs5, eInt] at h
              exact hq (by simpa using h.symm)
            have HQ := Lib.hid hq
            clear hs5 hq
            go_wp2
            go_ret2
            exact ⟨M, false, rfl, (fun h => nomatch h), fun u hu he => absurd (by rw [he, HV.out u hu he]) HQ.out, hb5⟩

end Go.Proofs.YtbpkcgkcamkggaaGreatDoor.W
