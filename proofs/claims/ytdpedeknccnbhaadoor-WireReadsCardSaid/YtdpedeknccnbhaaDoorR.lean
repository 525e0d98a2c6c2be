/-
  Contracts of the reference's writers.
-/
import Derived.Test.YtdpedeknccnbhaaDoorL
set_option linter.unusedVariables false
namespace Go.Proofs.YtdpedeknccnbhaaDoor
open Go.RowKit Go.Sort

theorem conv_one (x : Int) (w : World) : ∃ s : ByteArray, (convert 65 9 (.slice (some ⟨w.heap.size, 0, none⟩) 1 1)).run Tryd.prog (w.alloc (.cells #[.int .u8 x] 5)) = .ok (.string s) (w.alloc (.cells #[.int .u8 x] 5)) ∧
    s.data.toList = [UInt8.ofNat x.toNat] := by
  refine ⟨ByteArray.empty.push (UInt8.ofNat x.toNat), ?_, rfl⟩
  rw [run_convert_bytes_string _ 65 9 5 _ _ _ Tryd.underlying65 Tryd.underlying5 Tryd.underlying9]
  have hload : (loadCells ⟨w.heap.size, 0, none⟩ 1).run Tryd.prog (w.alloc (.cells #[.int .u8 x] 5)) = .ok (([x].map (Value.int .u8)).toArray) (w.alloc (.cells #[.int .u8 x] 5)) := by
    go_simp
  rw [run_bytesToString _ _ 1 1 [x] hload]
  rfl

set_option maxRecDepth 100000 in
set_option maxHeartbeats 1000000 in
theorem rdigits_any (N : Nat) : ∀ (m : Nat), m ≤ N → m ≤ 9223372036854775808 → ∀ w : World,
    Calls Tryd.prog 45 #[.int .i64 (-(m : Int))] w (StrIs (Lib.decDigits m) w) := by
  induction N with
  | zero =>
    intro m hm _ w
    obtain rfl : m = 0 := by omega
    obtain ⟨s, hconv, hs⟩ := conv_one 48 w
    have HS := Lib.hid hs; clear hs
    go_enter Tryd.func45, Tryd.ntmps45
    go_wp2
    go_ret
    exact ⟨_, rfl, by rw [HS.out, dec_small (by omega)]; rfl, (Below.refl _ _).alloc (Nat.le_refl _) _⟩
  | succ N ih =>
    intro m hm hmm w
    have IH := Lib.hid ih; clear ih
    obtain ⟨s, hconv, hs⟩ := conv_one (48 + (m : Int) % 10) w
    have hz := size_of hs
    simp only [List.length_cons, List.length_nil] at hz
    have hz1 : s.size ≤ 1 := by omega
    have HS := Lib.hid hs; clear hs hz
    by_cases h10 : m < 10
    · go_enter Tryd.func45, Tryd.ntmps45
      go_wp2
      go_ret
      exact ⟨_, rfl, by rw [HS.out, dec_small h10]; congr 2; omega, (Below.refl _ _).alloc (Nat.le_refl _) _⟩
    · have hb1 : Below w.heap.size w (w.alloc (.cells #[.int .u8 (48 + (m : Int) % 10)] 5)) := (Below.refl _ _).alloc (Nat.le_refl _) _
      go_enter Tryd.func45, Tryd.ntmps45
      have hdiv : ((m / 10 : Nat) : Int) = (m : Int) / 10 := by omega
      have IH2 : Hid (∀ w : World, Calls Tryd.prog 45 #[.int .i64 (-((m : Int) / 10))] w (StrIs (Lib.decDigits (m / 10)) w)) := fun w => by
        have := IH.out (m / 10) (by omega) (by omega) w
        rw [hdiv] at this
        exact this
      clear hdiv
      go_wp2_with fail
      refine (IH2.out _).mono ?_
      rintro e w2 ⟨s2, rfl, hs2, hb2⟩
      have hz2 := size_of hs2
      have hz3 := dec_len (m / 10) (by omega)
      have hz4 : s2.size ≤ 19 := by omega
      clear hz2 hz3
      have H2 := Lib.hid hs2; clear hs2
      have hb3 := hb1.trans (hb2.mono (by simp))
      go_wp2
      go_ret
      refine ⟨_, rfl, ?_, hb3⟩
      rw [dec_big h10, ← H2.out]
      have e1 : UInt8.ofNat (48 + m % 10) = UInt8.ofNat (48 + (m : Int) % 10).toNat := by congr 1
      rw [e1, ← HS.out]
      simp

set_option maxHeartbeats 400000 in
theorem rInt_any (n : Int) (h : In64 n) (w : World) :
    Calls Tryd.prog 14 #[.int .i64 n] w (StrIs (eInt n) w) := by
  by_cases hn : n < 0
  · obtain ⟨m, rfl⟩ : ∃ m : Nat, n = -(m : Int) := ⟨n.natAbs, by omega⟩
    have hm : m ≤ 9223372036854775808 := by unfold In64 at h; omega
    clear h
    have e1 : eInt (-(m : Int)) = 45 :: Lib.decDigits m ++ [59] := by
      unfold eInt Lib.itoa
      rw [if_pos hn]
      simp
    have E1 := Lib.hid e1; clear e1
    go_enter Tryd.func14, Tryd.ntmps14
    go_wp2_with fail
    refine (rdigits_any m m (Nat.le_refl _) hm _).mono ?_
    rintro e w2 ⟨s2, rfl, hs2, hb2⟩
    have hz2 := size_of hs2
    have hz3 := dec_len m hm
    have hz4 : s2.size ≤ 19 := by omega
    clear hz2 hz3
    have H2 := Lib.hid hs2; clear hs2
    go_wp2
    go_ret
    exact ⟨_, rfl, by rw [E1.out, ← H2.out]; simp, hb2⟩
  · obtain ⟨m, rfl⟩ : ∃ m : Nat, n = (m : Int) := ⟨n.natAbs, by omega⟩
    have hm : m ≤ 9223372036854775807 := by unfold In64 at h; omega
    clear h
    have e1 : eInt (m : Int) = Lib.decDigits m ++ [59] := by
      unfold eInt Lib.itoa
      rw [if_neg hn]
      simp
    have E1 := Lib.hid e1; clear e1
    go_enter Tryd.func14, Tryd.ntmps14
    go_wp2_with fail
    refine (rdigits_any m m (Nat.le_refl _) (by omega) _).mono ?_
    rintro e w2 ⟨s2, rfl, hs2, hb2⟩
    have hz2 := size_of hs2
    have hz3 := dec_len m (by omega)
    have hz4 : s2.size ≤ 19 := by omega
    clear hz2 hz3
    have H2 := Lib.hid hs2; clear hs2
    go_wp2
    go_ret
    exact ⟨_, rfl, by rw [E1.out, ← H2.out]; simp, hb2⟩

set_option maxHeartbeats 400000 in
theorem rNum_any (n : Int) (h : In64 n) (w : World) :
    Calls Tryd.prog 12 #[.int .i64 n] w (StrIs (eNum n) w) := by
  by_cases hn : n < 0
  · have he : eNum n = [] := by simp [eNum, hn]
    have hE := Lib.hid he; clear he h
    go_enter Tryd.func12, Tryd.ntmps12
    go_wp2
    go_ret
    exact ⟨_, rfl, by rw [hE.out], Below.refl _ _⟩
  · have he : eNum n = eInt n := by simp [eNum, hn]
    have hE := Lib.hid he; clear he
    have hi := Lib.hid h; clear h
    go_enter Tryd.func12, Tryd.ntmps12
    go_wp2_with (go_at_call 14; refine (rInt_any n hi.out _).mono ?_; rintro e w' ⟨s, rfl, hs, hb⟩; have hS := Lib.hid hs; clear hs)
    go_ret
    exact ⟨_, rfl, by rw [hS.out, hE.out], hb⟩

set_option maxHeartbeats 400000 in
theorem rText_any (t : ByteArray) (ht0 : t.size ≤ 1099511627776) (w : World) :
    Calls Tryd.prog 16 #[.string t] w (StrIs (eText t.data.toList) w) := by
  go_enter Tryd.func16, Tryd.ntmps16
  go_wp2_with fail
  refine (rdigits_any t.size t.size (Nat.le_refl _) (by omega) _).mono ?_
  rintro e w2 ⟨s2, rfl, hs2, hb2⟩
  have hz2 := size_of hs2
  have hz3 := dec_len t.size (by omega)
  have hz4 : s2.size ≤ 19 := by omega
  clear hz2 hz3
  have H2 := Lib.hid hs2; clear hs2
  go_wp2
  go_ret
  refine ⟨_, rfl, ?_, hb2⟩
  rw [eText, size_list, ← H2.out]
  simp


set_option maxRecDepth 100000 in
set_option maxHeartbeats 2000000 in
theorem rNums_any (A : Option Addr) (cap : Nat) (l : List Int) (w : World) (hA : Row w A (l.map (Value.int .i64))) (hin : ∀ n ∈ l, In64 n) (hl : l.length ≤ 1099511627776) :
    Calls Tryd.prog 18 #[.slice A l.length cap] w (StrIs (eList eInt l) w) := by
  have HN := Lib.hid hin; clear hin
  have HA := Lib.hid hA; clear hA
  go_enter Tryd.func18, Tryd.ntmps18
  go_wp2_with fail
  refine (rdigits_any l.length l.length (Nat.le_refl _) (by omega) _).mono ?_
  rintro e w2 ⟨s, rfl, hs, hb⟩
  have hz := size_of hs
  have hz2 := dec_len l.length (by omega)
  have hz3 : s.size ≤ 19 := by omega
  clear hz hz2
  have HS : Hid (s.data.toList ++ [91] = held eInt l 0) := Lib.hid (by
    rw [hs]; unfold held Lib.itoa
    rw [if_neg (by omega)]
    simp)
  clear hs
  go_wp2
  go_loopw [3, 4] (fun t i wr => ∃ (k : Nat) (u : ByteArray), k ≤ l.length ∧ i = .int .i64 k ∧ t = .string u ∧ Hid (u.data.toList = held eInt l k) ∧ Below w.heap.size w wr) (fun _ i _ => l.length - (intOf i).toNat)
  case atStart => exact ⟨0, _, Nat.zero_le _, rfl, rfl, Lib.hid (by rw [← HS.out]; simp), hb⟩
  case round =>
    obtain ⟨k, u, hk, rfl, rfl, hu, bb⟩ := hrel
    have hlen := held_len l k hk hl HN.out
    have hus : u.size ≤ 30000000000000 := by rw [size_of hu.out]; exact hlen
    clear hb
    by_cases hlt : k < l.length
    · obtain ⟨bk, off, rfl, hbk, hc⟩ := HA.out (by simp; omega)
      have hcell : wr.cell? ⟨bk, off + k, none⟩ = some (.int .i64 l[k]) := (bb.cell (p := ⟨bk, off + k, none⟩) hbk).trans (hc k _ (by simp [hlt]))
      clear hc
      have HK : Hid (In64 l[k]) := HN.out _ (List.getElem_mem hlt)
      have hkl := eInt_len _ HK.out
      have hnx := held_next eInt l k hlt
      generalize l[k] = x at *
      have HX := Lib.hid hnx; clear hnx
      go_wp2_with fail
      refine (rInt_any _ HK.out _).mono ?_
      rintro e w5 ⟨s5, rfl, hs5, hb5⟩
      have hz5 := size_of hs5
      have hz6 : s5.size ≤ 21 := by omega
      clear hz5
      have H5 := Lib.hid hs5; clear hs5
      have bb5 := bb.trans (hb5.mono bb.size)
      go_wp2
      go_roundw
      case rel => exact ⟨k + 1, _, by omega, by go_num, rfl, Lib.hid (by rw [HX.out, ← H5.out, ← hu.out]; simp), bb5⟩
      case measure => simp [intOf]; omega
    · obtain rfl : k = l.length := by omega
      go_wp2
      go_ret
      exact ⟨_, rfl, by rw [← held_end, ← hu.out]; simp, bb⟩


set_option maxRecDepth 100000 in
set_option maxHeartbeats 2000000 in
theorem rTexts_any (A : Option Addr) (cap : Nat) (l : List ByteArray) (w : World) (hA : Row w A (l.map Value.string)) (hin : ∀ x ∈ l, x.size ≤ 1099511627776) (htot : (l.flatMap eStr).length ≤ 100000000000000) (hl : l.length ≤ 1099511627776) :
    Calls Tryd.prog 20 #[.slice A l.length cap] w (StrIs (eList eStr l) w) := by
  have HN := Lib.hid hin; clear hin
  have HA := Lib.hid hA; clear hA
  go_enter Tryd.func20, Tryd.ntmps20
  go_wp2_with fail
  refine (rdigits_any l.length l.length (Nat.le_refl _) (by omega) _).mono ?_
  rintro e w2 ⟨s, rfl, hs, hb⟩
  have hz := size_of hs
  have hz2 := dec_len l.length (by omega)
  have hz3 : s.size ≤ 19 := by omega
  clear hz hz2
  have HS : Hid (s.data.toList ++ [91] = held eStr l 0) := Lib.hid (by
    rw [hs]; unfold held Lib.itoa
    rw [if_neg (by omega)]
    simp)
  clear hs
  go_wp2
  go_loopw [3, 4] (fun t i wr => ∃ (k : Nat) (u : ByteArray), k ≤ l.length ∧ i = .int .i64 k ∧ t = .string u ∧ Hid (u.data.toList = held eStr l k) ∧ Below w.heap.size w wr) (fun _ i _ => l.length - (intOf i).toNat)
  case atStart => exact ⟨0, _, Nat.zero_le _, rfl, rfl, Lib.hid (by rw [← HS.out]; simp), hb⟩
  case round =>
    obtain ⟨k, u, hk, rfl, rfl, hu, bb⟩ := hrel
    have hlen := heldS_len l k hk hl htot
    have hus : u.size ≤ 100000000000021 := by rw [size_of hu.out]; exact hlen
    clear hb
    by_cases hlt : k < l.length
    · obtain ⟨bk, off, rfl, hbk, hc⟩ := HA.out (by simp; omega)
      have hcell : wr.cell? ⟨bk, off + k, none⟩ = some (.string l[k]) := (bb.cell (p := ⟨bk, off + k, none⟩) hbk).trans (hc k _ (by simp [hlt]))
      clear hc
      have hks : l[k].size ≤ 1099511627776 := HN.out _ (List.getElem_mem hlt)
      have hlen2 := heldS_len l (k + 1) (by omega) hl htot
      have hnx := held_next eStr l k hlt
      generalize l[k] = x at *
      have hkl : (held eStr l k).length + (eStr x).length ≤ 100000000000021 := by rw [hnx, List.length_append] at hlen2; omega
      clear hlen2
      have HX := Lib.hid hnx; clear hnx
      go_wp2_with fail
      refine (rText_any _ hks _).mono ?_
      rintro e w5 ⟨s5, rfl, hs5, hb5⟩
      have hz5 := size_of hs5
      have hz7 : (eStr x).length = s5.size := hz5.symm
      have hz8 := size_of hu.out
      have hz6 : u.size + s5.size ≤ 100000000000021 := by omega
      clear hz7 hz8
      clear hz5
      have H5 := Lib.hid hs5; clear hs5
      have bb5 := bb.trans (hb5.mono bb.size)
      go_wp2
      go_roundw
      case rel => exact ⟨k + 1, _, by omega, by go_num, rfl, Lib.hid (by rw [HX.out, show eStr x = s5.data.toList from H5.out.symm, ← hu.out]; simp), bb5⟩
      case measure => simp [intOf]; omega
    · obtain rfl : k = l.length := by omega
      go_wp2
      go_ret
      exact ⟨_, rfl, by rw [← held_end, ← hu.out]; simp, bb⟩

end Go.Proofs.YtdpedeknccnbhaaDoor
