/-
  The walk of DiskReads.
-/
import Derived.Test.YtcjadlokjbeibaaNd
import Derived.Test.YtcjadlokjbeibaaNc
import Derived.Laws.IdiomStrings
set_option linter.unusedVariables false
namespace Go.Proofs.Ytcjadlokjbeibaa
open Go.RowKit

set_option maxRecDepth 100000 in
set_option maxHeartbeats 8000000 in
theorem reads_walk (A : Option Addr) (cap : Nat) (l : List DAct) (f a : Int) (s : ByteArray) (size : Int) (w : World) (hl : l.length ≤ 9223372036854775807) (hok : ∀ v ∈ l, ActOk v) (hA : Acts w A l) (h64 : In64 f) (ha64 : In64 a) (hs64 : s.size ≤ 9223372036854775807) (hn64 : In64 size) :
    Calls Try.prog 7 #[.slice A l.length cap, .int .i64 f, .int .i64 a, .string s, .int .i64 size] w fun e w' => e = .returned (.bool true) ∧ Below w.heap.size w w' := by
  have HO := Lib.hid hok; clear hok
  have HA := Lib.hid hA; clear hA
  go_enter Try.func7, Try.ntmps7
  go_wp2_with fail
  refine (small_any w).mono ?_
  rintro e w1 ⟨rfl, b1⟩
  go_wp2_with fail
  refine (few_any A cap l w1 hl HO.out (HA.out.below b1)).mono ?_
  rintro e w2 ⟨b, rfl, hb, b12⟩
  have B2 := Lib.hid (b1.trans (b12.mono b1.size))
  clear b1 b12
  cases b with
  | false =>
    clear hb
    go_wp2
    go_ret
    exact ⟨rfl, B2.out⟩
  | true =>
    have HF := Lib.hid (hb rfl)
    clear hb
    by_cases hs : 300 < s.size
    · have hs' : (300 : Int) < (s.size : Int) := by omega
      go_wp2
      go_ret
      exact ⟨rfl, B2.out⟩
    have hs' : (s.size : Int) ≤ 300 := by omega
    by_cases ha : a < 0
    · go_wp2
      go_ret
      exact ⟨rfl, B2.out⟩
    have ha0 : 0 ≤ a := by omega
    by_cases ha3 : 3000 < a
    · go_wp2
      go_ret
      exact ⟨rfl, B2.out⟩
    have ha3' : a ≤ 3000 := by omega
    by_cases hz : size < 0
    · go_wp2
      go_ret
      exact ⟨rfl, B2.out⟩
    have hz0 : 0 ≤ size := by omega
    clear ha ha3 hz
    have H64 := Lib.hid h64
    have HA64 := Lib.hid ha64
    have HN64 := Lib.hid hn64
    clear h64 ha64 hn64
    go_wp2_with fail
    refine (played_any w A cap l w2 B2.out HF.out HO.out HA.out).mono ?_
    rintro e w3 ⟨r, L, rfl, h3⟩
    have H3 := Lib.hid h3
    clear h3 B2 HF HO HA
    generalize run Dk.new l = d at *
    go_wp2_with fail
    refine (hArm0 H3.out (k := 0) (by unfold In64; omega)).mono ?_
    rintro e w4 ⟨rfl, L4, h4⟩
    have H4 := Lib.hid h4
    clear h4 H3
    go_wp2_with fail
    refine (mDown H4.out.at_).mono ?_
    rintro e w5 ⟨he, rfl⟩
    obtain rfl : e = .returned (.bool d.down) := he
    by_cases hno : d.down = true ∨ ¬ Dk.fileOk f
    · have HX := Lib.hid (Dk.reads_no d hno a s.data.toList)
      have hno' : d.down = true ∨ d.down = false ∧ f < 0 ∨ d.down = false ∧ 0 ≤ f ∧ 15 < f := by
        unfold Dk.fileOk at hno
        by_cases hd : d.down = true
        · exact .inl hd
        · have hd' : d.down = false := by simpa using hd
          have hno2 : ¬ (0 ≤ f ∧ f ≤ 15) := by
            rcases hno with h | h
            · exact absurd h hd
            · exact h
          by_cases c : f < 0
          · exact .inr (.inl ⟨hd', c⟩)
          · exact .inr (.inr ⟨hd', by omega, by omega⟩)
      clear hno
      rcases hno' with hd | ⟨hd, hf⟩ | ⟨hd, hf0, hf⟩
      all_goals
        rw [hd]
        clear hd
        go_wp2_with fail
        refine (hWrite H4.out (by omega) H64.out HA64.out s (by omega)).mono ?_
        rintro e w6 ⟨rfl, L6, h6⟩
        have HB := Lib.hid h6.bel
        clear h6 H4
        have hx := HX.out
        clear HX
        generalize ((d.arm 0 []).write f a s.data.toList).2 = c at *
        go_wp2
        go_ret
        exact ⟨by simp [hx], HB.out⟩
    · have hd : d.down = false := by
        cases hd : d.down with
        | true => exact absurd (.inl hd) hno
        | false => rfl
      have hf : Dk.fileOk f := by
        by_cases c : Dk.fileOk f
        · exact c
        · exact absurd (.inr c) hno
      clear hno
      have hsl : s.data.toList.length = s.size := Array.length_toList
      obtain ⟨p1, p2, p3, p4⟩ := Dk.reads_write d hf hd (a := a.toNat) (s := s.data.toList) (by omega)
      rw [hd]
      have hca : ((a.toNat : Nat) : Int) = a := by omega
      rw [hca] at p1 p2 p3 p4
      have ⟨hf0, hf1⟩ := hf
      have HFO := Lib.hid hf
      clear hd hf
      go_wp2_with fail
      refine (hWrite H4.out (by omega) H64.out HA64.out s (by omega)).mono ?_
      rintro e w6 ⟨he, L6, h6⟩
      obtain rfl := ret_is he p1
      have H6 := Lib.hid h6
      clear h6 H4 he p1
      generalize ((d.arm 0 []).write f a s.data.toList).1 = d2 at *
      have hbig := H6.out.at_.ok.big f
      have e1 : d2.read f a (s.size : Int) = (s.data.toList, 0) := by
        rw [Dk.read_part HFO.out p2 ha0 (by omega), p3]
        have := take_put (d.now f) a.toNat s.data.toList
        rw [hsl] at this
        rw [show ((s.size : Int)).toNat = s.size by omega, this]
      have e2 : d2.read f 0 ((d2.now f).length : Int) = (d2.now f, 0) := by
        rw [Dk.read_part HFO.out p2 (by omega) (by omega)]
        simp
      have e3 := Dk.read_part HFO.out p2 (f := f) ha0 hz0
      obtain ⟨t1, t2, t3⟩ := Dk.trunc_up HFO.out p2 p4 (n := min a.toNat (d2.now f).length) (by omega)
      have E1 := Lib.hid e1
      have E2 := Lib.hid e2
      have E3 := Lib.hid e3
      have T := Lib.hid (And.intro t1 (And.intro t2 t3))
      clear e1 e2 e3 t1 t2 t3 p2 p3 p4
      go_wp2_with fail
      refine (hRead H6.out (by omega) H64.out HA64.out (by unfold In64; omega)).mono ?_
      rintro e w7 ⟨s7, he, hs7, h7⟩
      rw [E1.out] at he hs7
      obtain rfl : s7 = s := ByteArray.ext (Array.toList_inj.1 hs7)
      subst he
      have H7 := Lib.hid h7
      clear hs7 h7 H6 E1
      go_wp2_with fail
      refine (mSize H7.out.at_ H64.out).mono ?_
      rintro e w8 ⟨he, rfl⟩
      subst he
      go_wp2_with fail
      refine (hRead H7.out (by omega) H64.out (by unfold In64; omega) (by unfold In64; omega)).mono ?_
      rintro e w8 ⟨all, he, hs8, h8⟩
      rw [E2.out] at he hs8
      subst he
      have H8 := Lib.hid h8
      have HS8 := Lib.hid hs8
      have hal := congrArg List.length hs8
      rw [show all.data.toList.length = all.size from Array.length_toList] at hal
      clear hs8 h8 H7 E2
      go_wp2_with fail
      refine (hRead H8.out (by omega) H64.out HA64.out HN64.out).mono ?_
      rintro e w9 ⟨part, he, hs9, h9⟩
      rw [E3.out] at he hs9
      subst he
      have H9 := Lib.hid h9
      have HS9 := Lib.hid hs9
      clear hs9 h9 H8 E3
      go_wp2_with fail
      refine (mSize H9.out.at_ H64.out).mono ?_
      rintro e w10 ⟨he, rfl⟩
      subst he
      rw [← hal]
      rw [← hal] at T
      obtain ⟨fr, hfr⟩ : ∃ fr : Nat, fr = min a.toNat all.size := ⟨_, rfl⟩
      obtain ⟨to, hto⟩ : ∃ to : Nat, to = min size.toNat (all.size - fr) := ⟨_, rfl⟩
      rw [← hfr] at T
      have m1 : min a (all.size : Int) = (fr : Int) := by omega
      have m2 : min size ((all.size : Int) - (fr : Int)) = (to : Int) := by omega
      have hfl : fr ≤ all.size := by omega
      have htl : to ≤ all.size - fr := by omega
      have hf0' : (0 : Int) ≤ (fr : Int) := by omega
      have hf1' : (fr : Int) ≤ (all.size : Int) := by omega
      have ht0' : (0 : Int) ≤ (to : Int) := by omega
      have ht1' : (fr : Int) + (to : Int) ≤ (all.size : Int) := by omega
      have hsz16 : (all.size : Int) ≤ 16777216 := by omega
      clear hbig
      have hp : part = all.extract fr (fr + to) := by
        refine ByteArray.ext (Array.toList_inj.1 (HS9.out.trans ?_))
        rw [← HS8.out]
        have hL : all.data.toList.length = all.size := Array.length_toList
        have e : (all.extract fr (fr + to)).data.toList = (all.data.toList.drop fr).take to := by
          rw [ByteArray.data_extract, Array.toList_extract, List.extract_eq_take_drop]
          rw [Nat.add_sub_cancel_left]
        rw [e]
        by_cases c : a.toNat ≤ all.size
        · have e1 : fr = a.toNat := by omega
          rw [e1]
          by_cases c2 : size.toNat ≤ all.size - a.toNat
          · rw [show to = size.toNat by omega]
          · rw [List.take_of_length_le (by rw [List.length_drop]; omega), List.take_of_length_le (by rw [List.length_drop]; omega)]
        · rw [List.drop_of_length_le (by omega), show fr = all.size by omega, List.drop_of_length_le (by omega)]
          simp
      subst hp
      clear HS9 hto hfr htl
      have HAL := Lib.hid hal
      clear hal
      go_wp2_with fail
      refine (hTrunc H9.out (by omega) H64.out (by unfold In64; omega)).mono ?_
      rintro e w11 ⟨he, L11, h11⟩
      obtain rfl := ret_is he T.out.1
      have HK := Lib.hid T.out.2.2
      have H11 := Lib.hid h11
      clear h11 he H9 T
      generalize (d2.trunc f (fr : Int)).1 = d3 at *
      go_wp2_with fail
      refine (hCrash0 H11.out (by omega)).mono ?_
      rintro e w12 ⟨rfl, L12, h12⟩
      have H12 := Lib.hid h12
      clear h12 H11
      go_wp2_with fail
      refine (hStart H12.out).mono ?_
      rintro e w13 ⟨rfl, L13, h13⟩
      have H13 := Lib.hid h13
      clear h13 H12
      have e4 : (d3.crash []).start.read f 0 16777216 = ((d2.now f).take fr, 0) := by
        rw [Dk.read_all H13.out.at_.ok HFO.out rfl, (Dk.kept_start (Dk.kept_crash HK.out [])).now]
      have E4 := Lib.hid e4
      clear e4 HK
      go_wp2_with fail
      refine (hRead H13.out (by omega) H64.out (by unfold In64; omega) (by unfold In64; omega)).mono ?_
      rintro e w14 ⟨rest, he, hs14, h14⟩
      rw [E4.out] at he hs14
      subst he
      have hp : rest = all.extract 0 fr := by
        refine ByteArray.ext (Array.toList_inj.1 (hs14.trans ?_))
        rw [← HS8.out, ByteArray.data_extract, Array.toList_extract, List.extract_eq_take_drop]
        simp
      subst hp
      have H14 := Lib.hid h14.bel
      clear hs14 h14 H13 E4 HS8 HAL
      go_wp2
      go_ret
      exact ⟨rfl, H14.out⟩

end Go.Proofs.Ytcjadlokjbeibaa
