/-
  Contracts of the laws' own helpers: small, kind, number.
-/
import Derived.Test.YtdpedeknccnbhaaDoorG
import Derived.WalkSmall
import Derived.IntWalk
set_option linter.unusedVariables false
namespace Go.Proofs.YtdpedeknccnbhaaDoor
open Go.RowKit Go.Sort

theorem str_eq {s : ByteArray} {l : List UInt8} (h : s.data.toList = l) : s = ⟨l.toArray⟩ := ByteArray.ext (Array.toList_inj.1 h)
theorem c1 : eNum 0 = [48, 59] := by simp [eNum, eInt, Lib.itoa, Lib.decDigits]
theorem c2 : eNum 300 = [51, 48, 48, 59] := by simp [eNum, eInt, Lib.itoa, Lib.decDigits]
theorem c3 : eNum (-1) = [] := by simp [eNum]
theorem c4 : eInt (-7) = [45, 55, 59] := by simp [eInt, Lib.itoa, Lib.decDigits]
theorem c5 : eInt 7 = [55, 59] := by simp [eInt, Lib.itoa, Lib.decDigits]
theorem c6 : eText [97, 44, 98] = [51, 58, 97, 44, 98, 44] := by simp [eText, Lib.decDigits]
theorem c7 : eList eInt [1, -1] = [50, 91, 49, 59, 45, 49, 59, 93] := by simp [eList, eInt, Lib.itoa, Lib.decDigits]
theorem c8 : eList eStr [] = [48, 91, 93] := by simp [eList, Lib.decDigits]
theorem c9 : rdNum [48, 48, 55, 59] = none := by decide

theorem num_is (n : Int) (l : List UInt8) (hl : eNum n = l) (h : In64 n) (w : World) (ht : Tab w) :
    Calls Tryd.prog 11 #[.int .i64 n] w fun e w' => e = .returned (.string ⟨l.toArray⟩) ∧ Below w.heap.size w w' :=
  (num_any n h w ht).mono fun e w' ⟨s, he, hs, hb⟩ => ⟨by rw [he, str_eq (hs.trans hl)], hb⟩
theorem int_is (n : Int) (l : List UInt8) (hl : eInt n = l) (h : In64 n) (w : World) (ht : Tab w) :
    Calls Tryd.prog 13 #[.int .i64 n] w fun e w' => e = .returned (.string ⟨l.toArray⟩) ∧ Below w.heap.size w w' :=
  (int_any n h w ht).mono fun e w' ⟨s, he, hs, hb⟩ => ⟨by rw [he, str_eq (hs.trans hl)], hb⟩

set_option maxRecDepth 100000 in
set_option maxHeartbeats 2000000 in
theorem small_any (w : World) (ht : Tab w) : Calls Tryd.prog 9 #[] w fun e w' => e = .returned (.bool true) ∧ Below w.heap.size w w' := by
  have hi : ∀ n : Int, -1000 ≤ n ∧ n ≤ 1000 → In64 n := fun n h => by unfold In64; omega
  have HI := Lib.hid hi; clear hi
  go_enter Tryd.func9, Tryd.ntmps9
  go_wp2_with fail
  refine (num_is 0 _ c1 (HI.out _ (by omega)) _ ht).mono ?_
  rintro e w1 ⟨rfl, b1⟩
  go_wp2_with fail
  refine (num_is 300 _ c2 (HI.out _ (by omega)) _ (ht.on b1)).mono ?_
  rintro e w2 ⟨rfl, b2⟩
  have b2 := b1.trans (b2.mono b1.size)
  go_wp2_with fail
  refine (num_is (-1) _ c3 (HI.out _ (by omega)) _ (ht.on b2)).mono ?_
  rintro e w3 ⟨rfl, b3⟩
  have b3 := b2.trans (b3.mono b2.size)
  go_wp2_with fail
  refine (int_is (-7) _ c4 (HI.out _ (by omega)) _ (ht.on b3)).mono ?_
  rintro e w4 ⟨rfl, b4⟩
  have b4 := b3.trans (b4.mono b3.size)
  go_wp2_with fail
  refine (int_is 7 _ c5 (HI.out _ (by omega)) _ (ht.on b4)).mono ?_
  rintro e w5 ⟨rfl, b5⟩
  have b5 := b4.trans (b5.mono b4.size)
  go_wp2_with fail
  refine (text_any ⟨#[97, 44, 98]⟩ (by decide) _ (ht.on b5)).mono ?_
  rintro e w6 ⟨s6, rfl, hs6, b6⟩
  obtain rfl := str_eq (hs6.trans c6)
  clear hs6
  have b6 := b5.trans (b6.mono b5.size)
  clear b1 b2 b3 b4 b5
  go_wp2_with fail
  have b7 : Below w.heap.size w (w6.alloc (.cells #[.int .i64 1, .int .i64 (-1)] 3)) := b6.alloc b6.size _
  have hrow : Row (w6.alloc (.cells #[.int .i64 1, .int .i64 (-1)] 3)) (some ⟨w6.heap.size, 0, none⟩) ([1, -1].map (Value.int .i64)) := fun _ => ⟨w6.heap.size, 0, rfl, by simp, fun j u hu => by
    have := cell_two_new w6 (.int .i64 1) (.int .i64 (-1)) 3 j u hu
    have hadd : (⟨w6.heap.size, 0, none⟩ : Addr).add j = ⟨w6.heap.size, 0 + j, none⟩ := by unfold Addr.add; split <;> simp_all
    rw [hadd] at this
    exact this⟩
  refine (nums_any _ 2 [1, -1] _ hrow (fun n hn => HI.out n (by simp at hn; omega)) (by decide) (ht.on b7)).mono ?_
  rintro e w8 ⟨s8, rfl, hs8, b8⟩
  obtain rfl := str_eq (hs8.trans c7)
  clear hs8 hrow
  have b8 := b7.trans (b8.mono b7.size)
  clear b6 b7
  go_wp2_with fail
  refine (texts_any none 0 [] _ Row.nil (fun x hx => by cases hx) (by simp) (by decide) (ht.on b8)).mono ?_
  rintro e w9 ⟨s9, rfl, hs9, b9⟩
  obtain rfl := str_eq (hs9.trans c8)
  clear hs9
  have b9 := b8.trans (b9.mono b8.size)
  clear b8
  go_wp2_with fail
  refine (open_any ⟨#[48, 48, 55, 59]⟩ _).mono ?_
  rintro e w10 ⟨rfl, hw10⟩
  have hr : RdrAt 54 w9.heap.size ⟨#[48, 48, 55, 59]⟩ false w10 := by rw [hw10]; exact heap_alloc_new w9 _
  have b10 : Below w.heap.size w w10 := by rw [hw10]; exact b9.alloc b9.size _
  have hge := b9.size
  generalize w9.heap.size = q at *
  clear b9 hw10
  have hN := numR_any q _ false w10 hr (by decide)
  have e10 : rdNum (ByteArray.mk #[48, 48, 55, 59]).data.toList = none := c9
  rw [e10] at hN
  have HN := Lib.hid hN; clear hN e10 hr
  go_wp2_with fail
  refine HN.out.mono ?_
  rintro e w11 ⟨rfl, hA, hg⟩
  obtain ⟨s11, hs11, hr11⟩ := hA
  obtain rfl := empty_of hs11
  have b11 := b10.trans (below_of_grown hg b10.size hge)
  have HR := Lib.hid hr11; clear hr11 hs11 HN hg
  go_wp2_with fail
  refine (left_any _ _ _ _ HR.out).mono ?_
  rintro e w12 ⟨rfl, rfl⟩
  go_wp2_with fail
  refine (done_any _ _ _ _ HR.out).mono ?_
  rintro e w12 ⟨rfl, rfl⟩
  go_wp2
  go_ret
  exact ⟨rfl, b11⟩

/-- Go's remainder by five, made not negative. -/
def kindOf (K : Int) : Int := if K.tmod 5 < 0 then K.tmod 5 + 5 else K.tmod 5
def numberOf (n : Int) : Int := if n < 0 then -(n + 1) else n

set_option maxHeartbeats 1000000 in
theorem kind_any (K : Int) (b c d e : Value) (h : In64 K) (w : World) :
    Calls Tryd.prog 23 #[.agg #[.int .i64 K, b, c, d, e]] w fun e w' => e = .returned (.int .i64 (kindOf K)) ∧ Below w.heap.size w w' := by
  have h1 := h.1
  have h2 := h.2
  have HK := Lib.hid h; clear h
  have t1 : -5 < K.tmod 5 ∧ K.tmod 5 < 5 := ⟨Int.lt_tmod_of_pos K (by decide), Int.tmod_lt_of_pos K (by decide)⟩
  have HT := Lib.hid t1; clear t1
  by_cases h5 : K.tmod 5 < 0
  · have E := Lib.hid (show kindOf K = K.tmod 5 + 5 from if_pos h5)
    go_enter Tryd.func23, Tryd.ntmps23
    go_wp2
    go_ret
    exact ⟨ret_i64 (by rw [E.out]; have := HT.out; exact IntWalk.wrap64_in _ (by omega)), (Below.refl _ _).alloc (Nat.le_refl _) _⟩
  · have E := Lib.hid (show kindOf K = K.tmod 5 from if_neg h5)
    go_enter Tryd.func23, Tryd.ntmps23
    go_wp2
    go_ret
    exact ⟨ret_i64 (by rw [E.out]), (Below.refl _ _).alloc (Nat.le_refl _) _⟩

set_option maxHeartbeats 400000 in
theorem number_any (n : Int) (h : In64 n) (w : World) : Calls Tryd.prog 57 #[.int .i64 n] w fun e w' => e = .returned (.int .i64 (numberOf n)) ∧ w = w' := by
  have h1 := h.1
  have h2 := h.2
  clear h
  by_cases hn : n < 0
  · have E := Lib.hid (show numberOf n = -(n + 1) from if_pos hn)
    go_enter Tryd.func57, Tryd.ntmps57
    go_wp2
    go_ret
    exact ⟨ret_i64 (by rw [E.out]), rfl⟩
  · have E := Lib.hid (show numberOf n = n from if_neg hn)
    go_enter Tryd.func57, Tryd.ntmps57
    go_wp2
    go_ret
    exact ⟨ret_i64 (by rw [E.out]), rfl⟩

end Go.Proofs.YtdpedeknccnbhaaDoor
