/-
  The contract of the reference's Read.
-/
import Derived.Test.YtkbffhlkbcdgnaaRh
set_option linter.unusedVariables false
namespace Go.Proofs.Ytkbffhlkbcdgnaa
open Go.RowKit

def RSt.readR (s : RSt) (f a n : Int) : List UInt8 × Int :=
  if mayOf s.down f ≠ 0 then ([], mayOf s.down f) else if a < 0 ∨ n < 0 then ([], 1)
  else (((rget s.fl f).2.1.data.toList.drop a.toNat).take n.toNat, 0)

theorem ext_part (s : ByteArray) (i j : Nat) : (s.extract i j).data.toList = (s.data.toList.drop i).take (j - i) := by
  rw [ByteArray.data_extract, Array.toList_extract, List.extract_eq_take_drop]

set_option maxRecDepth 100000 in
set_option maxHeartbeats 8000000 in
theorem rread_any (r B : Nat) (s : RSt) (f a n : Int) (w : World) (h : RAt r B s w) (hl : s.fl.length ≤ 1099511627776) (ha : In64 a) (hn : In64 n) (hbig : (rget s.fl f).2.1.size ≤ 16777216) :
    Calls Try.prog 17 #[.pointer (some ⟨r, 0, none⟩), .int .i64 f, .int .i64 a, .int .i64 n] w fun e w' => (∃ b : ByteArray, e = .returned (.tuple #[.string b, .int .i64 (s.readR f a n).2]) ∧ b.data.toList = (s.readR f a n).1) ∧ Below w.heap.size w w' := by
  have HM := Lib.hid (rMay_any r B s f w h)
  have HX : Hid (s.readR f a n = if mayOf s.down f ≠ 0 then ([], mayOf s.down f) else if a < 0 ∨ n < 0 then ([], 1) else (((rget s.fl f).2.1.data.toList.drop a.toNat).take n.toNat, 0)) := Lib.hid rfl
  have HG := Lib.hid (rget_any r B s f w h hl)
  have hfd := field_now (rget s.fl f)
  obtain ⟨n0, n1⟩ := hn
  obtain ⟨a0, a1⟩ := ha
  generalize s.readR f a n = Y at *
  generalize rget s.fl f = y at *
  have hyl : y.2.1.data.toList.length = y.2.1.size := Array.length_toList
  clear h
  go_enter Try.func17, Try.ntmps17
  go_wp2_with fail
  refine HM.out.mono ?_
  rintro e w2 ⟨rfl, rfl⟩
  by_cases hm : mayOf s.down f = 0
  · rw [hm]
    have HX2 : Hid (Y = if a < 0 ∨ n < 0 then ([], 1) else ((y.2.1.data.toList.drop a.toNat).take n.toNat, 0)) := Lib.hid (by rw [HX.out, if_neg (by rw [hm]; simp)])
    clear HX hm HM
    by_cases h0 : a < 0
    · have HXX : Hid (Y = ([], 1)) := Lib.hid (by rw [HX2.out, if_pos (.inl h0)])
      clear HX2
      go_wp2
      go_ret2
      rw [HXX.out]
      exact ⟨⟨⟨#[]⟩, rfl, rfl⟩, Below.refl _ _⟩
    · have h0' : 0 ≤ a := by omega
      by_cases h1 : n < 0
      · have HXX : Hid (Y = ([], 1)) := Lib.hid (by rw [HX2.out, if_pos (.inr h1)])
        clear HX2
        go_wp2
        go_ret2
        rw [HXX.out]
        exact ⟨⟨⟨#[]⟩, rfl, rfl⟩, Below.refl _ _⟩
      · have h1' : 0 ≤ n := by omega
        have HXX : Hid (Y = ((y.2.1.data.toList.drop a.toNat).take n.toNat, 0)) := Lib.hid (by rw [HX2.out, if_neg (by omega)])
        clear HX2
        go_wp2_with fail
        refine HG.out.mono ?_
        rintro e w4 ⟨rfl, hb4⟩
        unfold fval
        have HB4 := Lib.hid hb4
        clear hb4 HG
        by_cases h2 : (y.2.1.size : Int) ≤ a
        · have HE : Hid ((y.2.1.data.toList.drop a.toNat).take n.toNat = []) := Lib.hid (by rw [List.drop_of_length_le (by omega)]; simp)
          go_wp2
          go_ret2
          rw [HXX.out, HE.out]
          exact ⟨⟨⟨#[]⟩, rfl, rfl⟩, HB4.out⟩
        · have h2' : a < (y.2.1.size : Int) := by omega
          by_cases h3 : n ≤ (y.2.1.size : Int) - a
          · have hp1 : a + n ≤ (y.2.1.size : Int) := by omega
            have hmin : min n ((y.2.1.size : Int) - a) = n := by omega
            have HE : Hid ((y.2.1.extract a.toNat (a + n).toNat).data.toList = (y.2.1.data.toList.drop a.toNat).take n.toNat) := Lib.hid (by rw [ext_part]; congr 1; omega)
            have hq : a ≤ a + n := by omega
            go_wp2
            go_ret2
            rw [HXX.out]
            exact ⟨⟨_, rfl, HE.out⟩, HB4.out⟩
          · have h3' : (y.2.1.size : Int) - a < n := by omega
            have hmin : min n ((y.2.1.size : Int) - a) = (y.2.1.size : Int) - a := by omega
            have HE : Hid ((y.2.1.extract a.toNat y.2.1.size).data.toList = (y.2.1.data.toList.drop a.toNat).take n.toNat) := Lib.hid (by
              rw [ext_part, List.take_of_length_le (by rw [List.length_drop]; omega), List.take_of_length_le (by rw [List.length_drop]; omega)])
            have hq : a + ((y.2.1.size : Int) - a) = (y.2.1.size : Int) := by omega
            go_wp2
            go_ret2
            rw [HXX.out]
            exact ⟨⟨_, rfl, HE.out⟩, HB4.out⟩
  · have HXX : Hid (Y = ([], mayOf s.down f)) := Lib.hid (by rw [HX.out, if_pos hm])
    have hmn : (mayOf s.down f != 0) = true := by simpa using hm
    clear HX HM
    generalize mayOf s.down f = mm at *
    go_wp2
    go_ret2
    rw [HXX.out]
    exact ⟨⟨⟨#[]⟩, rfl, rfl⟩, Below.refl _ _⟩

end Go.Proofs.Ytkbffhlkbcdgnaa
