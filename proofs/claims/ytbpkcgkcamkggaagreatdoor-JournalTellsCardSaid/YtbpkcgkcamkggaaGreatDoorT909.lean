/-
  The contracts of the reference's Truncate, Read and New.
  The contract of the reference's Read.
-/
import Derived.Test.YtbpkcgkcamkggaaGreatDoorT908
set_option linter.unusedVariables false
namespace Go.Proofs.YtbpkcgkcamkggaaGreatDoor
open Go.RowKit

set_option maxRecDepth 100000 in
set_option maxHeartbeats 8000000 in
theorem rcut_any (r B : Nat) (s : RSt) (f n : Int) (w : World) (h : RAt r B s w) (hb : RB s) (harm : s.armed ≤ 9223372036854775807) (hn : In64 n) :
    Calls Tryz.prog 39 #[.pointer (some ⟨r, 0, none⟩), .int .i64 f, .int .i64 n] w fun e w' => e = .returned (.int .i64 (s.cut f n).2) ∧ RAt r B (s.cut f n).1 w' ∧ RFr B w w' := by
  have hco := rcomes_any r B s 0 0 ⟨#[]⟩ w h hb (by unfold In64; omega) (by decide) harm
  have hco2 : Calls Tryz.prog 58 #[.pointer (some ⟨r, 0, none⟩), .int .i64 0, .int .i64 0, .string ⟨#[]⟩] w fun e w' => e = .returned (.tuple #[]) ∧ RAt r B (s.come 0 0 []) w' ∧ RFr B w w' := hco
  have HCO := Lib.hid hco2
  have HX : Hid (s.cut f n = if mayOf (s.come 0 0 []).down f ≠ 0 then (s.come 0 0 [], mayOf (s.come 0 0 []).down f) else if n < 0 ∨ ((rget (s.come 0 0 []).fl f).2.1.size : Int) < n then (s.come 0 0 [], 1)
    else ((s.come 0 0 []).settled f ((rget (s.come 0 0 []).fl f).2.1.extract 0 n.toNat), 0)) := Lib.hid rfl
  have HUP : Hid ((s.come 0 0 []).down = false → (s.come 0 0 []).fl = s.fl ∧ (s.come 0 0 []).q = s.q) := Lib.hid come_up
  have HB := Lib.hid hb
  generalize s.cut f n = Y at *
  generalize s.come 0 0 [] = s1 at *
  clear h hb hco hco2
  go_enter Tryz.func39, Tryz.ntmps39
  go_wp2_with fail
  refine HCO.out.mono ?_
  rintro e w2 ⟨rfl, h2, f2⟩
  have H2 := Lib.hid h2
  have F2 := Lib.hid f2
  clear HCO
  have HM := Lib.hid (rMay_any r B s1 f w2 h2)
  clear f2 h2
  go_wp2_with fail
  refine HM.out.mono ?_
  rintro e w3 ⟨rfl, rfl⟩
  by_cases hm : mayOf s1.down f = 0
  · obtain ⟨hd, hf0, hf1⟩ := may_ok hm
    obtain ⟨u1, u2⟩ := HUP.out hd
    have U1 := Lib.hid u1
    have U2 := Lib.hid u2
    clear u1 u2 hd HUP HM
    rw [hm]
    have HG := Lib.hid (rget_any r B s1 f w3 H2.out (by rw [U1.out]; have := HB.out.fl; omega))
    have hfd := field_now (rget s1.fl f)
    have hsl : s1.fl.length ≤ 1099511627776 := by rw [U1.out]; have := HB.out.fl; omega
    have hsq : s1.q.length ≤ 1099511627776 := by rw [U2.out]; have := HB.out.q; omega
    have hys : (rget s1.fl f).2.1.size ≤ 16777216 := by rw [U1.out]; exact (HB.out.big f).1
    have HX2 : Hid (Y = if n < 0 ∨ ((rget s1.fl f).2.1.size : Int) < n then (s1, 1) else (s1.settled f ((rget s1.fl f).2.1.extract 0 n.toNat), 0)) := Lib.hid (by rw [HX.out, if_neg (by rw [hm]; simp)])
    generalize rget s1.fl f = y at *
    clear HX hm
    go_wp2_with fail
    refine HG.out.mono ?_
    rintro e w4 ⟨rfl, hb4⟩
    unfold fval
    have HR4 := Lib.hid (H2.out.below hb4)
    have HB4 := Lib.hid hb4
    clear hb4 HG
    by_cases h0 : n < 0
    · have HXX : Hid (Y = (s1, 1)) := Lib.hid (by rw [HX2.out, if_pos (.inl h0)])
      clear HX2
      go_wp2
      go_ret
      rw [HXX.out]
      exact ⟨rfl, HR4.out, F2.out.trans (RFr.of_below HB4.out)⟩
    · have h0' : 0 ≤ n := by omega
      by_cases h1 : (y.2.1.size : Int) < n
      · have HXX : Hid (Y = (s1, 1)) := Lib.hid (by rw [HX2.out, if_pos (.inr h1)])
        clear HX2
        go_wp2
        go_ret
        rw [HXX.out]
        exact ⟨rfl, HR4.out, F2.out.trans (RFr.of_below HB4.out)⟩
      · have h1' : n ≤ (y.2.1.size : Int) := by omega
        have HXX : Hid (Y = (s1.settled f (y.2.1.extract 0 n.toNat), 0)) := Lib.hid (by rw [HX2.out, if_neg (by omega)])
        have HSE := Lib.hid (rsettle_any r B s1 f (y.2.1.extract 0 n.toNat) w4 HR4.out hsl hsq)
        clear HX2
        go_wp2_with fail
        refine HSE.out.mono ?_
        rintro e w5 ⟨rfl, h5, f5⟩
        have H5 := Lib.hid h5
        have F5 := Lib.hid f5
        clear h5 f5 HSE
        go_wp2
        go_ret
        rw [HXX.out]
        exact ⟨rfl, H5.out, (F2.out.trans (RFr.of_below HB4.out)).trans F5.out⟩
  · have HXX : Hid (Y = (s1, mayOf s1.down f)) := Lib.hid (by rw [HX.out, if_pos hm])
    have hmn : (mayOf s1.down f != 0) = true := by simpa using hm
    clear HX HM
    generalize mayOf s1.down f = mm at *
    go_wp2
    go_ret
    rw [HXX.out]
    exact ⟨rfl, H2.out, F2.out⟩

/-- the empty disk. -/
def rNew : RSt := ⟨[], [], 0, false, 0, []⟩
set_option maxHeartbeats 1000000 in
theorem rnew_any (B : Nat) (w : World) (hB : B ≤ w.heap.size) :
    Calls Tryz.prog 7 #[] w fun e w' => e = .returned (.pointer (some ⟨w.heap.size, 0, none⟩)) ∧ RAt w.heap.size B rNew w' ∧ Below w.heap.size w w' ∧ w'.heap.size = w.heap.size + 1 := by
  go_enter Tryz.func7, Tryz.ntmps7
  go_wp2
  go_ret
  refine ⟨rfl, ⟨.slice none 0 0, .slice none 0 0, .slice none 0 0, heap_alloc_new w _, World.ownsRow_nil _ _ _ _, World.ownsRow_nil _ _ _ _, World.ownsRow_nil _ _ _ _, hB⟩, (Below.refl _ _).alloc (Nat.le_refl _) _, by simp⟩

end Go.Proofs.YtbpkcgkcamkggaaGreatDoor
namespace Go.Proofs.YtbpkcgkcamkggaaGreatDoor
open Go.RowKit

def RSt.readR (s : RSt) (f a n : Int) : List UInt8 × Int :=
  if mayOf s.down f ≠ 0 then ([], mayOf s.down f) else if a < 0 ∨ n < 0 then ([], 1)
  else (((rget s.fl f).2.1.data.toList.drop a.toNat).take n.toNat, 0)

theorem ext_part (s : ByteArray) (i j : Nat) : (s.extract i j).data.toList = (s.data.toList.drop i).take (j - i) := by
  rw [ByteArray.data_extract, Array.toList_extract, List.extract_eq_take_drop]

set_option maxRecDepth 100000 in
set_option maxHeartbeats 8000000 in
theorem rread_any (r B : Nat) (s : RSt) (f a n : Int) (w : World) (h : RAt r B s w) (hl : s.fl.length ≤ 1099511627776) (ha : In64 a) (hn : In64 n) (hbig : (rget s.fl f).2.1.size ≤ 16777216) :
    Calls Tryz.prog 28 #[.pointer (some ⟨r, 0, none⟩), .int .i64 f, .int .i64 a, .int .i64 n] w fun e w' => (∃ b : ByteArray, e = .returned (.tuple #[.string b, .int .i64 (s.readR f a n).2]) ∧ b.data.toList = (s.readR f a n).1) ∧ Below w.heap.size w w' := by
  have HM := Lib.hid (rMay_any r B s f w h)
  have HX : Hid (s.readR f a n = if mayOf s.down f ≠ 0 then ([], mayOf s.down f) else if a < 0 ∨ n < 0 then ([], 1) else (((rget s.fl f).2.1.data.toList.drop a.toNat).take n.toNat, 0)) := Lib.hid rfl
  have HG := Lib.hid (rget_any r B s f w h hl)
  have hfd := field_now (rget s.fl f)
  obtain ⟨n0, n1⟩ := hn
  obtain ⟨a0, a1⟩ := ha
  generalize s.readR f a n = Y at *
  generalize rget s.fl f = y at *
  have hyl : y.2.1.data.toList.length = y.2.1.size := Array.length_toList
  clear h
  go_enter Tryz.func28, Tryz.ntmps28
  go_wp2_with fail
  refine HM.out.mono ?_
  rintro e w2 ⟨rfl, rfl⟩
  by_cases hm : mayOf s.down f = 0
  · rw [hm]
    have HX2 : Hid (Y = if a < 0 ∨ n < 0 then ([], 1) else ((y.2.1.data.toList.drop a.toNat).take n.toNat, 0)) := Lib.hid (by rw [HX.out, if_neg (by rw [hm]; simp)])
    clear HX hm HM
    by_cases h0 : a < 0
    · have HXX : Hid (Y = ([], 1)) := Lib.hid (by rw [HX2.out, if_pos (.inl h0)])
      clear HX2
      go_wp2
      go_ret2
      rw [HXX.out]
      exact ⟨⟨⟨#[]⟩, rfl, rfl⟩, Below.refl _ _⟩
    · have h0' : 0 ≤ a := by omega
      by_cases h1 : n < 0
      · have HXX : Hid (Y = ([], 1)) := Lib.hid (by rw [HX2.out, if_pos (.inr h1)])
        clear HX2
        go_wp2
        go_ret2
        rw [HXX.out]
        exact ⟨⟨⟨#[]⟩, rfl, rfl⟩, Below.refl _ _⟩
      · have h1' : 0 ≤ n := by omega
        have HXX : Hid (Y = ((y.2.1.data.toList.drop a.toNat).take n.toNat, 0)) := Lib.hid (by rw [HX2.out, if_neg (by omega)])
        clear HX2
        go_wp2_with fail
        refine HG.out.mono ?_
        rintro e w4 ⟨rfl, hb4⟩
        unfold fval
        have HB4 := Lib.hid hb4
        clear hb4 HG
        by_cases h2 : (y.2.1.size : Int) ≤ a
        · have HE : Hid ((y.2.1.data.toList.drop a.toNat).take n.toNat = []) := Lib.hid (by rw [List.drop_of_length_le (by omega)]; simp)
          go_wp2
          go_ret2
          rw [HXX.out, HE.out]
          exact ⟨⟨⟨#[]⟩, rfl, rfl⟩, HB4.out⟩
        · have h2' : a < (y.2.1.size : Int) := by omega
          by_cases h3 : n ≤ (y.2.1.size : Int) - a
          · have hp1 : a + n ≤ (y.2.1.size : Int) := by omega
            have hmin : min n ((y.2.1.size : Int) - a) = n := by omega
            have HE : Hid ((y.2.1.extract a.toNat (a + n).toNat).data.toList = (y.2.1.data.toList.drop a.toNat).take n.toNat) := Lib.hid (by rw [ext_part]; congr 1; omega)
            have hq : a ≤ a + n := by omega
            go_wp2
            go_ret2
            rw [HXX.out]
            exact ⟨⟨_, rfl, HE.out⟩, HB4.out⟩
          · have h3' : (y.2.1.size : Int) - a < n := by omega
            have hmin : min n ((y.2.1.size : Int) - a) = (y.2.1.size : Int) - a := by omega
            have HE : Hid ((y.2.1.extract a.toNat y.2.1.size).data.toList = (y.2.1.data.toList.drop a.toNat).take n.toNat) := Lib.hid (by
              rw [ext_part, List.take_of_length_le (by rw [List.length_drop]; omega), List.take_of_length_le (by rw [List.length_drop]; omega)])
            have hq : a + ((y.2.1.size : Int) - a) = (y.2.1.size : Int) := by omega
            go_wp2
            go_ret2
            rw [HXX.out]
            exact ⟨⟨_, rfl, HE.out⟩, HB4.out⟩
  · have HXX : Hid (Y = ([], mayOf s.down f)) := Lib.hid (by rw [HX.out, if_pos hm])
    have hmn : (mayOf s.down f != 0) = true := by simpa using hm
    clear HX HM
    generalize mayOf s.down f = mm at *
    go_wp2
    go_ret2
    rw [HXX.out]
    exact ⟨⟨⟨#[]⟩, rfl, rfl⟩, Below.refl _ _⟩

end Go.Proofs.YtbpkcgkcamkggaaGreatDoor
