/-
  Layer 14: contracts of Word, Number, word, number, sign, first.
-/
import Derived.Test.YtfmocnbhahcgoaaDoorG2
set_option linter.unusedVariables false
set_option maxRecDepth 100000
namespace Go.Proofs.YtfmocnbhahcgoaaDoor
open Go.RowKit

theorem asc_letters : ∀ (j : Nat) b, (⟨#[97, 98, 99, 100, 101, 102, 103, 104, 105, 106, 107, 108, 109, 110, 111, 112, 113, 114, 115, 116, 117, 118, 119, 120, 121, 122]⟩ : ByteArray).data.toList[j]? = some b → b.toNat < 128 := ascii_of_all (by decide)
theorem asc_both : ∀ (j : Nat) b, (⟨#[97, 98, 99, 100, 101, 102, 103, 104, 105, 106, 107, 108, 109, 110, 111, 112, 113, 114, 115, 116, 117, 118, 119, 120, 121, 122, 48, 49, 50, 51, 52, 53, 54, 55, 56, 57]⟩ : ByteArray).data.toList[j]? = some b → b.toNat < 128 := ascii_of_all (by decide)
theorem asc_digits : ∀ (j : Nat) b, (⟨#[48, 49, 50, 51, 52, 53, 54, 55, 56, 57]⟩ : ByteArray).data.toList[j]? = some b → b.toNat < 128 := ascii_of_all (by decide)
theorem asc_blanks : ∀ (j : Nat) b, (⟨#[9, 10, 32]⟩ : ByteArray).data.toList[j]? = some b → b.toNat < 128 := ascii_of_all (by decide)
theorem lead_letters (s : ByteArray) (w : World) (hs : s.size ≤ 1099511627776) : Calls Tryd.prog 22 #[.string s, .string ⟨#[97, 98, 99, 100, 101, 102, 103, 104, 105, 106, 107, 108, 109, 110, 111, 112, 113, 114, 115, 116, 117, 118, 119, 120, 121, 122]⟩] w (StrIs (s.data.toList.takeWhile ltr) w) :=
  leading_any s _ ltr w hs (by decide) asc_letters set_letters
theorem lead_both (s : ByteArray) (w : World) (hs : s.size ≤ 1099511627776) : Calls Tryd.prog 22 #[.string s, .string ⟨#[97, 98, 99, 100, 101, 102, 103, 104, 105, 106, 107, 108, 109, 110, 111, 112, 113, 114, 115, 116, 117, 118, 119, 120, 121, 122, 48, 49, 50, 51, 52, 53, 54, 55, 56, 57]⟩] w (StrIs (s.data.toList.takeWhile aln) w) :=
  leading_any s _ aln w hs (by decide) asc_both set_both
theorem lead_digits (s : ByteArray) (w : World) (hs : s.size ≤ 1099511627776) : Calls Tryd.prog 22 #[.string s, .string ⟨#[48, 49, 50, 51, 52, 53, 54, 55, 56, 57]⟩] w (StrIs (s.data.toList.takeWhile dgt) w) :=
  leading_any s _ dgt w hs (by decide) asc_digits set_digits
theorem lead_blanks (s : ByteArray) (w : World) (hs : s.size ≤ 1099511627776) : Calls Tryd.prog 22 #[.string s, .string ⟨#[9, 10, 32]⟩] w (StrIs (s.data.toList.takeWhile blk) w) :=
  leading_any s _ blk w hs (by decide) asc_blanks set_blanks

theorem hd_take {f : UInt8 → Bool} (l : List UInt8) : l.takeWhile f = [] ↔ hdB f l = false := by
  cases l with
  | nil => simp [hdB]
  | cons a l =>
    show (a :: l).takeWhile f = [] ↔ f a = false
    by_cases h : f a = true
    · rw [List.takeWhile_cons_of_pos h]; simp [h]
    · rw [List.takeWhile_cons_of_neg h]; simp [h]
theorem all_take {f : UInt8 → Bool} (l : List UInt8) : l.takeWhile f = l ↔ l.all f = true := by
  constructor
  · intro h; rw [← h]; exact take_all l
  · exact take_of_all
theorem tl {t : ByteArray} {L : List UInt8} (h : t.data.toList = L) : t.toList = L := (Lib.toList_data t).trans h
set_option maxHeartbeats 4000000 in
theorem xword_any (s : ByteArray) (w : World) (hs : s.size ≤ 1099511627776) : Calls Tryd.prog 16 #[.string s] w (BoolIs (wordB s.data.toList) w) := by
  have HL := Lib.hid (lead_letters s)
  have HB := Lib.hid (lead_both s)
  have HS := Lib.hid hs
  have hsz := size_list s
  by_cases h0 : s.size ≤ 20
  · have HF1 : Hid (s.data.toList.takeWhile ltr = [] → wordB s.data.toList = false) := Lib.hid (fun this => by
      unfold wordB; rw [hd_take] at this; rw [this]; rfl)
    have HF2 : Hid (s.data.toList.takeWhile aln ≠ s.data.toList → wordB s.data.toList = false) := Lib.hid (fun this => by
      have h2 : s.data.toList.all aln = false := by rw [Bool.eq_false_iff]; exact fun h => this (take_of_all h)
      unfold wordB; rw [h2, Bool.and_false]; rfl)
    have HF3 : Hid (s.data.toList.takeWhile ltr ≠ [] → s.data.toList.takeWhile aln = s.data.toList → wordB s.data.toList = true) := Lib.hid (fun g1 g2 => by
      have h1 : hdB ltr s.data.toList = true := by
        cases h : hdB ltr s.data.toList with
        | true => rfl
        | false => exact absurd ((hd_take _).2 h) g1
      unfold wordB; rw [h1, (all_take _).1 g2, hsz, decide_eq_true h0]; rfl)
    go_enter Tryd.func16, Tryd.ntmps16
    go_wp2_with fail
    refine (HL.out w HS.out).mono ?_
    rintro e w1 ⟨t, rfl, ht, hb⟩
    have ht' := tl ht
    have HT := Lib.hid ht; clear ht
    have HB1 := Lib.hid hb; clear hb
    go_wp2_with fail
    · go_ret
      refine ⟨?_, HB1.out⟩
      rw [HF1.out (by assumption)]; rfl
    · have HNE : Hid (s.data.toList.takeWhile ltr ≠ []) := Lib.hid (by assumption)
      clear ht'
      refine (HB.out w1 HS.out).mono ?_
      rintro e w2 ⟨u, rfl, hu, hb2⟩
      have HU := Lib.hid hu; clear hu
      have HB2 := Lib.hid (HB1.out.trans (hb2.mono HB1.out.size)); clear hb2
      go_wp2_with fail
      go_ret
      refine ⟨?_, HB2.out⟩
      show Ending.returned (Value.bool (!(s.data.toList.takeWhile ltr).isEmpty && u.toList == s.toList)) = _
      rw [str_eq, HU.out, show (s.data.toList.takeWhile ltr).isEmpty = false by rw [List.isEmpty_eq_false_iff]; exact HNE.out]
      show Ending.returned (Value.bool (decide _)) = _
      by_cases g : s.data.toList.takeWhile aln = s.data.toList
      · rw [decide_eq_true g, HF3.out HNE.out g]
      · rw [decide_eq_false g, HF2.out g]
  · have HF : Hid (wordB s.data.toList = false) := Lib.hid (by unfold wordB; rw [hsz, decide_eq_false h0, Bool.and_false])
    go_enter Tryd.func16, Tryd.ntmps16
    go_wp2_with fail
    go_ret
    exact ⟨by rw [HF.out]; rfl, Below.refl _ _⟩

/-- what Number returns. -/
def NumIs (b : Bool) (n : Int) (w : World) (e : Ending) (w' : World) : Prop := e = .returned (.tuple #[.int .i64 n, .bool b]) ∧ Below w.heap.size w w'
def numV (l : List UInt8) : Int := if numB l then (valD l : Int) else 0
set_option maxHeartbeats 4000000 in
theorem xnumber_any (s : ByteArray) (w : World) (hs : s.size ≤ 1099511627776) (hg : Glb w) : Calls Tryd.prog 13 #[.string s] w (NumIs (numB s.data.toList) (numV s.data.toList) w) := by
  have HA := Lib.hid (atoi_any s w hs hg)
  have HI := Lib.hid itoa_any
  have HG := Lib.hid hg; clear hg
  have HR : Hid (numB s.data.toList = true → Lib.atoiAll s.data.toList = .ok (valD s.data.toList : Int) ∧ Lib.itoa (valD s.data.toList : Int) = s.data.toList ∧ valD s.data.toList ≤ 1099511627776) := Lib.hid num_read
  have HK : Hid (∀ v : Int, 0 ≤ v → v ≤ 1099511627776 → Lib.itoa v = s.data.toList → numB s.data.toList = true ∧ v = (valD s.data.toList : Int)) := Lib.hid (fun v a b c => num_back a b c)
  have HF : Hid (∀ w', numB s.data.toList = false → Below w.heap.size w w' → NumIs (numB s.data.toList) (numV s.data.toList) w (.returned (.tuple #[.int .i64 0, .bool false])) w') := Lib.hid (fun w' h hb => ⟨by unfold numV; rw [h]; rfl, hb⟩)
  go_enter Tryd.func13, Tryd.ntmps13
  go_wp2_with fail
  refine HA.out.mono ?_
  rintro e w1 (⟨v, hv, b0, b1, rfl, hb⟩ | ⟨hno, z, t, p, rfl, hb⟩)
  · have HV := Lib.hid hv; clear hv
    have HB1 := Lib.hid hb; clear hb
    by_cases c0 : v < 0
    · go_wp2_with fail
      go_ret2
      refine HF.out _ ?_ HB1.out
      rw [Bool.eq_false_iff]; intro h
      have h1 := (HR.out h).1
      rw [HV.out] at h1; injection h1 with h1; omega
    · by_cases c1 : v ≤ 1099511627776
      · go_wp2_with fail
        refine (HI.out v b0 b1 w1 (HG.out.below HB1.out)).mono ?_
        rintro e w2 ⟨t, rfl, ht, hb2⟩
        have HT := Lib.hid ht; clear ht
        have HB2 := Lib.hid (HB1.out.trans (hb2.mono HB1.out.size)); clear hb2
        cases g : (t.toList == s.toList) with
        | false =>
          have HNE : Hid (¬ (t.data.toList = s.data.toList)) := Lib.hid (by rw [str_eq] at g; exact of_decide_eq_false g)
          go_wp2_with fail
          go_ret2
          refine HF.out _ ?_ HB2.out
          rw [Bool.eq_false_iff]; intro h
          obtain ⟨h1, h2, h3⟩ := HR.out h
          rw [HV.out] at h1; injection h1 with h1
          exact HNE.out (by rw [HT.out, h1, h2])
        | true =>
          have HE : Hid (t.data.toList = s.data.toList) := Lib.hid (by rw [str_eq] at g; exact of_decide_eq_true g)
          go_wp2_with fail
          go_ret2
          obtain ⟨k1, k2⟩ := HK.out v (by omega) c1 (by rw [← HT.out, HE.out])
          refine ⟨?_, HB2.out⟩
          unfold numV; rw [k1, if_pos rfl, ← k2]; rfl
      · go_wp2_with fail
        go_ret2
        refine HF.out _ ?_ HB1.out
        rw [Bool.eq_false_iff]; intro h
        have h1 := (HR.out h).1
        have h2 := (HR.out h).2.2
        rw [HV.out] at h1; injection h1 with h1; omega
  · have HNO := Lib.hid hno; clear hno
    have HB1 := Lib.hid hb; clear hb
    go_wp2_with fail
    go_ret2
    refine HF.out _ ?_ HB1.out
    rw [Bool.eq_false_iff]; intro h
    exact HNO.out _ (HR.out h).1
end Go.Proofs.YtfmocnbhahcgoaaDoor
