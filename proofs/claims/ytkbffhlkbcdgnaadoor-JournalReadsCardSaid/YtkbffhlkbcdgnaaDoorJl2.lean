/-
  The walk of JournalReads.
-/
import Derived.Test.YtkbffhlkbcdgnaaDoorJk
set_option linter.unusedVariables false
set_option maxRecDepth 100000
namespace Go.Proofs.YtkbffhlkbcdgnaaDoor
open Go.RowKit W

theorem in7 : In64 7 := by unfold In64; omega
theorem ok7 : Dk.fileOk 7 := by unfold Dk.fileOk; omega
theorem put_none (s : List UInt8) : put [] 0 s = s := by have := put_end [] s; simpa using this
theorem after_at {T : TypeId} {r : Nat} {u : Value} {s : ByteArray} {f : Bool} {w w' : World} {e : Ending} (h : After T r u s.data.toList f w e w') : e = .returned u ∧ RdrAt T r s f w' ∧ w.grownBy w' (some r) := by
  obtain ⟨he, ⟨s', hs, hr⟩, hg⟩ := h
  obtain rfl : s' = s := ByteArray.ext (Array.toList_inj.1 hs)
  exact ⟨he, hr, hg⟩

/-- one round's two reads: what they give, and what it says of the records. -/
theorem two_reads (q : Nat) (s2 : ByteArray) (wr : World) (hr : RdrAt 80 q s2 false wr) (hs : s2.size ≤ 16777216) :
    ∃ (t s3 : ByteArray) (f3 : Bool) (n : Int) (s4 : ByteArray) (f4 : Bool),
      Calls Tryd.prog 25 #[.pointer (some ⟨q, 0, none⟩)] wr (After 80 q (.string t) s3.data.toList f3 wr) ∧
      (∀ w2, RdrAt 80 q s3 f3 w2 → Calls Tryd.prog 26 #[.pointer (some ⟨q, 0, none⟩)] w2 (After 80 q (.int .i64 n) s4.data.toList f4 w2)) ∧
      t.size ≤ s2.size ∧ 0 ≤ n ∧ W.In64 n ∧
      ((rdRec s2.data.toList = none ∨ 20000 < t.size) ∧ (n ≠ (rsum t.data.toList : Int) ∨ ¬ (eText t.data.toList ++ eNum n) <+: s2.data.toList) ∨
        (s2.data.toList = form t.data.toList ++ s4.data.toList ∧ n = (rsum t.data.toList : Int) ∧ f4 = false ∧ s4.size ≤ s2.size)) := by
  have hT := textR_any q s2 false wr hr (by omega)
  have hml : s2.data.toList.length ≤ maxI := by rw [list_size]; unfold maxI; omega
  cases hx : rdText s2.data.toList with
  | none =>
    rw [hx] at hT
    refine ⟨⟨#[]⟩, ⟨#[]⟩, true, 0, ⟨#[]⟩, true, hT, fun w2 h2 => ?_, Nat.zero_le _, by omega, by unfold W.In64; omega, .inl ⟨.inl (rdRec_text hx), .inr fun hp => ?_⟩⟩
    · have hN := numR_any q ⟨#[]⟩ true w2 h2 (by decide)
      rw [show rdNum (⟨#[]⟩ : ByteArray).data.toList = none from rdNum_nil] at hN
      exact hN
    · obtain ⟨X, hX⟩ := hp
      have := (rdText_iff _ hml [] (eNum 0 ++ X)).2 (by rw [← hX]; simp)
      rw [hx] at this
      cases this
  | some x =>
    obtain ⟨l, r1⟩ := x
    rw [hx] at hT
    have hform := (rdText_iff _ hml _ _).1 hx
    have hll := congrArg List.length hform
    rw [List.length_append, list_size] at hll
    have hl : l.length ≤ s2.size := by unfold eText at hll; simp at hll; omega
    have hr1 : r1.length ≤ s2.size := by omega
    have hb3 : (bs r1).size = r1.length := by rw [← list_size]; rfl
    cases hy : rdNum r1 with
    | none =>
      refine ⟨bs l, bs r1, false, 0, ⟨#[]⟩, true, hT, fun w2 h2 => ?_, by rw [← list_size]; exact hl, by omega, by unfold W.In64; omega, .inl ⟨.inl (rdRec_num hx hy), .inr fun hp => ?_⟩⟩
      · have hN := numR_any q (bs r1) false w2 h2 (by omega)
        rw [show rdNum (bs r1).data.toList = none from hy] at hN
        exact hN
      · obtain ⟨X, hX⟩ := hp
        have h1 := (rdText_iff _ hml l (eNum 0 ++ X)).2 (by rw [← hX]; simp [bs])
        rw [hx] at h1
        simp only [Option.some.injEq, Prod.mk.injEq, true_and] at h1
        have h2 := (rdNum_iff r1 0 X).2 ⟨by rw [h1, eNum, if_neg (by omega)], by omega, by unfold W.In64; omega⟩
        rw [hy] at h2
        cases h2
    | some y =>
      obtain ⟨n, r2⟩ := y
      have hnum := (rdNum_iff _ _ _).1 hy
      have hnl := congrArg List.length hnum.1
      rw [List.length_append] at hnl
      refine ⟨bs l, bs r1, false, n, bs r2, false, hT, fun w2 h2 => ?_, by rw [← list_size]; exact hl, hnum.2.1, hnum.2.2, ?_⟩
      · have hN := numR_any q (bs r1) false w2 h2 (by omega)
        rw [show rdNum (bs r1).data.toList = some (n, r2) from hy] at hN
        exact hN
      · by_cases hn : n = (rsum l : Int)
        · right
          refine ⟨?_, hn, rfl, ?_⟩
          · show s2.data.toList = form l ++ r2
            unfold form
            rw [hform, hnum.1, ← hn, eNum, if_neg (by omega)]
            simp
          · rw [← list_size]
            show r2.length ≤ _
            omega
        · exact .inl ⟨.inl (rdRec_bad hx hy (fun h => hn h.2)), .inl hn⟩

theorem ext_part (s : ByteArray) (a n : Nat) : (s.extract a (a + n)).data.toList = (s.data.toList.drop a).take n := by
  rw [ByteArray.data_extract, Array.toList_extract, List.extract_eq_take_drop, Nat.add_sub_cancel_left]
theorem bs_ne {a b : ByteArray} (h : a ≠ b) : (a.toList == b.toList) = false := by
  rw [beq_eq_false_iff_ne]
  intro e
  rw [ByteArray.toList_eq, ByteArray.toList_eq] at e
  exact h (ByteArray.ext (Array.toList_inj.1 e))
theorem str_eq {a b : ByteArray} (h : a.data.toList = b.data.toList) : a = b := ByteArray.ext (Array.toList_inj.1 h)

set_option maxHeartbeats 8000000 in
theorem jreads_walk (s : ByteArray) (w : World) (hs : s.size ≤ 9223372036854775807) (ht : Tab w) :
    Calls Tryd.prog 5 #[.string s] w fun e w' => e = .returned (.bool true) ∧ Below w.heap.size w w' := by
  obtain ⟨i0, hi0, hz0, hz1, hz2⟩ := info_parts infoStr
  have HT := Lib.hid ht
  clear ht
  go_enter Tryd.func5, Tryd.ntmps5
  go_wp2_with fail
  refine (jsmall_any w HT.out).mono ?_
  rintro e w1 ⟨rfl, b1⟩
  have B1 := Lib.hid b1
  clear b1
  by_cases h300 : 300 < s.size
  · have h300' : (300 : Int) < (s.size : Int) := by omega
    go_wp2
    go_ret
    exact ⟨rfl, B1.out⟩
  have h300' : (s.size : Int) ≤ 300 := by omega
  have hls := list_size s
  go_wp2_with fail
  refine (hNew B1.out).mono ?_
  rintro e w2 ⟨r, L, rfl, hh, _, _⟩
  have H2 := Lib.hid hh
  clear hh
  obtain ⟨a1, a2⟩ := Dk.write_up Dk.up_new ok7 (a := 0) (s := s.data.toList) (by omega) (by omega)
  have A1 := Lib.hid a1
  have A2 := Lib.hid a2
  clear a1 a2
  go_wp2_with fail
  refine (hWrite H2.out (by omega) in7 in0 s (by omega)).mono ?_
  rintro e w3 ⟨he, L3, h3⟩
  obtain rfl := ret_is he A1.out
  have H3 := Lib.hid h3
  have hn7 : (Dk.new.write 7 0 s.data.toList).1.now 7 = s.data.toList := by
    rw [A2.out.now, upd_same]; exact put_none _
  have hup := A2.out.up
  have hlost : (Dk.new.write 7 0 s.data.toList).1.lost = 0 := A2.out.lost
  clear h3 he H2 A1 A2
  generalize (Dk.new.write 7 0 s.data.toList).1 = d1 at *
  obtain ⟨o1, o2, o3⟩ := jopen_up hup H3.out.at_.ok ok7 hlost
  have hmI : s.data.toList.length ≤ maxI := by rw [hls]; unfold maxI; omega
  have hle := recs_le (s := s.data.toList) hmI
  have htk := recs_take (s := s.data.toList) hmI
  have hok := recs_ok (s := s.data.toList) hmI
  have hcnt := forms_count (R := recs s.data.toList)
  rw [hn7] at o2 o3
  obtain ⟨R0, hR0⟩ : ∃ R0, R0 = recs s.data.toList := ⟨_, rfl⟩
  rw [← hR0] at o2 o3 hle htk hok hcnt
  have O1 := Lib.hid o1
  have O2 := Lib.hid o2
  have O3 := Lib.hid o3
  have HR0 := Lib.hid hR0
  clear o1 o2 o3 hup hn7 hR0
  go_wp2_with fail
  refine (hOpen_ok H3.out (by omega) in7 O1.out).mono ?_
  rintro e w4 ⟨L4, rj, v, rfl, h4, _⟩
  rw [O2.out] at h4
  have H4 := Lib.hid h4
  clear h4 H3 O1 O2
  have hn2 : (jopen d1 7).1.now 7 = forms R0 := O3.out.kept.now
  have hup2 := O3.out.up
  have hlost2 : (jopen d1 7).1.lost = 0 := O3.out.lost.trans hlost
  have hrd := Dk.read_part ok7 O3.out.up.down (f := 7) (a := 0) (n := ((forms R0).length : Int)) (by omega) (by omega)
  rw [hn2, Int.toNat_zero, List.drop_zero, Int.toNat_natCast, List.take_length] at hrd
  have HRD := Lib.hid hrd
  clear O3 hlost hrd
  generalize (jopen d1 7).1 = d2 at *
  go_wp2_with fail
  refine (hAll H4.out (by omega)).mono ?_
  rintro e wB ⟨A, cap, rfl, hcap, hrow, h5, hb5⟩
  have H5 := Lib.hid h5
  have HGOT := Lib.hid hrow
  clear h5 hrow hb5 H4
  have hml5 : ∀ b, MO r L4 rj v b → b < wB.heap.size := fun b hb => H5.out.lt hb
  have HML := Lib.hid hml5
  clear hml5
  go_wp2_with fail
  refine (W.open_any s wB).mono ?_
  rintro e w6 ⟨rfl, hw6⟩
  have hI0 : Hid (PInv s wB.heap.size (.slice none 0 0) [] s wB w6) := Lib.hid (by
    subst hw6
    exact ⟨by simp [forms], (fun t h => nomatch h), by unfold RdrAt; exact heap_alloc_new wB _, World.ownsRow_nil _ _ _ _, (Below.refl _ _).alloc (Nat.le_refl _) _, Nat.le_refl _, by simp [Value.ownBlock]⟩)
  clear hw6
  obtain ⟨q, hq⟩ : ∃ q, q = wB.heap.size := ⟨_, rfl⟩
  rw [← hq] at hI0 ⊢
  have HQ := Lib.hid hq
  clear hq
  go_wp2
  go_loopw [9, 10, 11, 12, 13] (fun v n _ _ _ wr => ∃ (R : List (List UInt8)) (s2 : ByteArray), n = .int .i64 ((forms R).length : Int) ∧ Hid (PInv s q v R s2 wB wr)) (fun _ n _ _ _ _ => s.size - (intOf n).toNat)
  case atStart => exact ⟨[], s, rfl, hI0⟩
  case round =>
    clear hI0
    obtain ⟨R, s2, rfl, hI⟩ := hrel
    have hlen := hI.out.len
    have hRl : R.length ≤ (forms R).length := forms_count
    obtain ⟨F, hF0⟩ : ∃ F, F = (forms R).length := ⟨_, rfl⟩
    rw [← hF0] at hlen hRl ⊢
    have HF0 := Lib.hid hF0
    have hF300 : F ≤ 300 := by omega
    have hl1 : s.size ≤ F + s2.size := by omega
    have hl2 : F + s2.size ≤ s.size := by omega
    clear hF0 hlen
    by_cases hz : s2.size = 0
    · have hnil : s2.data.toList = [] := List.eq_nil_of_length_eq_zero (by rw [list_size]; exact hz)
      have hz' : (s2.size : Int) ≤ 0 := by omega
      have hRR : R0 = R := by rw [HR0.out]; exact (recs_eq hmI ⟨hI.out.eq, hI.out.ok, by rw [hnil]; exact rdRec_nil⟩)
      go_wp2_with fail
      refine (W.left_any q s2 false wr hI.out.rdr).mono ?_
      rintro e w7 ⟨rfl, rfl⟩
      subst hRR
      have hF := HF0.out
      subst hF
      have HX := Lib.hid (And.intro hI.out.own hI.out.bel)
      clear HR0

      have HJ6 := Lib.hid (H5.out.below HX.out.2)
      have HG6 := Lib.hid (HGOT.out.below HX.out.2)
      obtain ⟨Aw, capw, hvw, hw6⟩ := TRow.of_own (O := MO r L4 rj v) HX.out.1 (fun b hb hm => by
        have := (HX.out.1.lt b hb).1
        have := HML.out b hm
        omega)
      subst hvw
      have HW6 := Lib.hid hw6
      clear hw6 HX hI HGOT H5 HML
      go_wp2_with fail
      refine (mSize HJ6.out.disk in7).mono ?_
      rintro e wa ⟨he, rfl⟩
      rw [hn2] at he
      subst he
      go_wp2_with fail
      refine (jRead HJ6.out (by omega) in7 in0 (by unfold In64; omega)).mono ?_
      rintro e wb ⟨left, he, hleft, h7, hb7⟩
      rw [HRD.out] at he hleft
      subst he
      have H7 := Lib.hid h7
      have HG7 := Lib.hid (HG6.out.below hb7)
      have HW7 := Lib.hid (HW6.out.below hb7)
      obtain rfl : left = s.extract 0 (forms R0).length := str_eq (by rw [hleft, show (s.extract 0 (forms R0).length) = s.extract 0 (0 + (forms R0).length) by rw [Nat.zero_add], ext_part, List.drop_zero, htk])
      clear h7 hb7 hleft HJ6 HG6 HW6
      obtain ⟨o1, o2, o3⟩ := jopen_up hup2 H7.out.disk.ok ok7 hlost2
      rw [hn2, recs_forms (by unfold maxI; omega) hok] at o2 o3
      have O1 := Lib.hid o1
      have O2 := Lib.hid o2
      have hn3 : (jopen d2 7).1.now 7 = forms R0 := o3.kept.now
      have hrd3 := Dk.read_part ok7 o3.up.down (f := 7) (a := 0) (n := ((forms R0).length : Int)) (by omega) (by omega)
      rw [hn3, Int.toNat_zero, List.drop_zero, Int.toNat_natCast, List.take_length] at hrd3
      have HRD3 := Lib.hid hrd3
      clear o1 o2 o3 hrd3
      go_wp2_with fail
      refine (hOpen_ok H7.out.held (by omega) in7 O1.out).mono ?_
      rintro e wc ⟨L8, rk, vk, rfl, h8, k8⟩
      rw [O2.out] at h8
      have H8 := Lib.hid h8
      have HG8 := Lib.hid (HG7.out.step (k8.widen (P := MO r L4 rj v) (fun b hb => .inl hb)))
      have HW8 := Lib.hid (HW7.out.step (k8.widen (P := MO r L4 rj v) (fun b hb => .inl hb)))
      clear h8 k8 H7 HG7 HW7 O1 O2
      generalize (jopen d2 7).1 = d3 at *
      go_wp2_with fail
      refine (mSize H8.out.disk in7).mono ?_
      rintro e wd ⟨he, rfl⟩
      rw [hn3] at he
      subst he
      go_wp2_with fail
      refine (jRead H8.out (by omega) in7 in0 (by unfold In64; omega)).mono ?_
      rintro e we ⟨again, he, hagain, h9, hb9⟩
      rw [HRD3.out] at he hagain
      subst he
      have H9 := Lib.hid h9
      have HG9 := Lib.hid (HG8.out.below hb9)
      have HW9 := Lib.hid (HW8.out.below hb9)
      obtain rfl : again = s.extract 0 (forms R0).length := str_eq (by rw [hagain, show (s.extract 0 (forms R0).length) = s.extract 0 (0 + (forms R0).length) by rw [Nat.zero_add], ext_part, List.drop_zero, htk])
      clear h9 hb9 hagain H8 HG8 HW8 HRD3
      go_wp2_with fail
      refine (sameT_any A cap Aw capw R0 we HG9.out HW9.out (by omega)).mono ?_
      rintro e wf ⟨rfl, hbf⟩
      have HF1 := Lib.hid (H9.out.below hbf)
      have HW10 := Lib.hid (HW9.out.below hbf)
      clear hbf H9 HG9 HW9
      go_wp2_with fail
      refine (hAll HF1.out (by omega)).mono ?_
      rintro e wg ⟨Ak, capk, rfl, _, hrk, hg, hbg⟩
      have HF2 := Lib.hid hg
      have HRK := Lib.hid hrk
      have HW11 := Lib.hid (HW10.out.below hbg)
      clear hg hrk hbg HF1 HW10
      go_wp2_with fail
      refine (sameT_any Ak capk Aw capw R0 wg HRK.out HW11.out (by omega)).mono ?_
      rintro e wh ⟨rfl, hbh⟩
      have HF3 := Lib.hid (HF2.out.bel.trans (hbh.mono HF2.out.bel.size))
      clear hbh HF2 HRK HW11
      go_wp2
      go_ret
      exact ⟨rfl, HF3.out⟩
    · have hz' : (0 : Int) < (s2.size : Int) := by omega
      go_wp2_with fail
      refine (W.left_any q s2 false wr hI.out.rdr).mono ?_
      rintro e w7 ⟨rfl, rfl⟩
      obtain ⟨t, s3, f3, n, s4, f4, hT, hN, htz, hn0, hn64, hor⟩ := two_reads q s2 wr hI.out.rdr (by omega)
      have HTX := Lib.hid hT
      have HNM := Lib.hid hN
      have HOR := Lib.hid hor
      clear hT hN hor
      go_wp2_with fail
      refine HTX.out.mono ?_
      rintro e w7 ha
      obtain ⟨rfl, hr7, hg7⟩ := after_at ha
      have HR7 := Lib.hid hr7
      have HG7 := Lib.hid hg7
      clear ha hr7 hg7 HTX
      go_wp2_with fail
      refine (HNM.out _ HR7.out).mono ?_
      rintro e w8 ha
      obtain ⟨rfl, hr8, hg8⟩ := after_at ha
      have HR8 := Lib.hid hr8
      have HG8 := Lib.hid (grown_trans HG7.out hg8)
      clear ha hr8 hg8 HNM HG7 HR7
      obtain ⟨hown8, hbel8⟩ := hI.out.on HG8.out
      have HB8 := Lib.hid (H5.out.bel.trans (hbel8.mono H5.out.bel.size))
      clear hown8 hbel8
      go_wp2_with fail
      refine (text_any t (by omega) w8 (HT.out.on HB8.out)).mono ?_
      rintro e w9 ⟨ta, rfl, hta, hb9⟩
      have hsa := size_of hta
      have hsa2 := eText_len t.data.toList (by rw [list_size]; omega)
      rw [list_size] at hsa2
      have hsa3 : ta.size ≤ 321 := by omega
      have HSA := Lib.hid hsa
      clear hsa hsa2
      have HTA := Lib.hid hta
      have HB9 := Lib.hid hb9
      clear hta hb9
      go_wp2_with fail
      refine (num_any n hn64 w9 (HT.out.on (HB8.out.trans (HB9.out.mono HB8.out.size)))).mono ?_
      rintro e w10 ⟨na, rfl, hna, hb10⟩
      have hsn := size_of hna
      have hsn2 := eInt_len n hn64
      have hsn4 : na.size ≤ 21 := by rw [hsn, eNum, if_neg (by omega)]; omega
      have HSN := Lib.hid hsn
      clear hsn hsn2
      have HNA := Lib.hid hna
      have HB10 := Lib.hid (HB9.out.trans (hb10.mono HB9.out.size))
      clear hna hb10 HB9
      have hu : (ta ++ na).data.toList = eText t.data.toList ++ eNum n := by
        rw [← HTA.out, ← HNA.out]; simp
      have huz : (ta ++ na).size = ta.size + na.size := by simp
      have HU := Lib.hid hu
      clear hu
      go_wp2_with fail
      refine (jsum_any t w10 (by omega)).mono ?_
      rintro e w11 ⟨rfl, rfl⟩
      rcases HOR.out with ⟨hnone, hbad⟩ | ⟨hgood, hnr, hf4, hs4⟩
      · have hnone' : rdRec s2.data.toList = none := by
          rcases hnone with h | h
          · exact h
          · omega
        have hRR : R0 = R := by rw [HR0.out]; exact (recs_eq hmI ⟨hI.out.eq, hI.out.ok, hnone'⟩)
        have hx11 := hI.out.on HG8.out
        have HX := Lib.hid (And.intro (ownKeep hx11.1 fun b hb => HB10.out.block b (brow_lt (ownKind hx11.1 hb).choose_spec)) (hx11.2.trans (HB10.out.mono hx11.2.size)))
        clear hx11 hnone hnone'
        by_cases hnr : n = (rsum t.data.toList : Int)
        · have hnp : ¬ (ta ++ na).data.toList <+: s2.data.toList := by
            rw [HU.out]
            rcases hbad with h | h
            · exact absurd hnr h
            · exact h
          by_cases hov : s.size < F + (ta ++ na).size
          · have hov' : (s.size : Int) < (F : Int) + ((ta ++ na).size : Int) := by omega
            rw [huz] at hov'
            clear huz hov
            subst hRR
            have hF := HF0.out
            subst hF
            subst hnr
            clear HR0 hbad hnp HOR
            have HJ6 := Lib.hid (H5.out.below HX.out.2)
            have HG6 := Lib.hid (HGOT.out.below HX.out.2)
            obtain ⟨Aw, capw, hvw, hw6⟩ := TRow.of_own (O := MO r L4 rj v) HX.out.1 (fun b hb hm => by
              have := (HX.out.1.lt b hb).1
              have := HML.out b hm
              omega)
            subst hvw
            have HW6 := Lib.hid hw6
            clear hw6 HX hI HGOT H5 HML
            go_wp2_with fail
            refine (mSize HJ6.out.disk in7).mono ?_
            rintro e wa ⟨he, rfl⟩
            rw [hn2] at he
            subst he
            go_wp2_with fail
            refine (jRead HJ6.out (by omega) in7 in0 (by unfold In64; omega)).mono ?_
            rintro e wb ⟨left, he, hleft, h7, hb7⟩
            rw [HRD.out] at he hleft
            subst he
            have H7 := Lib.hid h7
            have HG7 := Lib.hid (HG6.out.below hb7)
            have HW7 := Lib.hid (HW6.out.below hb7)
            obtain rfl : left = s.extract 0 (forms R0).length := str_eq (by rw [hleft, show (s.extract 0 (forms R0).length) = s.extract 0 (0 + (forms R0).length) by rw [Nat.zero_add], ext_part, List.drop_zero, htk])
            clear h7 hb7 hleft HJ6 HG6 HW6
            obtain ⟨o1, o2, o3⟩ := jopen_up hup2 H7.out.disk.ok ok7 hlost2
            rw [hn2, recs_forms (by unfold maxI; omega) hok] at o2 o3
            have O1 := Lib.hid o1
            have O2 := Lib.hid o2
            have hn3 : (jopen d2 7).1.now 7 = forms R0 := o3.kept.now
            have hrd3 := Dk.read_part ok7 o3.up.down (f := 7) (a := 0) (n := ((forms R0).length : Int)) (by omega) (by omega)
            rw [hn3, Int.toNat_zero, List.drop_zero, Int.toNat_natCast, List.take_length] at hrd3
            have HRD3 := Lib.hid hrd3
            clear o1 o2 o3 hrd3
            go_wp2_with fail
            refine (hOpen_ok H7.out.held (by omega) in7 O1.out).mono ?_
            rintro e wc ⟨L8, rk, vk, rfl, h8, k8⟩
            rw [O2.out] at h8
            have H8 := Lib.hid h8
            have HG8 := Lib.hid (HG7.out.step (k8.widen (P := MO r L4 rj v) (fun b hb => .inl hb)))
            have HW8 := Lib.hid (HW7.out.step (k8.widen (P := MO r L4 rj v) (fun b hb => .inl hb)))
            clear h8 k8 H7 HG7 HW7 O1 O2
            generalize (jopen d2 7).1 = d3 at *
            go_wp2_with fail
            refine (mSize H8.out.disk in7).mono ?_
            rintro e wd ⟨he, rfl⟩
            rw [hn3] at he
            subst he
            go_wp2_with fail
            refine (jRead H8.out (by omega) in7 in0 (by unfold In64; omega)).mono ?_
            rintro e we ⟨again, he, hagain, h9, hb9⟩
            rw [HRD3.out] at he hagain
            subst he
            have H9 := Lib.hid h9
            have HG9 := Lib.hid (HG8.out.below hb9)
            have HW9 := Lib.hid (HW8.out.below hb9)
            obtain rfl : again = s.extract 0 (forms R0).length := str_eq (by rw [hagain, show (s.extract 0 (forms R0).length) = s.extract 0 (0 + (forms R0).length) by rw [Nat.zero_add], ext_part, List.drop_zero, htk])
            clear h9 hb9 hagain H8 HG8 HW8 HRD3
            go_wp2_with fail
            refine (sameT_any A cap Aw capw R0 we HG9.out HW9.out (by omega)).mono ?_
            rintro e wf ⟨rfl, hbf⟩
            have HF1 := Lib.hid (H9.out.below hbf)
            have HW10 := Lib.hid (HW9.out.below hbf)
            clear hbf H9 HG9 HW9
            go_wp2_with fail
            refine (hAll HF1.out (by omega)).mono ?_
            rintro e wg ⟨Ak, capk, rfl, _, hrk, hg, hbg⟩
            have HF2 := Lib.hid hg
            have HRK := Lib.hid hrk
            have HW11 := Lib.hid (HW10.out.below hbg)
            clear hg hrk hbg HF1 HW10
            go_wp2_with fail
            refine (sameT_any Ak capk Aw capw R0 wg HRK.out HW11.out (by omega)).mono ?_
            rintro e wh ⟨rfl, hbh⟩
            have HF3 := Lib.hid (HF2.out.bel.trans (hbh.mono HF2.out.bel.size))
            clear hbh HF2 HRK HW11
            go_wp2
            go_ret
            exact ⟨rfl, HF3.out⟩
          · have hne : s.extract F (F + (ta ++ na).size) ≠ ta ++ na := fun e => hnp (by
              have h1 : (s.extract F (F + (ta ++ na).size)).data.toList = (ta ++ na).data.toList := congrArg (fun x : ByteArray => x.data.toList) e
              rw [ext_part, hI.out.eq, HF0.out, List.drop_left] at h1
              rw [← h1]
              exact List.take_prefix _ _)
            have hov' : (F : Int) + ((ta ++ na).size : Int) ≤ (s.size : Int) := by omega
            have hneb := bs_ne hne
            rw [huz] at hov' hne hneb
            clear huz hne hov
            subst hRR
            have hF := HF0.out
            subst hF
            subst hnr
            clear HR0 hbad hnp HOR
            have HJ6 := Lib.hid (H5.out.below HX.out.2)
            have HG6 := Lib.hid (HGOT.out.below HX.out.2)
            obtain ⟨Aw, capw, hvw, hw6⟩ := TRow.of_own (O := MO r L4 rj v) HX.out.1 (fun b hb hm => by
              have := (HX.out.1.lt b hb).1
              have := HML.out b hm
              omega)
            subst hvw
            have HW6 := Lib.hid hw6
            clear hw6 HX hI HGOT H5 HML
            go_wp2_with fail
            refine (mSize HJ6.out.disk in7).mono ?_
            rintro e wa ⟨he, rfl⟩
            rw [hn2] at he
            subst he
            go_wp2_with fail
            refine (jRead HJ6.out (by omega) in7 in0 (by unfold In64; omega)).mono ?_
            rintro e wb ⟨left, he, hleft, h7, hb7⟩
            rw [HRD.out] at he hleft
            subst he
            have H7 := Lib.hid h7
            have HG7 := Lib.hid (HG6.out.below hb7)
            have HW7 := Lib.hid (HW6.out.below hb7)
            obtain rfl : left = s.extract 0 (forms R0).length := str_eq (by rw [hleft, show (s.extract 0 (forms R0).length) = s.extract 0 (0 + (forms R0).length) by rw [Nat.zero_add], ext_part, List.drop_zero, htk])
            clear h7 hb7 hleft HJ6 HG6 HW6
            obtain ⟨o1, o2, o3⟩ := jopen_up hup2 H7.out.disk.ok ok7 hlost2
            rw [hn2, recs_forms (by unfold maxI; omega) hok] at o2 o3
            have O1 := Lib.hid o1
            have O2 := Lib.hid o2
            have hn3 : (jopen d2 7).1.now 7 = forms R0 := o3.kept.now
            have hrd3 := Dk.read_part ok7 o3.up.down (f := 7) (a := 0) (n := ((forms R0).length : Int)) (by omega) (by omega)
            rw [hn3, Int.toNat_zero, List.drop_zero, Int.toNat_natCast, List.take_length] at hrd3
            have HRD3 := Lib.hid hrd3
            clear o1 o2 o3 hrd3
            go_wp2_with fail
            refine (hOpen_ok H7.out.held (by omega) in7 O1.out).mono ?_
            rintro e wc ⟨L8, rk, vk, rfl, h8, k8⟩
            rw [O2.out] at h8
            have H8 := Lib.hid h8
            have HG8 := Lib.hid (HG7.out.step (k8.widen (P := MO r L4 rj v) (fun b hb => .inl hb)))
            have HW8 := Lib.hid (HW7.out.step (k8.widen (P := MO r L4 rj v) (fun b hb => .inl hb)))
            clear h8 k8 H7 HG7 HW7 O1 O2
            generalize (jopen d2 7).1 = d3 at *
            go_wp2_with fail
            refine (mSize H8.out.disk in7).mono ?_
            rintro e wd ⟨he, rfl⟩
            rw [hn3] at he
            subst he
            go_wp2_with fail
            refine (jRead H8.out (by omega) in7 in0 (by unfold In64; omega)).mono ?_
            rintro e we ⟨again, he, hagain, h9, hb9⟩
            rw [HRD3.out] at he hagain
            subst he
            have H9 := Lib.hid h9
            have HG9 := Lib.hid (HG8.out.below hb9)
            have HW9 := Lib.hid (HW8.out.below hb9)
            obtain rfl : again = s.extract 0 (forms R0).length := str_eq (by rw [hagain, show (s.extract 0 (forms R0).length) = s.extract 0 (0 + (forms R0).length) by rw [Nat.zero_add], ext_part, List.drop_zero, htk])
            clear h9 hb9 hagain H8 HG8 HW8 HRD3
            go_wp2_with fail
            refine (sameT_any A cap Aw capw R0 we HG9.out HW9.out (by omega)).mono ?_
            rintro e wf ⟨rfl, hbf⟩
            have HF1 := Lib.hid (H9.out.below hbf)
            have HW10 := Lib.hid (HW9.out.below hbf)
            clear hbf H9 HG9 HW9
            go_wp2_with fail
            refine (hAll HF1.out (by omega)).mono ?_
            rintro e wg ⟨Ak, capk, rfl, _, hrk, hg, hbg⟩
            have HF2 := Lib.hid hg
            have HRK := Lib.hid hrk
            have HW11 := Lib.hid (HW10.out.below hbg)
            clear hg hrk hbg HF1 HW10
            go_wp2_with fail
            refine (sameT_any Ak capk Aw capw R0 wg HRK.out HW11.out (by omega)).mono ?_
            rintro e wh ⟨rfl, hbh⟩
            have HF3 := Lib.hid (HF2.out.bel.trans (hbh.mono HF2.out.bel.size))
            clear hbh HF2 HRK HW11
            go_wp2
            go_ret
            exact ⟨rfl, HF3.out⟩
        · have hnb : (n != (rsum t.data.toList : Int)) = true := by simpa using hnr
          subst hRR
          have hF := HF0.out
          subst hF
          clear HR0 hbad HOR
          generalize (rsum t.data.toList : Int) = S at *
          have HJ6 := Lib.hid (H5.out.below HX.out.2)
          have HG6 := Lib.hid (HGOT.out.below HX.out.2)
          obtain ⟨Aw, capw, hvw, hw6⟩ := TRow.of_own (O := MO r L4 rj v) HX.out.1 (fun b hb hm => by
            have := (HX.out.1.lt b hb).1
            have := HML.out b hm
            omega)
          subst hvw
          have HW6 := Lib.hid hw6
          clear hw6 HX hI HGOT H5 HML
          go_wp2_with fail
          refine (mSize HJ6.out.disk in7).mono ?_
          rintro e wa ⟨he, rfl⟩
          rw [hn2] at he
          subst he
          go_wp2_with fail
          refine (jRead HJ6.out (by omega) in7 in0 (by unfold In64; omega)).mono ?_
          rintro e wb ⟨left, he, hleft, h7, hb7⟩
          rw [HRD.out] at he hleft
          subst he
          have H7 := Lib.hid h7
          have HG7 := Lib.hid (HG6.out.below hb7)
          have HW7 := Lib.hid (HW6.out.below hb7)
          obtain rfl : left = s.extract 0 (forms R0).length := str_eq (by rw [hleft, show (s.extract 0 (forms R0).length) = s.extract 0 (0 + (forms R0).length) by rw [Nat.zero_add], ext_part, List.drop_zero, htk])
          clear h7 hb7 hleft HJ6 HG6 HW6
          obtain ⟨o1, o2, o3⟩ := jopen_up hup2 H7.out.disk.ok ok7 hlost2
          rw [hn2, recs_forms (by unfold maxI; omega) hok] at o2 o3
          have O1 := Lib.hid o1
          have O2 := Lib.hid o2
          have hn3 : (jopen d2 7).1.now 7 = forms R0 := o3.kept.now
          have hrd3 := Dk.read_part ok7 o3.up.down (f := 7) (a := 0) (n := ((forms R0).length : Int)) (by omega) (by omega)
          rw [hn3, Int.toNat_zero, List.drop_zero, Int.toNat_natCast, List.take_length] at hrd3
          have HRD3 := Lib.hid hrd3
          clear o1 o2 o3 hrd3
          go_wp2_with fail
          refine (hOpen_ok H7.out.held (by omega) in7 O1.out).mono ?_
          rintro e wc ⟨L8, rk, vk, rfl, h8, k8⟩
          rw [O2.out] at h8
          have H8 := Lib.hid h8
          have HG8 := Lib.hid (HG7.out.step (k8.widen (P := MO r L4 rj v) (fun b hb => .inl hb)))
          have HW8 := Lib.hid (HW7.out.step (k8.widen (P := MO r L4 rj v) (fun b hb => .inl hb)))
          clear h8 k8 H7 HG7 HW7 O1 O2
          generalize (jopen d2 7).1 = d3 at *
          go_wp2_with fail
          refine (mSize H8.out.disk in7).mono ?_
          rintro e wd ⟨he, rfl⟩
          rw [hn3] at he
          subst he
          go_wp2_with fail
          refine (jRead H8.out (by omega) in7 in0 (by unfold In64; omega)).mono ?_
          rintro e we ⟨again, he, hagain, h9, hb9⟩
          rw [HRD3.out] at he hagain
          subst he
          have H9 := Lib.hid h9
          have HG9 := Lib.hid (HG8.out.below hb9)
          have HW9 := Lib.hid (HW8.out.below hb9)
          obtain rfl : again = s.extract 0 (forms R0).length := str_eq (by rw [hagain, show (s.extract 0 (forms R0).length) = s.extract 0 (0 + (forms R0).length) by rw [Nat.zero_add], ext_part, List.drop_zero, htk])
          clear h9 hb9 hagain H8 HG8 HW8 HRD3
          go_wp2_with fail
          refine (sameT_any A cap Aw capw R0 we HG9.out HW9.out (by omega)).mono ?_
          rintro e wf ⟨rfl, hbf⟩
          have HF1 := Lib.hid (H9.out.below hbf)
          have HW10 := Lib.hid (HW9.out.below hbf)
          clear hbf H9 HG9 HW9
          go_wp2_with fail
          refine (hAll HF1.out (by omega)).mono ?_
          rintro e wg ⟨Ak, capk, rfl, _, hrk, hg, hbg⟩
          have HF2 := Lib.hid hg
          have HRK := Lib.hid hrk
          have HW11 := Lib.hid (HW10.out.below hbg)
          clear hg hrk hbg HF1 HW10
          go_wp2_with fail
          refine (sameT_any Ak capk Aw capw R0 wg HRK.out HW11.out (by omega)).mono ?_
          rintro e wh ⟨rfl, hbh⟩
          have HF3 := Lib.hid (HF2.out.bel.trans (hbh.mono HF2.out.bel.size))
          clear hbh HF2 HRK HW11
          go_wp2
          go_ret
          exact ⟨rfl, HF3.out⟩
      · subst hnr
        subst hf4
        have hformz := congrArg List.length hgood
        have hpos := form_pos t.data.toList
        have hfe : form t.data.toList = eText t.data.toList ++ eNum (rsum t.data.toList : Int) := rfl
        have hfl := congrArg List.length hfe
        rw [List.length_append] at hfl
        rw [List.length_append, list_size, list_size] at hformz
        have hsa := HSA.out
        have hsn := HSN.out
        have hov' : (F : Int) + ((ta ++ na).size : Int) ≤ (s.size : Int) := by omega
        have hadd : (forms (R ++ [t.data.toList])).length = F + (ta.size + na.size) := by
          rw [forms_snoc, List.length_append, HF0.out]; omega
        have HADD := Lib.hid hadd
        have heq : s.extract F (F + (ta ++ na).size) = ta ++ na := str_eq (by
          rw [ext_part, hI.out.eq, HF0.out, List.drop_left, HU.out, ← hfe, hgood, List.take_left' (by rw [← list_size, HU.out, ← hfe])])
        have htp : 0 < ta.size + na.size := by omega
        rw [huz] at hov' heq
        obtain ⟨hown, hbel⟩ := hI.out.on HG8.out
        have hge := hI.out.ge
        have hne := hI.out.ne
        have hown11 := ownKeep hown fun b hb => HB10.out.block b (brow_lt (ownKind hown hb).choose_spec)
        have hbel11 := hbel.trans (HB10.out.mono hbel.size)
        have hr11 : RdrAt 80 q s4 false w11 := HR8.out.below HB10.out HR8.out.lt
        have HO := Lib.hid hown11
        have HB := Lib.hid hbel11
        have HR11 := Lib.hid hr11
        have hbz := hbel11.size
        have HI := hI
        have HGD := Lib.hid hgood
        clear hown hbel hown11 hbel11 hr11 hI hgood HR8 HG8 HB10 HOR hfe huz hsa hsn hfl hformz hadd
        generalize hS : rsum t.data.toList = S at *
        clear hS
        go_wp2_with (at_builtin; refine wpList_append_own _ rfl _ _ 32 rfl wB.heap.size 9 i0 (.string ⟨#[]⟩) 1 16 Tryd.underlying32 hi0 hz0 hz1 hz2 rfl (by decide) _ _ _ rfl (HO.out.alloc _) ⟨w11.heap.size, 0, none⟩ 1 1 [.string t] rfl rfl ?c1 ?c2 ?c3 ?c4 ?c5 ?_)
        case c1 =>
          intro j x hj
          match j, hj with
          | 0, hj => simp at hj; subst hj; simp [Addr.add]
        case c2 => intro x hx; simp at hx; subst hx; rfl
        case c3 => unfold maxLen; omega
        case c4 => omega
        case c5 => simp; omega
        intro v' w12 hown' hgrow _
        have hql := HR11.out.lt
        have hr12 : RdrAt 80 q s4 false w12 := by
          unfold RdrAt
          rw [hgrow.block q (by simp; omega) (fun e => hne e.symm), Lib.alloc_old w11 _ q hql]
          exact HR11.out
        have hI12 : PInv s q v' (R ++ [t.data.toList]) s4 wB w12 := by
          refine ⟨?_, ?_, hr12, ?_, ?_, hge, ?_⟩
          · rw [HI.out.eq, HGD.out, forms_snoc, List.append_assoc]
          · intro x hx
            rcases List.mem_append.1 hx with hx | hx
            · exact HI.out.ok x hx
            · simp only [List.mem_singleton] at hx; subst hx; rw [list_size]; omega
          · have e : (R ++ [t.data.toList]).map vStr = R.map vStr ++ [Value.string t] := by simp [vStr, bs]
            rw [e, List.length_append]
            exact hown'
          · exact (HB.out.alloc (by omega) _).grown hgrow (by simp; omega) (fun k hk => (HO.out.lt k hk).1)
          · exact other_kind hown' hr12 (by decide)
        have HI12 := Lib.hid hI12
        clear hr12 hI12 hown' hgrow HO HB HR11 HGD HI
        go_wp2
        go_roundw
        case rel => exact ⟨R ++ [t.data.toList], s4, congrArg (Value.int .i64) (by have := HADD.out; omega), HI12⟩
        case measure => simp [intOf]; omega

end Go.Proofs.YtkbffhlkbcdgnaaDoor
