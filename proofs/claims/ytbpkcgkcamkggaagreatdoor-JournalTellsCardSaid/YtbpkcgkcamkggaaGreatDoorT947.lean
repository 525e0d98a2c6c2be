/-
  The examples of layer 3 (small).
-/
import Derived.Test.YtbpkcgkcamkggaaGreatDoorT938
set_option linter.unusedVariables false
set_option maxRecDepth 100000
namespace Go.Proofs.YtbpkcgkcamkggaaGreatDoor
open Go.RowKit W

theorem JAt.off {rj : Nat} {v : Value} {r : Nat} {f : Int} {R : List (List UInt8)} {bad : Bool} {w w' : World} (h : JAt rj v r f R bad w) {r2 : Nat} {L : Lay} {d : Dk} {n : Nat} (hd : DAt r2 L d n w) {O' : Nat → Prop} (k : MStep (Own r2 L) O' w w') : JAt rj v r f R bad w' :=
  h.kept fun b hb => k.fr.block b (h.lt hb) (h.free hd hb)
theorem one_row (w : World) (s : List UInt8) (T : TypeId) : TRow (fun _ => False) (w.alloc (.cells #[vStr s] T)) (some ⟨w.heap.size, 0, none⟩) [s] := fun h0 => by
  refine ⟨w.heap.size, 0, rfl, by simp, (fun h => h), fun j hj => ?_⟩
  simp only [List.length_cons, List.length_nil] at hj
  obtain rfl : j = 0 := by omega
  rw [Lib.cell_of_heap (heap_alloc_new w _)]
  rfl
theorem in3 : In64 3 := by unfold In64; omega
theorem in4 : In64 4 := by unfold In64; omega
theorem in0 : In64 0 := by unfold In64; omega
theorem ok3 : Dk.fileOk 3 := by unfold Dk.fileOk; omega
theorem ok4 : Dk.fileOk 4 := by unfold Dk.fileOk; omega

set_option maxHeartbeats 8000000 in
theorem jsmall_any (w : World) (ht : Tab w) : Calls Tryz.prog 4 #[] w fun e w' => e = .returned (.bool true) ∧ Below w.heap.size w w' := by
  have HT := Lib.hid ht
  clear ht
  go_enter Tryz.func4, Tryz.ntmps4
  go_wp2_with fail
  refine (hNew (Below.refl w.heap.size w)).mono ?_
  rintro e w1 ⟨r, L, rfl, hh, _, _⟩
  have H1 := Lib.hid hh
  clear hh
  obtain ⟨o1, o2, o3⟩ := jopen_up Dk.up_new Dk.ok_new ok3 rfl
  have hr0 : recs (Dk.new.now 3) = [] := rfl
  rw [hr0] at o2 o3
  have O3 := Lib.hid o3
  have O12 := Lib.hid (And.intro o1 o2)
  clear o1 o2 o3 hr0
  go_wp2_with fail
  refine (hOpen_ok H1.out (by omega) in3 O12.out.1).mono ?_
  rintro e w2 ⟨L2, rj, v, rfl, h2, _⟩
  rw [O12.out.2] at h2
  have H2 := Lib.hid h2
  clear h2 H1 O12
  generalize (jopen Dk.new 3).1 = d1 at *
  have hn3 : d1.now 3 = forms [] := O3.out.kept.now
  have hn4 : d1.now 4 = [] := O3.out.other 4 (by decide)
  have hu := O3.out.up
  have hl0 : d1.lost = 0 := O3.out.lost
  obtain ⟨d2, a1, a2⟩ := jappend_up hu ok3 hn3 (s := [97, 98]) (by decide) (by rw [form_ab]; decide)
  rw [List.nil_append] at a1 a2
  have A1 := Lib.hid a1
  have hn3' : d2.now 3 = forms [[97, 98]] := by rw [a2.now, upd_same]
  have hn4' : d2.now 4 = [] := by rw [a2.now, upd_other (by decide), hn4]
  have hl0' : d2.lost = 0 := a2.lost.trans hl0
  obtain ⟨d3, b1, b2⟩ := jappend_up a2.up ok3 hn3' (s := []) (by decide) (by rw [forms_cons, form_ab, form_nil]; decide)
  have B1 := Lib.hid b1
  have hn3'' : d3.now 3 = [50, 58, 97, 98, 44, 50, 57, 51, 59, 48, 58, 44, 48, 59] := by
    rw [b2.now, upd_same]
    show forms [[97, 98], []] = _
    rw [forms_cons, forms_cons, form_ab, form_nil]; rfl
  have hn4'' : d3.now 4 = [] := by rw [b2.now, upd_other (by decide), hn4']
  have hl0'' : d3.lost = 0 := b2.lost.trans hl0'
  have hrd := Dk.read_part ok3 b2.up.down (f := 3) (a := 0) (n := 99) (by omega) (by omega)
  rw [hn3''] at hrd
  have HRD := Lib.hid hrd
  obtain ⟨c1, c2⟩ := Dk.write_up b2.up ok4 (a := 0) (s := exFile) (by omega) (by decide)
  rw [hn4''] at c2
  have C1 := Lib.hid c1
  have hn4c : (d3.write 4 0 exFile).1.now 4 = exFile := by rw [c2.now, upd_same]; decide +kernel
  have hlc : (d3.write 4 0 exFile).1.lost = 0 := c2.lost.trans hl0''
  have HC := Lib.hid (And.intro c2.up (And.intro hlc hn4c))
  clear O3 hn3 hn4 hu hl0 a1 a2 hn3' hn4' hl0' b1 b2 hn3'' hn4'' hl0'' hrd c1 c2 hlc hn4c
  go_wp2_with fail
  refine (hAppend_is H2.out (by omega) in3 HT.out _ (by decide) (by decide) A1.out).mono ?_
  rintro e w3 ⟨rfl, L3, v3, h3, _⟩
  have H3 := Lib.hid h3
  clear h3 H2 A1
  go_wp2_with fail
  refine (hAppend_is H3.out (by decide) in3 HT.out _ (by decide) (by rw [forms_cons, form_ab]; decide) B1.out).mono ?_
  rintro e w4 ⟨rfl, L4, v4, h4, _⟩
  have H4 := Lib.hid h4
  clear h4 H3 B1
  go_wp2_with fail
  refine (jRead H4.out (by decide) in3 in0 (by unfold In64; omega)).mono ?_
  rintro e w5 ⟨s, he, hs, h5, _⟩
  rw [HRD.out] at he hs
  obtain rfl := str_is (a := #[50, 58, 97, 98, 44, 50, 57, 51, 59, 48, 58, 44, 48, 59]) hs (by rfl)
  subst he
  have H5 := Lib.hid h5
  clear h5 hs H4 HRD
  go_wp2_with fail
  refine (jWrite H5.out (by decide) in4 in0 _ (by decide)).mono ?_
  rintro e w6 ⟨rfl, L6, h6, _⟩
  have h6' : JH w r L6 (d3.write 4 0 exFile).1 1000 rj v4 3 ([[97, 98]] ++ [[]]) false w6 := h6.mono (by decide)
  have H6 := Lib.hid h6'
  clear h6 h6' H5
  obtain ⟨o1, o2, o3⟩ := jopen_up HC.out.1 H6.out.disk.ok ok4 HC.out.2.1
  rw [HC.out.2.2, ex_recs] at o2 o3
  have O3 := Lib.hid o3
  have O12 := Lib.hid (And.intro o1 o2)
  clear o1 o2 o3 HC
  go_wp2_with fail
  refine (hOpen_ok H6.out.held (by omega) in4 O12.out.1).mono ?_
  rintro e w7 ⟨L7, rk, vk, rfl, h7, k7⟩
  rw [O12.out.2] at h7
  have HJ := Lib.hid (H6.out.jrn.off H6.out.disk k7)
  have H7 := Lib.hid h7
  have hsz : (((jopen (d3.write 4 0 exFile).1 4).1.now 4).length : Int) = 9 := by
    rw [O3.out.kept.now, forms_cons, form_ab]; rfl
  have HSZ := Lib.hid hsz
  clear h7 k7 H6 O12 O3 C1 hsz
  generalize (jopen (d3.write 4 0 exFile).1 4).1 = d7 at *
  go_wp2_with fail
  refine (jsum_any _ w7 (by decide)).mono ?_
  rintro e w8 ⟨he, rfl⟩
  obtain rfl := ret_is (b := 0) he (by decide +kernel)
  clear he
  go_wp2_with fail
  refine (jsum_any _ w8 (by decide)).mono ?_
  rintro e w9 ⟨he, rfl⟩
  obtain rfl := ret_is (b := 97) he (by decide +kernel)
  clear he
  go_wp2_with fail
  refine (jsum_any _ w9 (by decide)).mono ?_
  rintro e w10 ⟨he, rfl⟩
  obtain rfl := ret_is (b := 293) he (by decide +kernel)
  clear he
  go_wp2_with fail
  refine (jlen_any HJ.out (by decide)).mono ?_
  rintro e w11 ⟨he, rfl⟩
  obtain rfl := ret_is (b := 2) he (by rfl)
  clear he
  go_wp2_with fail
  refine (jget_in HJ.out (by decide) 0 (by decide)).mono ?_
  rintro e w12 ⟨he, rfl⟩
  obtain rfl : e = .returned (.string ⟨#[97, 98]⟩) := he
  go_wp2_with fail
  refine (hAll H7.out (by decide)).mono ?_
  rintro e w13 ⟨A, cap, rfl, hcap, hrow, h13, hb13⟩
  have H13 := Lib.hid h13
  have HROW := Lib.hid hrow
  clear hrow h13 hb13 H7
  have hba : Below w13.heap.size w13 (w13.alloc (.cells #[.string ⟨#[97, 98]⟩] 9)) := (Below.refl _ _).alloc (Nat.le_refl _) _
  have HS := Lib.hid (sameT_any A cap (some ⟨w13.heap.size, 0, none⟩) 1 [[97, 98]] _ (HROW.out.below hba) (one_row w13 [97, 98] 9) (by decide))
  have H14 := Lib.hid (H13.out.below hba)
  clear H13 HROW hba
  go_wp2_with fail
  refine HS.out.mono ?_
  rintro e w15 ⟨rfl, hb15⟩
  have H15 := Lib.hid (H14.out.below hb15)
  clear hb15 H14 HS
  go_wp2_with fail
  refine (mSize H15.out.disk in4).mono ?_
  rintro e w16 ⟨he, rfl⟩
  obtain rfl := ret_is (b := 9) he HSZ.out
  clear he
  go_wp2
  go_ret
  exact ⟨rfl, H15.out.bel⟩

end Go.Proofs.YtbpkcgkcamkggaaGreatDoor
