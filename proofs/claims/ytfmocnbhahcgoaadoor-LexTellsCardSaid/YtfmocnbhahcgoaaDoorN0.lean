/-
  Layer 14: the law's examples.
-/
import Derived.Test.YtfmocnbhahcgoaaDoorG9
set_option linter.unusedVariables false
set_option maxRecDepth 100000
namespace Go.Proofs.YtfmocnbhahcgoaaDoor
open Go.RowKit

theorem ex1 : lexP (⟨#[120, 32, 60, 61, 32, 49, 50, 97]⟩ : ByteArray).data.toList = ⟨0, 0, [⟨0, [120], 0, 0⟩, ⟨2, [60, 61], 0, 2⟩, ⟨1, [49, 50], 12, 5⟩, ⟨0, [97], 0, 7⟩, ⟨3, [], 0, 8⟩]⟩ := by kernel_rfl
theorem ex2 : lexP (⟨#[97, 49, 60, 61, 48, 48, 55]⟩ : ByteArray).data.toList = ⟨3, 4, []⟩ := by kernel_rfl
theorem ex3 : lexP (⟨#[97, 32, 33]⟩ : ByteArray).data.toList = ⟨13, 2, []⟩ := by kernel_rfl
theorem ex4 : lexP (⟨#[97, 61, 98, 32, 59]⟩ : ByteArray).data.toList = ⟨0, 0, [⟨0, [97], 0, 0⟩, ⟨2, [61], 0, 1⟩, ⟨0, [98], 0, 2⟩, ⟨2, [59], 0, 4⟩, ⟨3, [], 0, 5⟩]⟩ := by kernel_rfl
theorem ex5 : textM [⟨0, [97], 0, 0⟩, ⟨2, [61], 0, 1⟩, ⟨0, [98], 0, 2⟩, ⟨2, [59], 0, 4⟩, ⟨3, [], 0, 5⟩] = [97, 32, 61, 32, 98, 32, 59] := by kernel_rfl
theorem want_row (w : World) : TkRow (w.alloc (.cells #[.int .i64 0, .string ⟨#[120]⟩, .int .i64 0, .int .i64 0, .int .i64 2, .string ⟨#[60, 61]⟩, .int .i64 0, .int .i64 2, .int .i64 1, .string ⟨#[49, 50]⟩, .int .i64 12, .int .i64 5, .int .i64 0, .string ⟨#[97]⟩, .int .i64 0, .int .i64 7, .int .i64 3, .string ⟨#[]⟩, .int .i64 0, .int .i64 8] 25)) (some ⟨w.heap.size, 0, none⟩) [⟨0, [120], 0, 0⟩, ⟨2, [60, 61], 0, 2⟩, ⟨1, [49, 50], 12, 5⟩, ⟨0, [97], 0, 7⟩, ⟨3, [], 0, 8⟩] := fun _ => by
  refine ⟨w.heap.size, 0, rfl, by simp, fun j hj => ?_⟩
  have hc : ∀ i, (w.alloc (.cells #[.int .i64 0, .string ⟨#[120]⟩, .int .i64 0, .int .i64 0, .int .i64 2, .string ⟨#[60, 61]⟩, .int .i64 0, .int .i64 2, .int .i64 1, .string ⟨#[49, 50]⟩, .int .i64 12, .int .i64 5, .int .i64 0, .string ⟨#[97]⟩, .int .i64 0, .int .i64 7, .int .i64 3, .string ⟨#[]⟩, .int .i64 0, .int .i64 8] 25)).cell? ⟨w.heap.size, i, none⟩ = _ := fun i => Lib.cell_of_heap (heap_alloc_new w _) (j := i)
  simp only [List.length_cons, List.length_nil] at hj
  rcases (by omega : j = 0 ∨ j = 1 ∨ j = 2 ∨ j = 3 ∨ j = 4) with rfl | rfl | rfl | rfl | rfl
  all_goals exact ⟨(hc _).trans rfl, (hc _).trans rfl, (hc _).trans rfl, (hc _).trans rfl⟩
set_option maxHeartbeats 16000000 in
theorem small_any (w : World) (hg : Glb w) : Calls Tryd.prog 9 #[] w (BlIs true w) := by
  have H1 := Lib.hid (fun w' h => (ex1 ▸ lex_any ⟨#[120, 32, 60, 61, 32, 49, 50, 97]⟩ w' (by decide) h : Calls _ _ _ w' _))
  have H2 := Lib.hid (fun w' h => (ex2 ▸ lex_any ⟨#[97, 49, 60, 61, 48, 48, 55]⟩ w' (by decide) h : Calls _ _ _ w' _))
  have H3 := Lib.hid (fun w' h => (ex3 ▸ lex_any ⟨#[97, 32, 33]⟩ w' (by decide) h : Calls _ _ _ w' _))
  have H4 := Lib.hid (fun w' h => (ex4 ▸ lex_any ⟨#[97, 61, 98, 32, 59]⟩ w' (by decide) h : Calls _ _ _ w' _))
  have H5 : Hid (∀ w', Glb w' → Calls Tryd.prog 13 #[.string ⟨#[49, 50]⟩] w' (NumIs true 12 w')) := Lib.hid (fun w' h => xnumber_any ⟨#[49, 50]⟩ w' (by decide) h)
  have H6 : Hid (∀ w', Glb w' → Calls Tryd.prog 13 #[.string ⟨#[48, 49, 50]⟩] w' (NumIs false 0 w')) := Lib.hid (fun w' h => xnumber_any ⟨#[48, 49, 50]⟩ w' (by decide) h)
  have H7 : Hid (∀ w', Calls Tryd.prog 16 #[.string ⟨#[97, 49]⟩] w' (BoolIs true w')) := Lib.hid (fun w' => xword_any ⟨#[97, 49]⟩ w' (by decide))
  have H8 : Hid (∀ w', Calls Tryd.prog 16 #[.string ⟨#[49, 97]⟩] w' (BoolIs false w')) := Lib.hid (fun w' => xword_any ⟨#[49, 97]⟩ w' (by decide))
  have H9 := Lib.hid same_any
  have H10 := Lib.hid text_any
  have HG := Lib.hid hg; clear hg
  go_enter Tryd.func9, Tryd.ntmps9
  go_wp2_with fail
  refine (H1.out w HG.out).mono ?_
  rintro e w1 ⟨v1, rfl, ho1⟩
  have HO1 := Lib.hid ho1
  have HB1 := Lib.hid ho1.bel
  clear ho1
  go_wp2_with fail
  refine (H2.out w1 (HG.out.below HB1.out)).mono ?_
  rintro e w2 ⟨v2, rfl, ho2⟩
  have HO2 := Lib.hid (HO1.out.go ho2.bel)
  have HB2 := Lib.hid HO2.out.bel
  clear ho2 HO1
  go_wp2_with fail
  refine (H3.out w2 (HG.out.below HB2.out)).mono ?_
  rintro e w3 ⟨v3, rfl, ho3⟩
  have HO3 := Lib.hid (HO2.out.go ho3.bel)
  have HB3 := Lib.hid HO3.out.bel
  clear ho3 HO2
  go_wp2_with fail
  refine (H4.out w3 (HG.out.below HB3.out)).mono ?_
  rintro e w4 ⟨v4, rfl, ho4⟩
  have HO4 := Lib.hid (HO3.out.go ho4.bel)
  have HV4 := Lib.hid ho4
  have HB4 := Lib.hid HO4.out.bel
  clear ho4 HO3
  obtain ⟨A1, c1, rfl, hr1⟩ := own_tk HO4.out.own
  obtain ⟨A4, c4, rfl, hr4⟩ := own_tk HV4.out.own
  have HR1 := Lib.hid hr1; clear hr1
  have HR4 := Lib.hid hr4; clear hr4
  have HWR := Lib.hid (want_row w4)
  simp only [List.length_cons, List.length_nil]
  go_wp2_with fail
  have HB5 : Hid (Below w.heap.size w (w4.alloc (.cells #[.int .i64 0, .string ⟨#[120]⟩, .int .i64 0, .int .i64 0, .int .i64 2, .string ⟨#[60, 61]⟩, .int .i64 0, .int .i64 2, .int .i64 1, .string ⟨#[49, 50]⟩, .int .i64 12, .int .i64 5, .int .i64 0, .string ⟨#[97]⟩, .int .i64 0, .int .i64 7, .int .i64 3, .string ⟨#[]⟩, .int .i64 0, .int .i64 8] 25))) := Lib.hid (HB4.out.alloc HB4.out.size _)
  have HR1 := Lib.hid (HR1.out.below ((Below.refl w4.heap.size w4).alloc (Nat.le_refl _) (.cells #[.int .i64 0, .string ⟨#[120]⟩, .int .i64 0, .int .i64 0, .int .i64 2, .string ⟨#[60, 61]⟩, .int .i64 0, .int .i64 2, .int .i64 1, .string ⟨#[49, 50]⟩, .int .i64 12, .int .i64 5, .int .i64 0, .string ⟨#[97]⟩, .int .i64 0, .int .i64 7, .int .i64 3, .string ⟨#[]⟩, .int .i64 0, .int .i64 8] 25)))
  have HR4 := Lib.hid (HR4.out.below ((Below.refl w4.heap.size w4).alloc (Nat.le_refl _) (.cells #[.int .i64 0, .string ⟨#[120]⟩, .int .i64 0, .int .i64 0, .int .i64 2, .string ⟨#[60, 61]⟩, .int .i64 0, .int .i64 2, .int .i64 1, .string ⟨#[49, 50]⟩, .int .i64 12, .int .i64 5, .int .i64 0, .string ⟨#[97]⟩, .int .i64 0, .int .i64 7, .int .i64 3, .string ⟨#[]⟩, .int .i64 0, .int .i64 8] 25)))
  generalize w4.alloc (.cells #[.int .i64 0, .string ⟨#[120]⟩, .int .i64 0, .int .i64 0, .int .i64 2, .string ⟨#[60, 61]⟩, .int .i64 0, .int .i64 2, .int .i64 1, .string ⟨#[49, 50]⟩, .int .i64 12, .int .i64 5, .int .i64 0, .string ⟨#[97]⟩, .int .i64 0, .int .i64 7, .int .i64 3, .string ⟨#[]⟩, .int .i64 0, .int .i64 8] 25) = w5 at *
  generalize w4.heap.size = q at *
  refine (H5.out w5 (HG.out.below HB5.out)).mono ?_
  rintro e w6 ⟨rfl, hb6⟩
  have HB6 := Lib.hid (HB5.out.trans (hb6.mono HB5.out.size))
  have HWR := Lib.hid (HWR.out.below hb6)
  have HR1 := Lib.hid (HR1.out.below hb6)
  have HR4 := Lib.hid (HR4.out.below hb6)
  clear hb6
  go_wp2_with fail
  refine (H6.out w6 (HG.out.below HB6.out)).mono ?_
  rintro e w7 ⟨rfl, hb7⟩
  have HB7 := Lib.hid (HB6.out.trans (hb7.mono HB6.out.size))
  have HWR := Lib.hid (HWR.out.below hb7)
  have HR1 := Lib.hid (HR1.out.below hb7)
  have HR4 := Lib.hid (HR4.out.below hb7)
  clear hb7
  have H9a := Lib.hid (H9.out _ c1 _ 5 _ _ w7 HR1.out HWR.out (by decide) (by decide))
  simp only [List.length_cons, List.length_nil, decide_true] at H9a
  go_wp2_with fail
  refine H9a.out.mono ?_
  rintro e w8 ⟨rfl, hb8⟩
  have HB8 := Lib.hid (HB7.out.trans (hb8.mono HB7.out.size))
  have HR4 := Lib.hid (HR4.out.below hb8)
  clear hb8
  have H10a := Lib.hid (H10.out _ c4 _ w8 HR4.out (by decide) (by rw [ex5]; decide))
  rw [ex5] at H10a
  simp only [List.length_cons, List.length_nil] at H10a
  go_wp2_with fail
  refine H10a.out.mono ?_
  rintro e w9 ⟨t, rfl, ht, hb9⟩
  have ht2 := tl ht
  have HB9 := Lib.hid (HB8.out.trans (hb9.mono HB8.out.size))
  clear hb9 ht
  go_wp2_with fail
  refine (H7.out w9).mono ?_
  rintro e w10 ⟨rfl, hb10⟩
  have HB10 := Lib.hid (HB9.out.trans (hb10.mono HB9.out.size))
  clear hb10
  go_wp2_with fail
  refine (H8.out w10).mono ?_
  rintro e w11 ⟨rfl, hb11⟩
  have HB11 := Lib.hid (HB10.out.trans (hb11.mono HB10.out.size))
  clear hb11
  go_wp2_with fail
  go_ret
  exact ⟨rfl, HB11.out⟩
end Go.Proofs.YtfmocnbhahcgoaaDoor
