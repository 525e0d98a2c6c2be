/-
  The walk of WireAgain.
-/
import Derived.Test.YtdpedeknccnbhaaDoorP
set_option linter.unusedVariables false
namespace Go.Proofs.YtdpedeknccnbhaaDoor
open Go.RowKit Go.Sort

theorem fl_mem {α : Type} (g : α → List UInt8) : ∀ (l : List α) (x : α), x ∈ l → (g x).length ≤ (l.flatMap g).length
  | [], _, h => by cases h
  | a :: l, x, h => by
    simp only [List.flatMap_cons, List.length_append]
    rcases List.mem_cons.1 h with rfl | h
    · omega
    · have := fl_mem g l x h; omega
theorem fl_count {α : Type} (g : α → List UInt8) : ∀ (l : List α), (∀ x ∈ l, 1 ≤ (g x).length) → l.length ≤ (l.flatMap g).length
  | [], _ => by simp
  | a :: l, h => by
    have := fl_count g l (fun x hx => h x (by simp [hx]))
    have := h a (by simp)
    simp only [List.flatMap_cons, List.length_append, List.length_cons]
    omega
theorem eList_len {α : Type} (g : α → List UInt8) (l : List α) : (l.flatMap g).length ≤ (eList g l).length := by
  unfold eList
  simp only [List.length_append, List.length_cons]
  omega

theorem ret_bl {b : Bool} (h : b = true) : Ending.returned (.bool b) = .returned (.bool true) := by rw [h]

/-- what reading a value gives, and what its encoding must be. -/
theorem again_nums {s : ByteArray} {xs : List Int} {rest : List UInt8} (h : rdList rdInt s.data.toList = some (xs, rest)) (hs : s.size ≤ 400) :
    s.data.toList = eList eInt xs ++ rest ∧ (∀ x ∈ xs, In64 x) ∧ xs.length ≤ 400 := by
  obtain ⟨h1, h2, h3⟩ := (rdList_iff reads_int _ (by rw [size_list]; unfold maxI; omega) xs rest).1 h
  refine ⟨h1, h3, ?_⟩
  have h4 := fl_count eInt xs (fun x hx => by have := eInt_len x (h3 x hx); omega)
  have h5 := eList_len eInt xs
  have h6 := congrArg List.length h1
  rw [size_list, List.length_append] at h6
  omega
theorem again_texts {s : ByteArray} {xs : List (List UInt8)} {rest : List UInt8} (h : rdList rdText s.data.toList = some (xs, rest)) (hs : s.size ≤ 400) :
    s.data.toList = eList eStr (xs.map bs) ++ rest ∧ (∀ x ∈ xs.map bs, x.size ≤ 1099511627776) ∧ ((xs.map bs).flatMap eStr).length ≤ 100000000000000 ∧ xs.length ≤ 400 := by
  obtain ⟨h1, h2, _⟩ := (rdList_iff reads_text _ (by rw [size_list]; unfold maxI; omega) xs rest).1 h
  have e1 : (xs.map bs).map (fun x => x.data.toList) = xs := by rw [List.map_map]; exact List.map_id xs
  have e2 : eList eStr (xs.map bs) = eList eText xs := by rw [eStr_list, e1]
  have h5 := eList_len eStr (xs.map bs)
  have h6 := congrArg List.length h1
  rw [size_list, List.length_append, ← e2] at h6
  refine ⟨by rw [e2]; exact h1, fun x hx => ?_, by omega, ?_⟩
  · have h7 := fl_mem eStr (xs.map bs) x hx
    have h8 : x.data.toList.length ≤ (eStr x).length := by unfold eStr eText; simp only [List.length_append, List.length_cons]; omega
    rw [size_list] at h8
    omega
  · have h9 := fl_count eStr (xs.map bs) (fun x _ => by unfold eStr eText; simp only [List.length_append, List.length_cons]; omega)
    rw [List.length_map] at h9
    omega
theorem again_text {s : ByteArray} {x rest : List UInt8} (h : rdText s.data.toList = some (x, rest)) (hs : s.size ≤ 400) : s.data.toList = eText (bs x).data.toList ++ rest ∧ (bs x).size ≤ 1099511627776 := by
  have h1 := (rdText_iff _ (by rw [size_list]; unfold maxI; omega) x rest).1 h
  refine ⟨h1, ?_⟩
  have h6 := congrArg List.length h1
  have h8 : x.length ≤ (eText x).length := by unfold eText; simp only [List.length_append, List.length_cons]; omega
  rw [size_list, List.length_append] at h6
  have h9 := size_list (bs x)
  rw [bs_data] at h9
  omega

theorem split_facts {s T s2 : ByteArray} {rest : List UInt8} (h : s.data.toList = T.data.toList ++ rest) (h2 : s2.data.toList = rest) :
    (s.size : Int) - (s2.size : Int) = (T.size : Int) ∧ T.size ≤ s.size ∧ s.extract 0 T.size = T := by
  have e1 := congrArg List.length h
  rw [size_list, List.length_append, size_list, ← h2, size_list] at e1
  refine ⟨by omega, by omega, ByteArray.ext (Array.toList_inj.1 ?_)⟩
  rw [ext_take, h, ← size_list T, List.take_left']
  rfl

/-- what the part behind the reading and the writing starts from: a reader that has failed, or one whose rest stands behind the string T. -/
def AgainAt (q : Nat) (s T : ByteArray) (w0 w : World) : Prop :=
  Below w0.heap.size w0 w ∧ ((RdrAt 54 q ⟨#[]⟩ true w) ∨ ∃ s2 rest, RdrAt 54 q s2 false w ∧ s2.data.toList = rest ∧ s.data.toList = T.data.toList ++ rest)

theorem zero_texts : eList eStr [] = eList eStr [] := rfl

set_option maxRecDepth 100000 in
set_option maxHeartbeats 8000000 in
theorem again0_walk (s : ByteArray) (what : Int) (w : World) (hsz : s.size ≤ 400) (hw : In64 what) (ht : Tab w) (hk : kindOf what = 0) :
    Calls Tryd.prog 6 #[.string s, .int .i64 what] w fun e w' => e = .returned (.bool true) ∧ Below w.heap.size w w' := by
  have hs4 : (s.size : Int) ≤ 400 := by omega
  have HK := Lib.hid hk; clear hk
  have HW := Lib.hid hw; clear hw
  go_enter Tryd.func6, Tryd.ntmps6
  go_wp2_with fail
  refine (small_any _ ht).mono ?_
  rintro e w2 ⟨rfl, b2⟩
  go_wp2_with fail
  refine (open_any s _).mono ?_
  rintro e w3 ⟨rfl, hw3⟩
  have hr3 : RdrAt 54 w2.heap.size s false w3 := by rw [hw3]; exact heap_alloc_new w2 _
  have b3 : Below w.heap.size w w3 := by rw [hw3]; exact b2.alloc b2.size _
  have hq := b2.size
  generalize w2.heap.size = q at *
  have HR3 := Lib.hid hr3
  have hqlt := hr3.lt
  clear hw3 hr3 b2
  go_wp2_with fail
  refine (kind_is what 0 HK.out _ _ _ _ HW.out _).mono ?_
  rintro e w4 ⟨rfl, hb4⟩
  have b4 := b3.trans (hb4.mono b3.size)
  have HR4 := Lib.hid (HR3.out.below hb4 hqlt)
  have hqlt4 := HR4.out.lt
  clear HR3 hb4 b3 hqlt
  go_wp2_with fail
  have hN := numR_any q s false w4 HR4.out (by omega)
  cases hx : rdNum s.data.toList with
  | none =>
    rw [hx] at hN
    have HN := Lib.hid hN; clear hN hx
    refine HN.out.mono ?_
    rintro e w5 ⟨rfl, ⟨s5, hs5, hr5⟩, hg5⟩
    obtain rfl := empty_of hs5
    have b5 := b4.trans (below_of_grown hg5 b4.size hq)
    have HR5 := Lib.hid hr5
    have hq5 := hr5.lt
    clear hs5 hr5 hg5 HN b4 HR4
    go_wp2_with fail
    refine (num_any 0 (by unfold In64; omega) _ (ht.on b5)).mono ?_
    rintro e w6 ⟨T, rfl, hT, hb6⟩
    have bA := b5.trans (hb6.mono b5.size)
    have hat : RdrAt 54 q ⟨#[]⟩ true w6 ∨ ∃ s2 rest, RdrAt 54 q s2 false w6 ∧ s2.data.toList = rest ∧ s.data.toList = T.data.toList ++ rest := .inl (HR5.out.below hb6 hq5)
    clear hT hb6 b5 HR5
    go_wp2_with fail
    rcases hat with hf | ⟨s2, rest, hr, hs2, hsp⟩
    · refine (left_any _ _ _ _ hf).mono ?_
      rintro e w9 ⟨rfl, rfl⟩
      have HF := Lib.hid hf; clear hf
      go_wp2_with fail
      refine (done_any _ _ _ _ HF.out).mono ?_
      rintro e w9 ⟨rfl, rfl⟩
      go_wp2
      go_ret
      exact ⟨rfl, bA⟩
    · have hfx := split_facts hsp hs2
      by_cases h0 : s2.size = 0
      · obtain rfl : s2 = ⟨#[]⟩ := empty_of (List.eq_nil_of_length_eq_zero (by rw [size_list]; exact h0))
        obtain rfl : s = T := ByteArray.ext (Array.toList_inj.1 (by rw [hsp, ← hs2]; simp))
        have hex := hfx.2.2
        have hss : ¬ ((s.size : Int) < (s.size : Int)) := by omega
        have hs0 : (0 : Int) ≤ (s.size : Int) := by omega
        have HR := Lib.hid hr
        clear hr hs2 hsp hfx h0
        refine (left_any _ _ _ _ HR.out).mono ?_
        rintro e w9 ⟨rfl, rfl⟩
        go_wp2_with fail
        refine (done_false _ _ _ empty_toList _ HR.out).mono ?_
        rintro e w9 ⟨rfl, rfl⟩
        go_wp2_with fail
        refine (left_any _ _ _ _ HR.out).mono ?_
        rintro e w9 ⟨rfl, rfl⟩
        go_wp2
        go_ret
        exact ⟨rfl, bA⟩
      · have hex := hfx.2.2
        have hdf := hfx.1
        have hle : (T.size : Int) ≤ (s.size : Int) := by have := hfx.2.1; omega
        have hT0 : (0 : Int) ≤ (T.size : Int) := by omega
        have hz : ((s2.size : Int) == 0) = false := beq_eq_false_iff_ne.2 (by omega)
        have HR := Lib.hid hr
        clear hr hs2 hsp hfx h0
        refine (left_any _ _ _ _ HR.out).mono ?_
        rintro e w9 ⟨rfl, rfl⟩
        go_wp2_with fail
        refine (left_any _ _ _ _ HR.out).mono ?_
        rintro e w9 ⟨rfl, rfl⟩
        go_wp2
        go_ret
        exact ⟨ret_bl (by rw [show (max 0 (min (T.size : Int) (s.size : Int))).toNat = T.size from by omega, hex]; exact beq_self_eq_true _), bA⟩
  | some y =>
    obtain ⟨x, rest⟩ := y
    rw [hx] at hN
    have HN := Lib.hid hN; clear hN
    have HX := Lib.hid ((show s.data.toList = eNum x ++ rest ∧ In64 x from by obtain ⟨h1, h2, h3⟩ := (rdNum_iff _ _ _).1 hx; rw [eNum_nn h2]; exact ⟨h1, h3⟩))
    clear hx
    refine HN.out.mono ?_
    rintro e w5 ⟨rfl, ⟨s5, hs5, hr5⟩, hg5⟩
    have b5 := b4.trans (below_of_grown hg5 b4.size hq)
    have HR5 := Lib.hid hr5
    have hq5 := hr5.lt
    have H5 := Lib.hid hs5
    clear hs5 hr5 hg5 HN b4 HR4
    go_wp2_with fail
    refine (num_any x HX.out.2 _ (ht.on b5)).mono ?_
    rintro e w6 ⟨T, rfl, hT, hb6⟩
    have bA := b5.trans (hb6.mono b5.size)
    have hat : RdrAt 54 q ⟨#[]⟩ true w6 ∨ ∃ s2 rest, RdrAt 54 q s2 false w6 ∧ s2.data.toList = rest ∧ s.data.toList = T.data.toList ++ rest :=
      .inr ⟨s5, rest, HR5.out.below hb6 hq5, H5.out, by rw [hT]; exact HX.out.1⟩
    clear hT hb6 b5 HR5 H5
    go_wp2_with fail
    rcases hat with hf | ⟨s2, rest, hr, hs2, hsp⟩
    · refine (left_any _ _ _ _ hf).mono ?_
      rintro e w9 ⟨rfl, rfl⟩
      have HF := Lib.hid hf; clear hf
      go_wp2_with fail
      refine (done_any _ _ _ _ HF.out).mono ?_
      rintro e w9 ⟨rfl, rfl⟩
      go_wp2
      go_ret
      exact ⟨rfl, bA⟩
    · have hfx := split_facts hsp hs2
      by_cases h0 : s2.size = 0
      · obtain rfl : s2 = ⟨#[]⟩ := empty_of (List.eq_nil_of_length_eq_zero (by rw [size_list]; exact h0))
        obtain rfl : s = T := ByteArray.ext (Array.toList_inj.1 (by rw [hsp, ← hs2]; simp))
        have hex := hfx.2.2
        have hss : ¬ ((s.size : Int) < (s.size : Int)) := by omega
        have hs0 : (0 : Int) ≤ (s.size : Int) := by omega
        have HR := Lib.hid hr
        clear hr hs2 hsp hfx h0
        refine (left_any _ _ _ _ HR.out).mono ?_
        rintro e w9 ⟨rfl, rfl⟩
        go_wp2_with fail
        refine (done_false _ _ _ empty_toList _ HR.out).mono ?_
        rintro e w9 ⟨rfl, rfl⟩
        go_wp2_with fail
        refine (left_any _ _ _ _ HR.out).mono ?_
        rintro e w9 ⟨rfl, rfl⟩
        go_wp2
        go_ret
        exact ⟨rfl, bA⟩
      · have hex := hfx.2.2
        have hdf := hfx.1
        have hle : (T.size : Int) ≤ (s.size : Int) := by have := hfx.2.1; omega
        have hT0 : (0 : Int) ≤ (T.size : Int) := by omega
        have hz : ((s2.size : Int) == 0) = false := beq_eq_false_iff_ne.2 (by omega)
        have HR := Lib.hid hr
        clear hr hs2 hsp hfx h0
        refine (left_any _ _ _ _ HR.out).mono ?_
        rintro e w9 ⟨rfl, rfl⟩
        go_wp2_with fail
        refine (left_any _ _ _ _ HR.out).mono ?_
        rintro e w9 ⟨rfl, rfl⟩
        go_wp2
        go_ret
        exact ⟨ret_bl (by rw [show (max 0 (min (T.size : Int) (s.size : Int))).toNat = T.size from by omega, hex]; exact beq_self_eq_true _), bA⟩


set_option maxRecDepth 100000 in
set_option maxHeartbeats 8000000 in
theorem again1_walk (s : ByteArray) (what : Int) (w : World) (hsz : s.size ≤ 400) (hw : In64 what) (ht : Tab w) (hk : kindOf what = 1) :
    Calls Tryd.prog 6 #[.string s, .int .i64 what] w fun e w' => e = .returned (.bool true) ∧ Below w.heap.size w w' := by
  have hs4 : (s.size : Int) ≤ 400 := by omega
  have HK := Lib.hid hk; clear hk
  have HW := Lib.hid hw; clear hw
  go_enter Tryd.func6, Tryd.ntmps6
  go_wp2_with fail
  refine (small_any _ ht).mono ?_
  rintro e w2 ⟨rfl, b2⟩
  go_wp2_with fail
  refine (open_any s _).mono ?_
  rintro e w3 ⟨rfl, hw3⟩
  have hr3 : RdrAt 54 w2.heap.size s false w3 := by rw [hw3]; exact heap_alloc_new w2 _
  have b3 : Below w.heap.size w w3 := by rw [hw3]; exact b2.alloc b2.size _
  have hq := b2.size
  generalize w2.heap.size = q at *
  have HR3 := Lib.hid hr3
  have hqlt := hr3.lt
  clear hw3 hr3 b2
  go_wp2_with fail
  refine (kind_is what 1 HK.out _ _ _ _ HW.out _).mono ?_
  rintro e w4 ⟨rfl, hb4⟩
  have b4 := b3.trans (hb4.mono b3.size)
  have HR4 := Lib.hid (HR3.out.below hb4 hqlt)
  have hqlt4 := HR4.out.lt
  clear HR3 hb4 b3 hqlt
  go_wp2_with fail
  have hN := intR_any q s false w4 HR4.out (by omega)
  cases hx : rdInt s.data.toList with
  | none =>
    rw [hx] at hN
    have HN := Lib.hid hN; clear hN hx
    refine HN.out.mono ?_
    rintro e w5 ⟨rfl, ⟨s5, hs5, hr5⟩, hg5⟩
    obtain rfl := empty_of hs5
    have b5 := b4.trans (below_of_grown hg5 b4.size hq)
    have HR5 := Lib.hid hr5
    have hq5 := hr5.lt
    clear hs5 hr5 hg5 HN b4 HR4
    go_wp2_with fail
    refine (int_any 0 (by unfold In64; omega) _ (ht.on b5)).mono ?_
    rintro e w6 ⟨T, rfl, hT, hb6⟩
    have bA := b5.trans (hb6.mono b5.size)
    have hat : RdrAt 54 q ⟨#[]⟩ true w6 ∨ ∃ s2 rest, RdrAt 54 q s2 false w6 ∧ s2.data.toList = rest ∧ s.data.toList = T.data.toList ++ rest := .inl (HR5.out.below hb6 hq5)
    clear hT hb6 b5 HR5
    go_wp2_with fail
    rcases hat with hf | ⟨s2, rest, hr, hs2, hsp⟩
    · refine (left_any _ _ _ _ hf).mono ?_
      rintro e w9 ⟨rfl, rfl⟩
      have HF := Lib.hid hf; clear hf
      go_wp2_with fail
      refine (done_any _ _ _ _ HF.out).mono ?_
      rintro e w9 ⟨rfl, rfl⟩
      go_wp2
      go_ret
      exact ⟨rfl, bA⟩
    · have hfx := split_facts hsp hs2
      by_cases h0 : s2.size = 0
      · obtain rfl : s2 = ⟨#[]⟩ := empty_of (List.eq_nil_of_length_eq_zero (by rw [size_list]; exact h0))
        obtain rfl : s = T := ByteArray.ext (Array.toList_inj.1 (by rw [hsp, ← hs2]; simp))
        have hex := hfx.2.2
        have hss : ¬ ((s.size : Int) < (s.size : Int)) := by omega
        have hs0 : (0 : Int) ≤ (s.size : Int) := by omega
        have HR := Lib.hid hr
        clear hr hs2 hsp hfx h0
        refine (left_any _ _ _ _ HR.out).mono ?_
        rintro e w9 ⟨rfl, rfl⟩
        go_wp2_with fail
        refine (done_false _ _ _ empty_toList _ HR.out).mono ?_
        rintro e w9 ⟨rfl, rfl⟩
        go_wp2_with fail
        refine (left_any _ _ _ _ HR.out).mono ?_
        rintro e w9 ⟨rfl, rfl⟩
        go_wp2
        go_ret
        exact ⟨rfl, bA⟩
      · have hex := hfx.2.2
        have hdf := hfx.1
        have hle : (T.size : Int) ≤ (s.size : Int) := by have := hfx.2.1; omega
        have hT0 : (0 : Int) ≤ (T.size : Int) := by omega
        have hz : ((s2.size : Int) == 0) = false := beq_eq_false_iff_ne.2 (by omega)
        have HR := Lib.hid hr
        clear hr hs2 hsp hfx h0
        refine (left_any _ _ _ _ HR.out).mono ?_
        rintro e w9 ⟨rfl, rfl⟩
        go_wp2_with fail
        refine (left_any _ _ _ _ HR.out).mono ?_
        rintro e w9 ⟨rfl, rfl⟩
        go_wp2
        go_ret
        exact ⟨ret_bl (by rw [show (max 0 (min (T.size : Int) (s.size : Int))).toNat = T.size from by omega, hex]; exact beq_self_eq_true _), bA⟩
  | some y =>
    obtain ⟨x, rest⟩ := y
    rw [hx] at hN
    have HN := Lib.hid hN; clear hN
    have HX := Lib.hid ((rdInt_iff _ _ _).1 hx)
    clear hx
    refine HN.out.mono ?_
    rintro e w5 ⟨rfl, ⟨s5, hs5, hr5⟩, hg5⟩
    have b5 := b4.trans (below_of_grown hg5 b4.size hq)
    have HR5 := Lib.hid hr5
    have hq5 := hr5.lt
    have H5 := Lib.hid hs5
    clear hs5 hr5 hg5 HN b4 HR4
    go_wp2_with fail
    refine (int_any x HX.out.2 _ (ht.on b5)).mono ?_
    rintro e w6 ⟨T, rfl, hT, hb6⟩
    have bA := b5.trans (hb6.mono b5.size)
    have hat : RdrAt 54 q ⟨#[]⟩ true w6 ∨ ∃ s2 rest, RdrAt 54 q s2 false w6 ∧ s2.data.toList = rest ∧ s.data.toList = T.data.toList ++ rest :=
      .inr ⟨s5, rest, HR5.out.below hb6 hq5, H5.out, by rw [hT]; exact HX.out.1⟩
    clear hT hb6 b5 HR5 H5
    go_wp2_with fail
    rcases hat with hf | ⟨s2, rest, hr, hs2, hsp⟩
    · refine (left_any _ _ _ _ hf).mono ?_
      rintro e w9 ⟨rfl, rfl⟩
      have HF := Lib.hid hf; clear hf
      go_wp2_with fail
      refine (done_any _ _ _ _ HF.out).mono ?_
      rintro e w9 ⟨rfl, rfl⟩
      go_wp2
      go_ret
      exact ⟨rfl, bA⟩
    · have hfx := split_facts hsp hs2
      by_cases h0 : s2.size = 0
      · obtain rfl : s2 = ⟨#[]⟩ := empty_of (List.eq_nil_of_length_eq_zero (by rw [size_list]; exact h0))
        obtain rfl : s = T := ByteArray.ext (Array.toList_inj.1 (by rw [hsp, ← hs2]; simp))
        have hex := hfx.2.2
        have hss : ¬ ((s.size : Int) < (s.size : Int)) := by omega
        have hs0 : (0 : Int) ≤ (s.size : Int) := by omega
        have HR := Lib.hid hr
        clear hr hs2 hsp hfx h0
        refine (left_any _ _ _ _ HR.out).mono ?_
        rintro e w9 ⟨rfl, rfl⟩
        go_wp2_with fail
        refine (done_false _ _ _ empty_toList _ HR.out).mono ?_
        rintro e w9 ⟨rfl, rfl⟩
        go_wp2_with fail
        refine (left_any _ _ _ _ HR.out).mono ?_
        rintro e w9 ⟨rfl, rfl⟩
        go_wp2
        go_ret
        exact ⟨rfl, bA⟩
      · have hex := hfx.2.2
        have hdf := hfx.1
        have hle : (T.size : Int) ≤ (s.size : Int) := by have := hfx.2.1; omega
        have hT0 : (0 : Int) ≤ (T.size : Int) := by omega
        have hz : ((s2.size : Int) == 0) = false := beq_eq_false_iff_ne.2 (by omega)
        have HR := Lib.hid hr
        clear hr hs2 hsp hfx h0
        refine (left_any _ _ _ _ HR.out).mono ?_
        rintro e w9 ⟨rfl, rfl⟩
        go_wp2_with fail
        refine (left_any _ _ _ _ HR.out).mono ?_
        rintro e w9 ⟨rfl, rfl⟩
        go_wp2
        go_ret
        exact ⟨ret_bl (by rw [show (max 0 (min (T.size : Int) (s.size : Int))).toNat = T.size from by omega, hex]; exact beq_self_eq_true _), bA⟩


set_option maxRecDepth 100000 in
set_option maxHeartbeats 8000000 in
theorem again2_walk (s : ByteArray) (what : Int) (w : World) (hsz : s.size ≤ 400) (hw : In64 what) (ht : Tab w) (hk : kindOf what = 2) :
    Calls Tryd.prog 6 #[.string s, .int .i64 what] w fun e w' => e = .returned (.bool true) ∧ Below w.heap.size w w' := by
  have hs4 : (s.size : Int) ≤ 400 := by omega
  have HK := Lib.hid hk; clear hk
  have HW := Lib.hid hw; clear hw
  go_enter Tryd.func6, Tryd.ntmps6
  go_wp2_with fail
  refine (small_any _ ht).mono ?_
  rintro e w2 ⟨rfl, b2⟩
  go_wp2_with fail
  refine (open_any s _).mono ?_
  rintro e w3 ⟨rfl, hw3⟩
  have hr3 : RdrAt 54 w2.heap.size s false w3 := by rw [hw3]; exact heap_alloc_new w2 _
  have b3 : Below w.heap.size w w3 := by rw [hw3]; exact b2.alloc b2.size _
  have hq := b2.size
  generalize w2.heap.size = q at *
  have HR3 := Lib.hid hr3
  have hqlt := hr3.lt
  clear hw3 hr3 b2
  go_wp2_with fail
  refine (kind_is what 2 HK.out _ _ _ _ HW.out _).mono ?_
  rintro e w4 ⟨rfl, hb4⟩
  have b4 := b3.trans (hb4.mono b3.size)
  have HR4 := Lib.hid (HR3.out.below hb4 hqlt)
  have hqlt4 := HR4.out.lt
  clear HR3 hb4 b3 hqlt
  go_wp2_with fail
  have hN := textR_any q s false w4 HR4.out (by omega)
  cases hx : rdText s.data.toList with
  | none =>
    rw [hx] at hN
    have HN := Lib.hid hN; clear hN hx
    refine HN.out.mono ?_
    rintro e w5 ⟨rfl, ⟨s5, hs5, hr5⟩, hg5⟩
    obtain rfl := empty_of hs5
    have b5 := b4.trans (below_of_grown hg5 b4.size hq)
    have HR5 := Lib.hid hr5
    have hq5 := hr5.lt
    clear hs5 hr5 hg5 HN b4 HR4
    go_wp2_with fail
    refine (text_any ⟨#[]⟩ (by decide) _ (ht.on b5)).mono ?_
    rintro e w6 ⟨T, rfl, hT, hb6⟩
    have bA := b5.trans (hb6.mono b5.size)
    have hat : RdrAt 54 q ⟨#[]⟩ true w6 ∨ ∃ s2 rest, RdrAt 54 q s2 false w6 ∧ s2.data.toList = rest ∧ s.data.toList = T.data.toList ++ rest := .inl (HR5.out.below hb6 hq5)
    clear hT hb6 b5 HR5
    go_wp2_with fail
    rcases hat with hf | ⟨s2, rest, hr, hs2, hsp⟩
    · refine (left_any _ _ _ _ hf).mono ?_
      rintro e w9 ⟨rfl, rfl⟩
      have HF := Lib.hid hf; clear hf
      go_wp2_with fail
      refine (done_any _ _ _ _ HF.out).mono ?_
      rintro e w9 ⟨rfl, rfl⟩
      go_wp2
      go_ret
      exact ⟨rfl, bA⟩
    · have hfx := split_facts hsp hs2
      by_cases h0 : s2.size = 0
      · obtain rfl : s2 = ⟨#[]⟩ := empty_of (List.eq_nil_of_length_eq_zero (by rw [size_list]; exact h0))
        obtain rfl : s = T := ByteArray.ext (Array.toList_inj.1 (by rw [hsp, ← hs2]; simp))
        have hex := hfx.2.2
        have hss : ¬ ((s.size : Int) < (s.size : Int)) := by omega
        have hs0 : (0 : Int) ≤ (s.size : Int) := by omega
        have HR := Lib.hid hr
        clear hr hs2 hsp hfx h0
        refine (left_any _ _ _ _ HR.out).mono ?_
        rintro e w9 ⟨rfl, rfl⟩
        go_wp2_with fail
        refine (done_false _ _ _ empty_toList _ HR.out).mono ?_
        rintro e w9 ⟨rfl, rfl⟩
        go_wp2_with fail
        refine (left_any _ _ _ _ HR.out).mono ?_
        rintro e w9 ⟨rfl, rfl⟩
        go_wp2
        go_ret
        exact ⟨rfl, bA⟩
      · have hex := hfx.2.2
        have hdf := hfx.1
        have hle : (T.size : Int) ≤ (s.size : Int) := by have := hfx.2.1; omega
        have hT0 : (0 : Int) ≤ (T.size : Int) := by omega
        have hz : ((s2.size : Int) == 0) = false := beq_eq_false_iff_ne.2 (by omega)
        have HR := Lib.hid hr
        clear hr hs2 hsp hfx h0
        refine (left_any _ _ _ _ HR.out).mono ?_
        rintro e w9 ⟨rfl, rfl⟩
        go_wp2_with fail
        refine (left_any _ _ _ _ HR.out).mono ?_
        rintro e w9 ⟨rfl, rfl⟩
        go_wp2
        go_ret
        exact ⟨ret_bl (by rw [show (max 0 (min (T.size : Int) (s.size : Int))).toNat = T.size from by omega, hex]; exact beq_self_eq_true _), bA⟩
  | some y =>
    obtain ⟨x, rest⟩ := y
    rw [hx] at hN
    have HN := Lib.hid hN; clear hN
    have HX := Lib.hid (again_text hx hsz)
    clear hx
    refine HN.out.mono ?_
    rintro e w5 ⟨rfl, ⟨s5, hs5, hr5⟩, hg5⟩
    have b5 := b4.trans (below_of_grown hg5 b4.size hq)
    have HR5 := Lib.hid hr5
    have hq5 := hr5.lt
    have H5 := Lib.hid hs5
    rw [show vStr x = Value.string (bs x) from rfl]
    clear hs5 hr5 hg5 HN b4 HR4
    go_wp2_with fail
    refine (text_any (bs x) HX.out.2 _ (ht.on b5)).mono ?_
    rintro e w6 ⟨T, rfl, hT, hb6⟩
    have bA := b5.trans (hb6.mono b5.size)
    have hat : RdrAt 54 q ⟨#[]⟩ true w6 ∨ ∃ s2 rest, RdrAt 54 q s2 false w6 ∧ s2.data.toList = rest ∧ s.data.toList = T.data.toList ++ rest :=
      .inr ⟨s5, rest, HR5.out.below hb6 hq5, H5.out, by rw [hT]; exact HX.out.1⟩
    clear hT hb6 b5 HR5 H5
    go_wp2_with fail
    rcases hat with hf | ⟨s2, rest, hr, hs2, hsp⟩
    · refine (left_any _ _ _ _ hf).mono ?_
      rintro e w9 ⟨rfl, rfl⟩
      have HF := Lib.hid hf; clear hf
      go_wp2_with fail
      refine (done_any _ _ _ _ HF.out).mono ?_
      rintro e w9 ⟨rfl, rfl⟩
      go_wp2
      go_ret
      exact ⟨rfl, bA⟩
    · have hfx := split_facts hsp hs2
      by_cases h0 : s2.size = 0
      · obtain rfl : s2 = ⟨#[]⟩ := empty_of (List.eq_nil_of_length_eq_zero (by rw [size_list]; exact h0))
        obtain rfl : s = T := ByteArray.ext (Array.toList_inj.1 (by rw [hsp, ← hs2]; simp))
        have hex := hfx.2.2
        have hss : ¬ ((s.size : Int) < (s.size : Int)) := by omega
        have hs0 : (0 : Int) ≤ (s.size : Int) := by omega
        have HR := Lib.hid hr
        clear hr hs2 hsp hfx h0
        refine (left_any _ _ _ _ HR.out).mono ?_
        rintro e w9 ⟨rfl, rfl⟩
        go_wp2_with fail
        refine (done_false _ _ _ empty_toList _ HR.out).mono ?_
        rintro e w9 ⟨rfl, rfl⟩
        go_wp2_with fail
        refine (left_any _ _ _ _ HR.out).mono ?_
        rintro e w9 ⟨rfl, rfl⟩
        go_wp2
        go_ret
        exact ⟨rfl, bA⟩
      · have hex := hfx.2.2
        have hdf := hfx.1
        have hle : (T.size : Int) ≤ (s.size : Int) := by have := hfx.2.1; omega
        have hT0 : (0 : Int) ≤ (T.size : Int) := by omega
        have hz : ((s2.size : Int) == 0) = false := beq_eq_false_iff_ne.2 (by omega)
        have HR := Lib.hid hr
        clear hr hs2 hsp hfx h0
        refine (left_any _ _ _ _ HR.out).mono ?_
        rintro e w9 ⟨rfl, rfl⟩
        go_wp2_with fail
        refine (left_any _ _ _ _ HR.out).mono ?_
        rintro e w9 ⟨rfl, rfl⟩
        go_wp2
        go_ret
        exact ⟨ret_bl (by rw [show (max 0 (min (T.size : Int) (s.size : Int))).toNat = T.size from by omega, hex]; exact beq_self_eq_true _), bA⟩


set_option maxRecDepth 100000 in
set_option maxHeartbeats 8000000 in
theorem again3_walk (s : ByteArray) (what : Int) (w : World) (hsz : s.size ≤ 400) (hw : In64 what) (ht : Tab w) (hk : kindOf what = 3) :
    Calls Tryd.prog 6 #[.string s, .int .i64 what] w fun e w' => e = .returned (.bool true) ∧ Below w.heap.size w w' := by
  have hs4 : (s.size : Int) ≤ 400 := by omega
  have HK := Lib.hid hk; clear hk
  have HW := Lib.hid hw; clear hw
  go_enter Tryd.func6, Tryd.ntmps6
  go_wp2_with fail
  refine (small_any _ ht).mono ?_
  rintro e w2 ⟨rfl, b2⟩
  go_wp2_with fail
  refine (open_any s _).mono ?_
  rintro e w3 ⟨rfl, hw3⟩
  have hr3 : RdrAt 54 w2.heap.size s false w3 := by rw [hw3]; exact heap_alloc_new w2 _
  have b3 : Below w.heap.size w w3 := by rw [hw3]; exact b2.alloc b2.size _
  have hq := b2.size
  generalize w2.heap.size = q at *
  have HR3 := Lib.hid hr3
  have hqlt := hr3.lt
  clear hw3 hr3 b2
  go_wp2_with fail
  refine (kind_is what 3 HK.out _ _ _ _ HW.out _).mono ?_
  rintro e w4 ⟨rfl, hb4⟩
  have b4 := b3.trans (hb4.mono b3.size)
  have HR4 := Lib.hid (HR3.out.below hb4 hqlt)
  have hqlt4 := HR4.out.lt
  clear HR3 hb4 b3 hqlt
  go_wp2_with fail
  have hN := numsR_any q s false (fun h => nomatch h) w4 HR4.out (by omega)
  cases hx : rdList rdInt s.data.toList with
  | none =>
    rw [hx] at hN
    have HN := Lib.hid hN; clear hN hx
    refine HN.out.mono ?_
    rintro e w5 ⟨rfl, ⟨s5, hs5, hr5⟩, hg5⟩
    obtain rfl := empty_of hs5
    have b5 := b4.trans (below_of_grown hg5 b4.size hq)
    have HR5 := Lib.hid hr5
    have hq5 := hr5.lt
    clear hs5 hr5 hg5 HN b4 HR4
    go_wp2_with fail
    refine (nums_any none 0 [] _ Row.nil (fun x hx => nomatch hx) (by decide) (ht.on b5)).mono ?_
    rintro e w6 ⟨T, rfl, hT, hb6⟩
    have bA := b5.trans (hb6.mono b5.size)
    have hat : RdrAt 54 q ⟨#[]⟩ true w6 ∨ ∃ s2 rest, RdrAt 54 q s2 false w6 ∧ s2.data.toList = rest ∧ s.data.toList = T.data.toList ++ rest := .inl (HR5.out.below hb6 hq5)
    clear hT hb6 b5 HR5
    go_wp2_with fail
    rcases hat with hf | ⟨s2, rest, hr, hs2, hsp⟩
    · refine (left_any _ _ _ _ hf).mono ?_
      rintro e w9 ⟨rfl, rfl⟩
      have HF := Lib.hid hf; clear hf
      go_wp2_with fail
      refine (done_any _ _ _ _ HF.out).mono ?_
      rintro e w9 ⟨rfl, rfl⟩
      go_wp2
      go_ret
      exact ⟨rfl, bA⟩
    · have hfx := split_facts hsp hs2
      by_cases h0 : s2.size = 0
      · obtain rfl : s2 = ⟨#[]⟩ := empty_of (List.eq_nil_of_length_eq_zero (by rw [size_list]; exact h0))
        obtain rfl : s = T := ByteArray.ext (Array.toList_inj.1 (by rw [hsp, ← hs2]; simp))
        have hex := hfx.2.2
        have hss : ¬ ((s.size : Int) < (s.size : Int)) := by omega
        have hs0 : (0 : Int) ≤ (s.size : Int) := by omega
        have HR := Lib.hid hr
        clear hr hs2 hsp hfx h0
        refine (left_any _ _ _ _ HR.out).mono ?_
        rintro e w9 ⟨rfl, rfl⟩
        go_wp2_with fail
        refine (done_false _ _ _ empty_toList _ HR.out).mono ?_
        rintro e w9 ⟨rfl, rfl⟩
        go_wp2_with fail
        refine (left_any _ _ _ _ HR.out).mono ?_
        rintro e w9 ⟨rfl, rfl⟩
        go_wp2
        go_ret
        exact ⟨rfl, bA⟩
      · have hex := hfx.2.2
        have hdf := hfx.1
        have hle : (T.size : Int) ≤ (s.size : Int) := by have := hfx.2.1; omega
        have hT0 : (0 : Int) ≤ (T.size : Int) := by omega
        have hz : ((s2.size : Int) == 0) = false := beq_eq_false_iff_ne.2 (by omega)
        have HR := Lib.hid hr
        clear hr hs2 hsp hfx h0
        refine (left_any _ _ _ _ HR.out).mono ?_
        rintro e w9 ⟨rfl, rfl⟩
        go_wp2_with fail
        refine (left_any _ _ _ _ HR.out).mono ?_
        rintro e w9 ⟨rfl, rfl⟩
        go_wp2
        go_ret
        exact ⟨ret_bl (by rw [show (max 0 (min (T.size : Int) (s.size : Int))).toNat = T.size from by omega, hex]; exact beq_self_eq_true _), bA⟩
  | some y =>
    obtain ⟨x, rest⟩ := y
    rw [hx] at hN
    have HN := Lib.hid hN; clear hN
    have HX := Lib.hid (again_nums hx hsz)
    clear hx
    refine HN.out.mono ?_
    rintro e w5 ⟨A, cap, rfl, hrow, ⟨s5, hs5, hr5⟩, hg5⟩
    have b5 := b4.trans (below_of_grown hg5 b4.size hq)
    have HR5 := Lib.hid hr5
    have hq5 := hr5.lt
    have H5 := Lib.hid hs5
    have HRow := Lib.hid hrow.row; clear hrow
    clear hs5 hr5 hg5 HN b4 HR4
    go_wp2_with fail
    refine (nums_any A cap x _ HRow.out HX.out.2.1 (by have := HX.out.2.2; omega) (ht.on b5)).mono ?_
    rintro e w6 ⟨T, rfl, hT, hb6⟩
    have bA := b5.trans (hb6.mono b5.size)
    have hat : RdrAt 54 q ⟨#[]⟩ true w6 ∨ ∃ s2 rest, RdrAt 54 q s2 false w6 ∧ s2.data.toList = rest ∧ s.data.toList = T.data.toList ++ rest :=
      .inr ⟨s5, rest, HR5.out.below hb6 hq5, H5.out, by rw [hT]; exact HX.out.1⟩
    clear hT hb6 b5 HR5 H5
    go_wp2_with fail
    rcases hat with hf | ⟨s2, rest, hr, hs2, hsp⟩
    · refine (left_any _ _ _ _ hf).mono ?_
      rintro e w9 ⟨rfl, rfl⟩
      have HF := Lib.hid hf; clear hf
      go_wp2_with fail
      refine (done_any _ _ _ _ HF.out).mono ?_
      rintro e w9 ⟨rfl, rfl⟩
      go_wp2
      go_ret
      exact ⟨rfl, bA⟩
    · have hfx := split_facts hsp hs2
      by_cases h0 : s2.size = 0
      · obtain rfl : s2 = ⟨#[]⟩ := empty_of (List.eq_nil_of_length_eq_zero (by rw [size_list]; exact h0))
        obtain rfl : s = T := ByteArray.ext (Array.toList_inj.1 (by rw [hsp, ← hs2]; simp))
        have hex := hfx.2.2
        have hss : ¬ ((s.size : Int) < (s.size : Int)) := by omega
        have hs0 : (0 : Int) ≤ (s.size : Int) := by omega
        have HR := Lib.hid hr
        clear hr hs2 hsp hfx h0
        refine (left_any _ _ _ _ HR.out).mono ?_
        rintro e w9 ⟨rfl, rfl⟩
        go_wp2_with fail
        refine (done_false _ _ _ empty_toList _ HR.out).mono ?_
        rintro e w9 ⟨rfl, rfl⟩
        go_wp2_with fail
        refine (left_any _ _ _ _ HR.out).mono ?_
        rintro e w9 ⟨rfl, rfl⟩
        go_wp2
        go_ret
        exact ⟨rfl, bA⟩
      · have hex := hfx.2.2
        have hdf := hfx.1
        have hle : (T.size : Int) ≤ (s.size : Int) := by have := hfx.2.1; omega
        have hT0 : (0 : Int) ≤ (T.size : Int) := by omega
        have hz : ((s2.size : Int) == 0) = false := beq_eq_false_iff_ne.2 (by omega)
        have HR := Lib.hid hr
        clear hr hs2 hsp hfx h0
        refine (left_any _ _ _ _ HR.out).mono ?_
        rintro e w9 ⟨rfl, rfl⟩
        go_wp2_with fail
        refine (left_any _ _ _ _ HR.out).mono ?_
        rintro e w9 ⟨rfl, rfl⟩
        go_wp2
        go_ret
        exact ⟨ret_bl (by rw [show (max 0 (min (T.size : Int) (s.size : Int))).toNat = T.size from by omega, hex]; exact beq_self_eq_true _), bA⟩


set_option maxRecDepth 100000 in
set_option maxHeartbeats 8000000 in
theorem again4_walk (s : ByteArray) (what : Int) (w : World) (hsz : s.size ≤ 400) (hw : In64 what) (ht : Tab w) (hk : kindOf what = 4) :
    Calls Tryd.prog 6 #[.string s, .int .i64 what] w fun e w' => e = .returned (.bool true) ∧ Below w.heap.size w w' := by
  have hs4 : (s.size : Int) ≤ 400 := by omega
  have HK := Lib.hid hk; clear hk
  have HW := Lib.hid hw; clear hw
  go_enter Tryd.func6, Tryd.ntmps6
  go_wp2_with fail
  refine (small_any _ ht).mono ?_
  rintro e w2 ⟨rfl, b2⟩
  go_wp2_with fail
  refine (open_any s _).mono ?_
  rintro e w3 ⟨rfl, hw3⟩
  have hr3 : RdrAt 54 w2.heap.size s false w3 := by rw [hw3]; exact heap_alloc_new w2 _
  have b3 : Below w.heap.size w w3 := by rw [hw3]; exact b2.alloc b2.size _
  have hq := b2.size
  generalize w2.heap.size = q at *
  have HR3 := Lib.hid hr3
  have hqlt := hr3.lt
  clear hw3 hr3 b2
  go_wp2_with fail
  refine (kind_is what 4 HK.out _ _ _ _ HW.out _).mono ?_
  rintro e w4 ⟨rfl, hb4⟩
  have b4 := b3.trans (hb4.mono b3.size)
  have HR4 := Lib.hid (HR3.out.below hb4 hqlt)
  have hqlt4 := HR4.out.lt
  clear HR3 hb4 b3 hqlt
  go_wp2_with fail
  have hN := textsR_any q s false (fun h => nomatch h) w4 HR4.out (by omega)
  cases hx : rdList rdText s.data.toList with
  | none =>
    rw [hx] at hN
    have HN := Lib.hid hN; clear hN hx
    refine HN.out.mono ?_
    rintro e w5 ⟨rfl, ⟨s5, hs5, hr5⟩, hg5⟩
    obtain rfl := empty_of hs5
    have b5 := b4.trans (below_of_grown hg5 b4.size hq)
    have HR5 := Lib.hid hr5
    have hq5 := hr5.lt
    clear hs5 hr5 hg5 HN b4 HR4
    go_wp2_with fail
    refine (texts_any none 0 [] _ Row.nil (fun x hx => nomatch hx) (by simp) (by decide) (ht.on b5)).mono ?_
    rintro e w6 ⟨T, rfl, hT, hb6⟩
    have bA := b5.trans (hb6.mono b5.size)
    have hat : RdrAt 54 q ⟨#[]⟩ true w6 ∨ ∃ s2 rest, RdrAt 54 q s2 false w6 ∧ s2.data.toList = rest ∧ s.data.toList = T.data.toList ++ rest := .inl (HR5.out.below hb6 hq5)
    clear hT hb6 b5 HR5
    go_wp2_with fail
    rcases hat with hf | ⟨s2, rest, hr, hs2, hsp⟩
    · refine (left_any _ _ _ _ hf).mono ?_
      rintro e w9 ⟨rfl, rfl⟩
      have HF := Lib.hid hf; clear hf
      go_wp2_with fail
      refine (done_any _ _ _ _ HF.out).mono ?_
      rintro e w9 ⟨rfl, rfl⟩
      go_wp2
      go_ret
      exact ⟨rfl, bA⟩
    · have hfx := split_facts hsp hs2
      by_cases h0 : s2.size = 0
      · obtain rfl : s2 = ⟨#[]⟩ := empty_of (List.eq_nil_of_length_eq_zero (by rw [size_list]; exact h0))
        obtain rfl : s = T := ByteArray.ext (Array.toList_inj.1 (by rw [hsp, ← hs2]; simp))
        have hex := hfx.2.2
        have hss : ¬ ((s.size : Int) < (s.size : Int)) := by omega
        have hs0 : (0 : Int) ≤ (s.size : Int) := by omega
        have HR := Lib.hid hr
        clear hr hs2 hsp hfx h0
        refine (left_any _ _ _ _ HR.out).mono ?_
        rintro e w9 ⟨rfl, rfl⟩
        go_wp2_with fail
        refine (done_false _ _ _ empty_toList _ HR.out).mono ?_
        rintro e w9 ⟨rfl, rfl⟩
        go_wp2_with fail
        refine (left_any _ _ _ _ HR.out).mono ?_
        rintro e w9 ⟨rfl, rfl⟩
        go_wp2
        go_ret
        exact ⟨rfl, bA⟩
      · have hex := hfx.2.2
        have hdf := hfx.1
        have hle : (T.size : Int) ≤ (s.size : Int) := by have := hfx.2.1; omega
        have hT0 : (0 : Int) ≤ (T.size : Int) := by omega
        have hz : ((s2.size : Int) == 0) = false := beq_eq_false_iff_ne.2 (by omega)
        have HR := Lib.hid hr
        clear hr hs2 hsp hfx h0
        refine (left_any _ _ _ _ HR.out).mono ?_
        rintro e w9 ⟨rfl, rfl⟩
        go_wp2_with fail
        refine (left_any _ _ _ _ HR.out).mono ?_
        rintro e w9 ⟨rfl, rfl⟩
        go_wp2
        go_ret
        exact ⟨ret_bl (by rw [show (max 0 (min (T.size : Int) (s.size : Int))).toNat = T.size from by omega, hex]; exact beq_self_eq_true _), bA⟩
  | some y =>
    obtain ⟨x, rest⟩ := y
    rw [hx] at hN
    have HN := Lib.hid hN; clear hN
    have HX := Lib.hid (again_texts hx hsz)
    clear hx
    refine HN.out.mono ?_
    rintro e w5 ⟨A, cap, rfl, hrow, ⟨s5, hs5, hr5⟩, hg5⟩
    have b5 := b4.trans (below_of_grown hg5 b4.size hq)
    have HR5 := Lib.hid hr5
    have hq5 := hr5.lt
    have H5 := Lib.hid hs5
    have hrow2 : Row w5 A ((x.map bs).map Value.string) := by rw [List.map_map]; exact hrow.row
    have HTW := fun ht => texts_any A cap (x.map bs) w5 hrow2 HX.out.2.1 HX.out.2.2.1 (by rw [List.length_map]; have := HX.out.2.2.2; omega) ht
    rw [List.length_map] at HTW
    have HT2 := Lib.hid HTW
    clear hrow hrow2 HTW
    clear hs5 hr5 hg5 HN b4 HR4
    go_wp2_with fail
    refine (HT2.out (ht.on b5)).mono ?_
    rintro e w6 ⟨T, rfl, hT, hb6⟩
    have bA := b5.trans (hb6.mono b5.size)
    have hat : RdrAt 54 q ⟨#[]⟩ true w6 ∨ ∃ s2 rest, RdrAt 54 q s2 false w6 ∧ s2.data.toList = rest ∧ s.data.toList = T.data.toList ++ rest :=
      .inr ⟨s5, rest, HR5.out.below hb6 hq5, H5.out, by rw [hT]; exact HX.out.1⟩
    clear hT hb6 b5 HR5 H5
    go_wp2_with fail
    rcases hat with hf | ⟨s2, rest, hr, hs2, hsp⟩
    · refine (left_any _ _ _ _ hf).mono ?_
      rintro e w9 ⟨rfl, rfl⟩
      have HF := Lib.hid hf; clear hf
      go_wp2_with fail
      refine (done_any _ _ _ _ HF.out).mono ?_
      rintro e w9 ⟨rfl, rfl⟩
      go_wp2
      go_ret
      exact ⟨rfl, bA⟩
    · have hfx := split_facts hsp hs2
      by_cases h0 : s2.size = 0
      · obtain rfl : s2 = ⟨#[]⟩ := empty_of (List.eq_nil_of_length_eq_zero (by rw [size_list]; exact h0))
        obtain rfl : s = T := ByteArray.ext (Array.toList_inj.1 (by rw [hsp, ← hs2]; simp))
        have hex := hfx.2.2
        have hss : ¬ ((s.size : Int) < (s.size : Int)) := by omega
        have hs0 : (0 : Int) ≤ (s.size : Int) := by omega
        have HR := Lib.hid hr
        clear hr hs2 hsp hfx h0
        refine (left_any _ _ _ _ HR.out).mono ?_
        rintro e w9 ⟨rfl, rfl⟩
        go_wp2_with fail
        refine (done_false _ _ _ empty_toList _ HR.out).mono ?_
        rintro e w9 ⟨rfl, rfl⟩
        go_wp2_with fail
        refine (left_any _ _ _ _ HR.out).mono ?_
        rintro e w9 ⟨rfl, rfl⟩
        go_wp2
        go_ret
        exact ⟨rfl, bA⟩
      · have hex := hfx.2.2
        have hdf := hfx.1
        have hle : (T.size : Int) ≤ (s.size : Int) := by have := hfx.2.1; omega
        have hT0 : (0 : Int) ≤ (T.size : Int) := by omega
        have hz : ((s2.size : Int) == 0) = false := beq_eq_false_iff_ne.2 (by omega)
        have HR := Lib.hid hr
        clear hr hs2 hsp hfx h0
        refine (left_any _ _ _ _ HR.out).mono ?_
        rintro e w9 ⟨rfl, rfl⟩
        go_wp2_with fail
        refine (left_any _ _ _ _ HR.out).mono ?_
        rintro e w9 ⟨rfl, rfl⟩
        go_wp2
        go_ret
        exact ⟨ret_bl (by rw [show (max 0 (min (T.size : Int) (s.size : Int))).toNat = T.size from by omega, hex]; exact beq_self_eq_true _), bA⟩


set_option maxHeartbeats 1000000 in
theorem again_walk (s : ByteArray) (what : Int) (w : World) (hsz : s.size ≤ 9223372036854775807) (hw : In64 what) (ht : Tab w) :
    Calls Tryd.prog 6 #[.string s, .int .i64 what] w fun e w' => e = .returned (.bool true) ∧ Below w.heap.size w w' := by
  by_cases h4 : 400 < s.size
  · have hs4 : (400 : Int) < (s.size : Int) := by omega
    clear hw
    go_enter Tryd.func6, Tryd.ntmps6
    go_wp2_with fail
    refine (small_any _ ht).mono ?_
    rintro e w2 ⟨rfl, b2⟩
    go_wp2
    go_ret
    exact ⟨rfl, b2⟩
  · have hs : s.size ≤ 400 := by omega
    rcases kind_range what with h | h | h | h | h
    · exact again0_walk s what w hs hw ht h
    · exact again1_walk s what w hs hw ht h
    · exact again2_walk s what w hs hw ht h
    · exact again3_walk s what w hs hw ht h
    · exact again4_walk s what w hs hw ht h

end Go.Proofs.YtdpedeknccnbhaaDoor
