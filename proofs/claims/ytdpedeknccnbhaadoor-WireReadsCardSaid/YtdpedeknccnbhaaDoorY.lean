/-
  The walk of WireReads.
-/
import Derived.Test.YtdpedeknccnbhaaDoorX
import Derived.Test.YtdpedeknccnbhaaDoorO
set_option linter.unusedVariables false
namespace Go.Proofs.YtdpedeknccnbhaaDoor
open Go.RowKit Go.Sort

/-- both readers stand alike: the same rest, the same mark. -/
def Both (q1 q2 : Nat) (u : ByteArray) (f : Bool) (w : World) : Prop := RdrAt 54 q1 u f w ∧ RdrAt 56 q2 u f w
theorem Both.kept {q1 q2 : Nat} {u : ByteArray} {f : Bool} {w w' : World} (h : Both q1 q2 u f w) (hb : Below w.heap.size w w') : Both q1 q2 u f w' := ⟨h.1.below hb h.1.lt, h.2.below hb h.2.lt⟩
theorem both_of {q1 q2 : Nat} {l : List UInt8} {f : Bool} {w5 w6 : World} (hne : q1 ≠ q2) (h1 : ∃ s : ByteArray, s.data.toList = l ∧ RdrAt 54 q1 s f w5) (h2 : ∃ s : ByteArray, s.data.toList = l ∧ RdrAt 56 q2 s f w6) (hg : w5.grownBy w6 (some q2)) :
    ∃ u : ByteArray, u.data.toList = l ∧ Both q1 q2 u f w6 := by
  obtain ⟨a, ha, ra⟩ := h1
  obtain ⟨b, hb, rb⟩ := h2
  obtain rfl : a = b := ByteArray.ext (Array.toList_inj.1 (by rw [ha, hb]))
  exact ⟨a, ha, ra.kept hg (fun e => hne (Option.some.inj e)), rb⟩
theorem sameNone_ints (w : World) : Calls Tryd.prog 30 #[.slice none 0 0, .slice none 0 0] w fun e w' => e = .returned (.bool true) ∧ ∃ n, w' = w.drewN n := sameInts_any none 0 none 0 [] w Row.nil Row.nil (by decide)
theorem sameNone_strs (w : World) : Calls Tryd.prog 33 #[.slice none 0 0, .slice none 0 0] w fun e w' => e = .returned (.bool true) ∧ ∃ n, w' = w.drewN n := sameStrs_any none 0 none 0 [] w Row.nil Row.nil (by decide)
theorem sameLists (A1 : Option Addr) (c1 : Nat) (A2 : Option Addr) (c2 : Nat) (xs : List (List UInt8)) (w : World) (h1 : Row w A1 (xs.map vStr)) (h2 : Row w A2 (xs.map vStr)) (hl : xs.length ≤ 9223372036854775807) :
    Calls Tryd.prog 33 #[.slice A1 xs.length c1, .slice A2 xs.length c2] w fun e w' => e = .returned (.bool true) ∧ ∃ n, w' = w.drewN n := by
  have e : (xs.map bs).map Value.string = xs.map vStr := by rw [List.map_map]; rfl
  have h := sameStrs_any A1 c1 A2 c2 (xs.map bs) w (by rw [e]; exact h1) (by rw [e]; exact h2) (by rw [List.length_map]; exact hl)
  rw [List.length_map] at h
  exact h
theorem list_rest {α : Type} {one : List UInt8 → Option (α × List UInt8)} {g : α → List UInt8} {ok : α → Prop} (h1 : Reads1 one g ok) {l : List UInt8} (hl : l.length ≤ maxI) (hg : ∀ x, ok x → 1 ≤ (g x).length) {x : List α} {rest : List UInt8} (h : rdList one l = some (x, rest)) :
    rest.length + x.length + 1 ≤ l.length := by
  obtain ⟨h2, _, h4⟩ := (rdList_iff h1 l hl x rest).1 h
  have h5 : x.length ≤ (x.flatMap g).length := by
    have : ∀ (y : List α), (∀ z ∈ y, ok z) → y.length ≤ (y.flatMap g).length := by
      intro y
      induction y with
      | nil => simp
      | cons a t ih =>
        intro hy
        have := ih (fun z hz => hy z (by simp [hz]))
        have := hg a (hy a (by simp))
        simp only [List.flatMap_cons, List.length_append, List.length_cons]
        omega
    exact this x h4
  have h6 := congrArg List.length h2
  unfold eList at h6
  simp only [List.length_append, List.length_cons, List.length_nil] at h6
  omega
theorem le_of_data {u s : ByteArray} {l : List UInt8} (h : u.data.toList = l) (hl : l.length ≤ s.size) : u.size ≤ s.size := by rw [size_of h]; exact hl

set_option maxRecDepth 100000 in
set_option maxHeartbeats 40000000 in
theorem reads_walk (s : ByteArray) (A : Option Addr) (cap : Nat) (l : List Int) (w : World) (hA : Row w A (l.map (Value.int .i64))) (hin : ∀ x ∈ l, In64 x) (hl : l.length ≤ 9223372036854775807) (hsz : s.size ≤ 9223372036854775807) (ht : Tab w) :
    Calls Tryd.prog 4 #[.string s, .slice A l.length cap] w fun e w' => e = .returned (.bool true) ∧ Below w.heap.size w w' := by
  have HA := Lib.hid hA; clear hA
  have HI := Lib.hid hin; clear hin
  by_cases h4 : 400 < s.size
  · have h4' : (400 : Int) < (s.size : Int) := by omega
    go_enter Tryd.func4, Tryd.ntmps4
    go_wp2_with fail
    refine (small_any _ ht).mono ?_
    rintro e w2 ⟨rfl, b2⟩
    go_wp2
    go_ret
    exact ⟨rfl, b2⟩
  · have h4' : (s.size : Int) ≤ 400 := by omega
    by_cases h20 : 20 < l.length
    · have h20' : (20 : Int) < (l.length : Int) := by omega
      go_enter Tryd.func4, Tryd.ntmps4
      go_wp2_with fail
      refine (small_any _ ht).mono ?_
      rintro e w2 ⟨rfl, b2⟩
      go_wp2
      go_ret
      exact ⟨rfl, b2⟩
    · have h20' : (l.length : Int) ≤ 20 := by omega
      go_enter Tryd.func4, Tryd.ntmps4
      go_wp2_with fail
      refine (small_any _ ht).mono ?_
      rintro e w2 ⟨rfl, b2⟩
      go_wp2_with fail
      refine (open_any s _).mono ?_
      rintro e w3 ⟨rfl, hw3⟩
      have hr3 : RdrAt 54 w2.heap.size s false w3 := by rw [hw3]; exact heap_alloc_new w2 _
      have b3 : Below w.heap.size w w3 := by rw [hw3]; exact b2.alloc b2.size _
      have hq1 := b2.size
      have hq1lt := hr3.lt
      generalize w2.heap.size = q1 at *
      clear hw3 b2
      have HR3 := Lib.hid hr3; clear hr3
      go_wp2_with fail
      refine (ropen_any s _).mono ?_
      rintro e w4 ⟨rfl, hw4⟩
      have hr4 : RdrAt 56 w3.heap.size s false w4 := by rw [hw4]; exact heap_alloc_new w3 _
      have b34 : Below w3.heap.size w3 w4 := by rw [hw4]; exact (Below.refl _ _).alloc (Nat.le_refl _) _
      have b4 := b3.trans (b34.mono b3.size)
      have hB : Hid (Both q1 w3.heap.size s false w4) := Lib.hid ⟨HR3.out.below b34 hq1lt, hr4⟩
      have hq2 := b3.size
      have hne : Hid (q1 ≠ w3.heap.size) := Lib.hid (by omega)
      generalize w3.heap.size = q2 at *
      clear hw4 hr4 b34 b3 HR3
      go_wp2
      go_loopw [8] (fun i wr => ∃ (k : Nat) (u : ByteArray) (f : Bool), k ≤ l.length ∧ i = .int .i64 k ∧ Hid (Both q1 q2 u f wr) ∧ Hid (f = true → u.data.toList = []) ∧ u.size ≤ s.size ∧ Below w.heap.size w wr) (fun i _ => l.length - (intOf i).toNat)
      case atStart => exact ⟨0, s, false, Nat.zero_le _, rfl, hB, Lib.hid (fun h => nomatch h), Nat.le_refl _, b4⟩
      case round =>
        obtain ⟨k, u, f, hk, rfl, hb, hf, hus, bb⟩ := hrel
        clear b4 hB
        by_cases hlt : k < l.length
        · obtain ⟨bk, off, rfl, hbk, hc⟩ := HA.out (by simp; omega)
          have hcell : wr.cell? ⟨bk, off + k, none⟩ = some (.int .i64 l[k]) := (bb.cell (p := ⟨bk, off + k, none⟩) hbk).trans (hc k _ (by simp [hlt]))
          clear hc
          have HK : Hid (In64 l[k]) := HI.out _ (List.getElem_mem hlt)
          generalize l[k] = x at *
          have hi0' : (0 : Int) ≤ (k : Int) := by omega
          have hi1 : (k : Int) < (l.length : Int) := by omega
          have husz : u.size ≤ 1099511627776 := by omega
          rcases kind_range x with hk5 | hk5 | hk5 | hk5 | hk5
          · have HK5 := Lib.hid hk5; clear hk5
            go_wp2_with fail
            refine (kind_is x 0 HK5.out _ _ _ _ HK.out _).mono ?_
            rintro e w4 ⟨rfl, hb4⟩
            have b4 := bb.trans (hb4.mono bb.size)
            have hB4 := Lib.hid (hb.out.kept hb4)
            have HQ4 := hB4.out.2.lt
            clear bb hb hb4 hcell
            have h1 := numR_any q1 u f  w4 hB4.out.1 husz
            cases hx : rdNum u.data.toList with
            | none =>
              rw [hx] at h1
              have H1 := Lib.hid h1
              have HX := Lib.hid hx
              clear h1 hx
              go_wp2_with fail
              refine H1.out.mono ?_
              rintro e w5 ⟨rfl, h5, hg5⟩
              have hr5 : RdrAt 56 q2 u f w5 := hB4.out.2.kept hg5 (fun e => hne.out (Option.some.inj e).symm)
              have h2 := rnumR_any q2 u f  w5 hr5 husz
              rw [HX.out] at h2
              have H2 := Lib.hid h2
              have b5 := b4.trans (below_of_grown hg5 b4.size hq1)
              clear h2 hr5 hg5 b4 hB4
              go_wp2_with fail
              refine H2.out.mono ?_
              rintro e w6 ⟨rfl, h6, hg6⟩
              obtain ⟨u6, hu6, hb6⟩ := both_of hne.out h5 h6 hg6
              have b6 := b5.trans (below_of_grown hg6 b5.size hq2)
              have hu6s : u6.size ≤ s.size := le_of_data hu6 (Nat.zero_le _)
              have HU6 := Lib.hid hu6
              have HB6 := Lib.hid hb6
              clear h5 h6 hb6 hu6 hg6 b5
              go_wp2_with fail
              refine (left_any _ _ _ _ HB6.out.1).mono ?_
              rintro e w7 ⟨rfl, rfl⟩
              go_wp2_with fail
              refine (rleft_any _ _ _ _ HB6.out.2).mono ?_
              rintro e w7 ⟨rfl, rfl⟩
              go_wp2_with fail
              refine (done_any _ _ _ _ HB6.out.1).mono ?_
              rintro e w7 ⟨rfl, rfl⟩
              go_wp2_with fail
              refine (rdone_any _ _ _ _ HB6.out.2).mono ?_
              rintro e w7 ⟨rfl, rfl⟩
              go_wp2
              go_roundw
              case rel => exact ⟨k + 1, u6, _, by omega, by go_num, HB6, Lib.hid (fun _ => HU6.out), hu6s, b6⟩
              case measure => simp [intOf]; omega
            | some y =>
              obtain ⟨v, rest⟩ := y
              rw [hx] at h1
              have hrest := int_rest (v := v) (l := u.data.toList) (t := rest) (by have h := (rdNum_iff _ _ _).1 hx; exact (rdInt_iff _ _ _).2 ⟨h.1, h.2.2⟩)
              rw [size_list] at hrest
              have hff : f = false := by
                cases f with
                | false => rfl
                | true =>
                  have h0 := size_list u
                  rw [hf.out rfl] at h0
                  simp at h0
                  omega
              have H1 := Lib.hid h1
              have HX := Lib.hid hx
              clear h1 hx
              go_wp2_with fail
              refine H1.out.mono ?_
              rintro e w5 ⟨rfl, h5, hg5⟩
              have hr5 : RdrAt 56 q2 u f w5 := hB4.out.2.kept hg5 (fun e => hne.out (Option.some.inj e).symm)
              have h2 := rnumR_any q2 u f  w5 hr5 husz
              rw [HX.out] at h2
              have H2 := Lib.hid h2
              have b5 := b4.trans (below_of_grown hg5 b4.size hq1)
              have hq2lt := hr5.lt
              clear h2 hr5 b4 hB4
              go_wp2_with fail
              refine H2.out.mono ?_
              rintro e w6 ⟨rfl, h6, hg6⟩
              obtain ⟨u6, hu6, hb6⟩ := both_of hne.out h5 h6 hg6
              have b6 := b5.trans (below_of_grown hg6 b5.size hq2)
              have hu6s : u6.size ≤ s.size := le_of_data hu6 (by omega)
              have hf6 : Hid (f = true → u6.data.toList = []) := Lib.hid (fun h => by rw [hff] at h; cases h)
              have HB6 := Lib.hid hb6
              clear hff
              clear h5 h6 hb6 hu6 hg6 b5 hg5
              go_wp2_with fail
              refine (left_any _ _ _ _ HB6.out.1).mono ?_
              rintro e w7 ⟨rfl, rfl⟩
              go_wp2_with fail
              refine (rleft_any _ _ _ _ HB6.out.2).mono ?_
              rintro e w7 ⟨rfl, rfl⟩
              go_wp2_with fail
              refine (done_any _ _ _ _ HB6.out.1).mono ?_
              rintro e w7 ⟨rfl, rfl⟩
              go_wp2_with fail
              refine (rdone_any _ _ _ _ HB6.out.2).mono ?_
              rintro e w7 ⟨rfl, rfl⟩
              go_wp2
              go_roundw
              case rel => exact ⟨k + 1, u6, _, by omega, by go_num, HB6, hf6, hu6s, b6⟩
              case measure => simp [intOf]; omega
          · have HK5 := Lib.hid hk5; clear hk5
            go_wp2_with fail
            refine (kind_is x 1 HK5.out _ _ _ _ HK.out _).mono ?_
            rintro e w4 ⟨rfl, hb4⟩
            have b4 := bb.trans (hb4.mono bb.size)
            have hB4 := Lib.hid (hb.out.kept hb4)
            have HQ4 := hB4.out.2.lt
            clear bb hb hb4 hcell
            have h1 := intR_any q1 u f  w4 hB4.out.1 husz
            cases hx : rdInt u.data.toList with
            | none =>
              rw [hx] at h1
              have H1 := Lib.hid h1
              have HX := Lib.hid hx
              clear h1 hx
              go_wp2_with fail
              refine H1.out.mono ?_
              rintro e w5 ⟨rfl, h5, hg5⟩
              have hr5 : RdrAt 56 q2 u f w5 := hB4.out.2.kept hg5 (fun e => hne.out (Option.some.inj e).symm)
              have h2 := rintR_any q2 u f  w5 hr5 husz
              rw [HX.out] at h2
              have H2 := Lib.hid h2
              have b5 := b4.trans (below_of_grown hg5 b4.size hq1)
              clear h2 hr5 hg5 b4 hB4
              go_wp2_with fail
              refine H2.out.mono ?_
              rintro e w6 ⟨rfl, h6, hg6⟩
              obtain ⟨u6, hu6, hb6⟩ := both_of hne.out h5 h6 hg6
              have b6 := b5.trans (below_of_grown hg6 b5.size hq2)
              have hu6s : u6.size ≤ s.size := le_of_data hu6 (Nat.zero_le _)
              have HU6 := Lib.hid hu6
              have HB6 := Lib.hid hb6
              clear h5 h6 hb6 hu6 hg6 b5
              go_wp2_with fail
              refine (left_any _ _ _ _ HB6.out.1).mono ?_
              rintro e w7 ⟨rfl, rfl⟩
              go_wp2_with fail
              refine (rleft_any _ _ _ _ HB6.out.2).mono ?_
              rintro e w7 ⟨rfl, rfl⟩
              go_wp2_with fail
              refine (done_any _ _ _ _ HB6.out.1).mono ?_
              rintro e w7 ⟨rfl, rfl⟩
              go_wp2_with fail
              refine (rdone_any _ _ _ _ HB6.out.2).mono ?_
              rintro e w7 ⟨rfl, rfl⟩
              go_wp2
              go_roundw
              case rel => exact ⟨k + 1, u6, _, by omega, by go_num, HB6, Lib.hid (fun _ => HU6.out), hu6s, b6⟩
              case measure => simp [intOf]; omega
            | some y =>
              obtain ⟨v, rest⟩ := y
              rw [hx] at h1
              have hrest := int_rest hx
              rw [size_list] at hrest
              have hff : f = false := by
                cases f with
                | false => rfl
                | true =>
                  have h0 := size_list u
                  rw [hf.out rfl] at h0
                  simp at h0
                  omega
              have H1 := Lib.hid h1
              have HX := Lib.hid hx
              clear h1 hx
              go_wp2_with fail
              refine H1.out.mono ?_
              rintro e w5 ⟨rfl, h5, hg5⟩
              have hr5 : RdrAt 56 q2 u f w5 := hB4.out.2.kept hg5 (fun e => hne.out (Option.some.inj e).symm)
              have h2 := rintR_any q2 u f  w5 hr5 husz
              rw [HX.out] at h2
              have H2 := Lib.hid h2
              have b5 := b4.trans (below_of_grown hg5 b4.size hq1)
              have hq2lt := hr5.lt
              clear h2 hr5 b4 hB4
              go_wp2_with fail
              refine H2.out.mono ?_
              rintro e w6 ⟨rfl, h6, hg6⟩
              obtain ⟨u6, hu6, hb6⟩ := both_of hne.out h5 h6 hg6
              have b6 := b5.trans (below_of_grown hg6 b5.size hq2)
              have hu6s : u6.size ≤ s.size := le_of_data hu6 (by omega)
              have hf6 : Hid (f = true → u6.data.toList = []) := Lib.hid (fun h => by rw [hff] at h; cases h)
              have HB6 := Lib.hid hb6
              clear hff
              clear h5 h6 hb6 hu6 hg6 b5 hg5
              go_wp2_with fail
              refine (left_any _ _ _ _ HB6.out.1).mono ?_
              rintro e w7 ⟨rfl, rfl⟩
              go_wp2_with fail
              refine (rleft_any _ _ _ _ HB6.out.2).mono ?_
              rintro e w7 ⟨rfl, rfl⟩
              go_wp2_with fail
              refine (done_any _ _ _ _ HB6.out.1).mono ?_
              rintro e w7 ⟨rfl, rfl⟩
              go_wp2_with fail
              refine (rdone_any _ _ _ _ HB6.out.2).mono ?_
              rintro e w7 ⟨rfl, rfl⟩
              go_wp2
              go_roundw
              case rel => exact ⟨k + 1, u6, _, by omega, by go_num, HB6, hf6, hu6s, b6⟩
              case measure => simp [intOf]; omega
          · have HK5 := Lib.hid hk5; clear hk5
            go_wp2_with fail
            refine (kind_is x 2 HK5.out _ _ _ _ HK.out _).mono ?_
            rintro e w4 ⟨rfl, hb4⟩
            have b4 := bb.trans (hb4.mono bb.size)
            have hB4 := Lib.hid (hb.out.kept hb4)
            have HQ4 := hB4.out.2.lt
            clear bb hb hb4 hcell
            have h1 := textR_any q1 u f  w4 hB4.out.1 husz
            cases hx : rdText u.data.toList with
            | none =>
              rw [hx] at h1
              have H1 := Lib.hid h1
              have HX := Lib.hid hx
              clear h1 hx
              go_wp2_with fail
              refine H1.out.mono ?_
              rintro e w5 ⟨rfl, h5, hg5⟩
              have hr5 : RdrAt 56 q2 u f w5 := hB4.out.2.kept hg5 (fun e => hne.out (Option.some.inj e).symm)
              have h2 := rtextR_any q2 u f hf.out w5 hr5 husz
              rw [HX.out] at h2
              have H2 := Lib.hid h2
              have b5 := b4.trans (below_of_grown hg5 b4.size hq1)
              clear h2 hr5 hg5 b4 hB4
              go_wp2_with fail
              refine H2.out.mono ?_
              rintro e w6 ⟨rfl, h6, hg6⟩
              obtain ⟨u6, hu6, hb6⟩ := both_of hne.out h5 h6 hg6
              have b6 := b5.trans (below_of_grown hg6 b5.size hq2)
              have hu6s : u6.size ≤ s.size := le_of_data hu6 (Nat.zero_le _)
              have HU6 := Lib.hid hu6
              have HB6 := Lib.hid hb6
              clear h5 h6 hb6 hu6 hg6 b5
              go_wp2_with fail
              refine (left_any _ _ _ _ HB6.out.1).mono ?_
              rintro e w7 ⟨rfl, rfl⟩
              go_wp2_with fail
              refine (rleft_any _ _ _ _ HB6.out.2).mono ?_
              rintro e w7 ⟨rfl, rfl⟩
              go_wp2_with fail
              refine (done_any _ _ _ _ HB6.out.1).mono ?_
              rintro e w7 ⟨rfl, rfl⟩
              go_wp2_with fail
              refine (rdone_any _ _ _ _ HB6.out.2).mono ?_
              rintro e w7 ⟨rfl, rfl⟩
              go_wp2
              go_roundw
              case rel => exact ⟨k + 1, u6, _, by omega, by go_num, HB6, Lib.hid (fun _ => HU6.out), hu6s, b6⟩
              case measure => simp [intOf]; omega
            | some y =>
              obtain ⟨v, rest⟩ := y
              rw [hx] at h1
              have hrest := text_rest (by rw [size_list]; unfold maxI; omega) hx
              rw [size_list] at hrest
              have hff : f = false := by
                cases f with
                | false => rfl
                | true =>
                  have h0 := size_list u
                  rw [hf.out rfl] at h0
                  simp at h0
                  omega
              have H1 := Lib.hid h1
              have HX := Lib.hid hx
              clear h1 hx
              go_wp2_with fail
              refine H1.out.mono ?_
              rintro e w5 ⟨rfl, h5, hg5⟩
              rw [show vStr v = Value.string (bs v) from rfl]
              have hr5 : RdrAt 56 q2 u f w5 := hB4.out.2.kept hg5 (fun e => hne.out (Option.some.inj e).symm)
              have h2 := rtextR_any q2 u f hf.out w5 hr5 husz
              rw [HX.out] at h2
              have H2 := Lib.hid h2
              have b5 := b4.trans (below_of_grown hg5 b4.size hq1)
              have hq2lt := hr5.lt
              clear h2 hr5 b4 hB4
              go_wp2_with fail
              refine H2.out.mono ?_
              rintro e w6 ⟨rfl, h6, hg6⟩
              rw [show vStr v = Value.string (bs v) from rfl]
              obtain ⟨u6, hu6, hb6⟩ := both_of hne.out h5 h6 hg6
              have b6 := b5.trans (below_of_grown hg6 b5.size hq2)
              have hu6s : u6.size ≤ s.size := le_of_data hu6 (by omega)
              have hf6 : Hid (f = true → u6.data.toList = []) := Lib.hid (fun h => by rw [hff] at h; cases h)
              have HB6 := Lib.hid hb6
              clear hff
              clear h5 h6 hb6 hu6 hg6 b5 hg5
              go_wp2_with fail
              refine (left_any _ _ _ _ HB6.out.1).mono ?_
              rintro e w7 ⟨rfl, rfl⟩
              go_wp2_with fail
              refine (rleft_any _ _ _ _ HB6.out.2).mono ?_
              rintro e w7 ⟨rfl, rfl⟩
              go_wp2_with fail
              refine (done_any _ _ _ _ HB6.out.1).mono ?_
              rintro e w7 ⟨rfl, rfl⟩
              go_wp2_with fail
              refine (rdone_any _ _ _ _ HB6.out.2).mono ?_
              rintro e w7 ⟨rfl, rfl⟩
              go_wp2
              go_roundw
              case rel => exact ⟨k + 1, u6, _, by omega, by go_num, HB6, hf6, hu6s, b6⟩
              case measure => simp [intOf]; omega
          · have HK5 := Lib.hid hk5; clear hk5
            go_wp2_with fail
            refine (kind_is x 3 HK5.out _ _ _ _ HK.out _).mono ?_
            rintro e w4 ⟨rfl, hb4⟩
            have b4 := bb.trans (hb4.mono bb.size)
            have hB4 := Lib.hid (hb.out.kept hb4)
            have HQ4 := hB4.out.2.lt
            clear bb hb hb4 hcell
            have h1 := numsR_any q1 u f hf.out w4 hB4.out.1 husz
            cases hx : rdList rdInt u.data.toList with
            | none =>
              rw [hx] at h1
              have H1 := Lib.hid h1
              have HX := Lib.hid hx
              clear h1 hx
              go_wp2_with fail
              refine H1.out.mono ?_
              rintro e w5 ⟨rfl, h5, hg5⟩
              have hr5 : RdrAt 56 q2 u f w5 := hB4.out.2.kept hg5 (fun e => hne.out (Option.some.inj e).symm)
              have h2 := rnumsR_any q2 u f hf.out w5 hr5 husz
              rw [HX.out] at h2
              have H2 := Lib.hid h2
              have b5 := b4.trans (below_of_grown hg5 b4.size hq1)
              clear h2 hr5 hg5 b4 hB4
              go_wp2_with fail
              refine H2.out.mono ?_
              rintro e w6 ⟨rfl, h6, hg6⟩
              obtain ⟨u6, hu6, hb6⟩ := both_of hne.out h5 h6 hg6
              have b6 := b5.trans (below_of_grown hg6 b5.size hq2)
              have hu6s : u6.size ≤ s.size := le_of_data hu6 (Nat.zero_le _)
              have HU6 := Lib.hid hu6
              have HB6 := Lib.hid hb6
              clear h5 h6 hb6 hu6 hg6 b5
              go_wp2_with fail
              refine (sameNone_ints _).mono ?_
              rintro e w8 ⟨rfl, nd, rfl⟩
              have HB7 := Lib.hid (HB6.out.kept (below_drewN (Below.refl _ _) nd))
              have b7 := below_drewN b6 nd
              clear HB6 b6
              go_wp2_with fail
              refine (left_any _ _ _ _ HB7.out.1).mono ?_
              rintro e w7 ⟨rfl, rfl⟩
              go_wp2_with fail
              refine (rleft_any _ _ _ _ HB7.out.2).mono ?_
              rintro e w7 ⟨rfl, rfl⟩
              go_wp2_with fail
              refine (done_any _ _ _ _ HB7.out.1).mono ?_
              rintro e w7 ⟨rfl, rfl⟩
              go_wp2_with fail
              refine (rdone_any _ _ _ _ HB7.out.2).mono ?_
              rintro e w7 ⟨rfl, rfl⟩
              go_wp2
              go_roundw
              case rel => exact ⟨k + 1, u6, _, by omega, by go_num, HB7, Lib.hid (fun _ => HU6.out), hu6s, b7⟩
              case measure => simp [intOf]; omega
            | some y =>
              obtain ⟨v, rest⟩ := y
              rw [hx] at h1
              have hrest := list_rest (x := v) (rest := rest) reads_int (by rw [size_list]; unfold maxI; omega) (fun x hx => by have := eInt_len x hx; omega) hx
              rw [size_list] at hrest
              have hff : f = false := by
                cases f with
                | false => rfl
                | true =>
                  have h0 := size_list u
                  rw [hf.out rfl] at h0
                  simp at h0
                  omega
              have H1 := Lib.hid h1
              have HX := Lib.hid hx
              clear h1 hx
              go_wp2_with fail
              refine H1.out.mono ?_
              rintro e w5 ⟨A1, d1, rfl, hrow1, h5, hg5⟩
              have hr5 : RdrAt 56 q2 u f w5 := hB4.out.2.kept hg5 (fun e => hne.out (Option.some.inj e).symm)
              have h2 := rnumsR_any q2 u f hf.out w5 hr5 husz
              rw [HX.out] at h2
              have H2 := Lib.hid h2
              have b5 := b4.trans (below_of_grown hg5 b4.size hq1)
              have hq2lt := hr5.lt
              clear h2 hr5 b4 hB4
              go_wp2_with fail
              refine H2.out.mono ?_
              rintro e w6 ⟨A2, d2, rfl, hrow2, h6, hg6⟩
              obtain ⟨u6, hu6, hb6⟩ := both_of hne.out h5 h6 hg6
              have b6 := b5.trans (below_of_grown hg6 b5.size hq2)
              have hu6s : u6.size ≤ s.size := le_of_data hu6 (by omega)
              have hf6 : Hid (f = true → u6.data.toList = []) := Lib.hid (fun h => by rw [hff] at h; cases h)
              have HB6 := Lib.hid hb6
              clear hff
              have hvl : v.length ≤ 9223372036854775807 := by omega
              have hw1 := Lib.hid (hrow1.grown hg6 (by have := HQ4; omega)).row
              have hw2 := Lib.hid hrow2.row
              clear hrow1 hrow2
              go_wp2_with fail
              refine (sameInts_any A1 d1 A2 d2 v _ hw1.out hw2.out hvl).mono ?_
              rintro e w8 ⟨rfl, nd, rfl⟩
              have HB7 := Lib.hid (HB6.out.kept (below_drewN (Below.refl _ _) nd))
              have b7 := below_drewN b6 nd
              clear HB6 b6
              clear h5 h6 hb6 hu6 hg6 b5 hg5
              go_wp2_with fail
              refine (left_any _ _ _ _ HB7.out.1).mono ?_
              rintro e w7 ⟨rfl, rfl⟩
              go_wp2_with fail
              refine (rleft_any _ _ _ _ HB7.out.2).mono ?_
              rintro e w7 ⟨rfl, rfl⟩
              go_wp2_with fail
              refine (done_any _ _ _ _ HB7.out.1).mono ?_
              rintro e w7 ⟨rfl, rfl⟩
              go_wp2_with fail
              refine (rdone_any _ _ _ _ HB7.out.2).mono ?_
              rintro e w7 ⟨rfl, rfl⟩
              go_wp2
              go_roundw
              case rel => exact ⟨k + 1, u6, _, by omega, by go_num, HB7, hf6, hu6s, b7⟩
              case measure => simp [intOf]; omega
          · have HK5 := Lib.hid hk5; clear hk5
            go_wp2_with fail
            refine (kind_is x 4 HK5.out _ _ _ _ HK.out _).mono ?_
            rintro e w4 ⟨rfl, hb4⟩
            have b4 := bb.trans (hb4.mono bb.size)
            have hB4 := Lib.hid (hb.out.kept hb4)
            have HQ4 := hB4.out.2.lt
            clear bb hb hb4 hcell
            have h1 := textsR_any q1 u f hf.out w4 hB4.out.1 husz
            cases hx : rdList rdText u.data.toList with
            | none =>
              rw [hx] at h1
              have H1 := Lib.hid h1
              have HX := Lib.hid hx
              clear h1 hx
              go_wp2_with fail
              refine H1.out.mono ?_
              rintro e w5 ⟨rfl, h5, hg5⟩
              have hr5 : RdrAt 56 q2 u f w5 := hB4.out.2.kept hg5 (fun e => hne.out (Option.some.inj e).symm)
              have h2 := rtextsR_any q2 u f hf.out w5 hr5 husz
              rw [HX.out] at h2
              have H2 := Lib.hid h2
              have b5 := b4.trans (below_of_grown hg5 b4.size hq1)
              clear h2 hr5 hg5 b4 hB4
              go_wp2_with fail
              refine H2.out.mono ?_
              rintro e w6 ⟨rfl, h6, hg6⟩
              obtain ⟨u6, hu6, hb6⟩ := both_of hne.out h5 h6 hg6
              have b6 := b5.trans (below_of_grown hg6 b5.size hq2)
              have hu6s : u6.size ≤ s.size := le_of_data hu6 (Nat.zero_le _)
              have HU6 := Lib.hid hu6
              have HB6 := Lib.hid hb6
              clear h5 h6 hb6 hu6 hg6 b5
              go_wp2_with fail
              refine (sameNone_strs _).mono ?_
              rintro e w8 ⟨rfl, nd, rfl⟩
              have HB7 := Lib.hid (HB6.out.kept (below_drewN (Below.refl _ _) nd))
              have b7 := below_drewN b6 nd
              clear HB6 b6
              go_wp2_with fail
              refine (left_any _ _ _ _ HB7.out.1).mono ?_
              rintro e w7 ⟨rfl, rfl⟩
              go_wp2_with fail
              refine (rleft_any _ _ _ _ HB7.out.2).mono ?_
              rintro e w7 ⟨rfl, rfl⟩
              go_wp2_with fail
              refine (done_any _ _ _ _ HB7.out.1).mono ?_
              rintro e w7 ⟨rfl, rfl⟩
              go_wp2_with fail
              refine (rdone_any _ _ _ _ HB7.out.2).mono ?_
              rintro e w7 ⟨rfl, rfl⟩
              go_wp2
              go_roundw
              case rel => exact ⟨k + 1, u6, _, by omega, by go_num, HB7, Lib.hid (fun _ => HU6.out), hu6s, b7⟩
              case measure => simp [intOf]; omega
            | some y =>
              obtain ⟨v, rest⟩ := y
              rw [hx] at h1
              have hrest := list_rest (x := v) (rest := rest) reads_text (by rw [size_list]; unfold maxI; omega) (fun x _ => by unfold eText; simp only [List.length_append, List.length_cons]; omega) hx
              rw [size_list] at hrest
              have hff : f = false := by
                cases f with
                | false => rfl
                | true =>
                  have h0 := size_list u
                  rw [hf.out rfl] at h0
                  simp at h0
                  omega
              have H1 := Lib.hid h1
              have HX := Lib.hid hx
              clear h1 hx
              go_wp2_with fail
              refine H1.out.mono ?_
              rintro e w5 ⟨A1, d1, rfl, hrow1, h5, hg5⟩
              have hr5 : RdrAt 56 q2 u f w5 := hB4.out.2.kept hg5 (fun e => hne.out (Option.some.inj e).symm)
              have h2 := rtextsR_any q2 u f hf.out w5 hr5 husz
              rw [HX.out] at h2
              have H2 := Lib.hid h2
              have b5 := b4.trans (below_of_grown hg5 b4.size hq1)
              have hq2lt := hr5.lt
              clear h2 hr5 b4 hB4
              go_wp2_with fail
              refine H2.out.mono ?_
              rintro e w6 ⟨A2, d2, rfl, hrow2, h6, hg6⟩
              obtain ⟨u6, hu6, hb6⟩ := both_of hne.out h5 h6 hg6
              have b6 := b5.trans (below_of_grown hg6 b5.size hq2)
              have hu6s : u6.size ≤ s.size := le_of_data hu6 (by omega)
              have hf6 : Hid (f = true → u6.data.toList = []) := Lib.hid (fun h => by rw [hff] at h; cases h)
              have HB6 := Lib.hid hb6
              clear hff
              have hvl : v.length ≤ 9223372036854775807 := by omega
              have hw1 := Lib.hid (hrow1.grown hg6 (by have := HQ4; omega)).row
              have hw2 := Lib.hid hrow2.row
              clear hrow1 hrow2
              go_wp2_with fail
              refine (sameLists A1 d1 A2 d2 v _ hw1.out hw2.out hvl).mono ?_
              rintro e w8 ⟨rfl, nd, rfl⟩
              have HB7 := Lib.hid (HB6.out.kept (below_drewN (Below.refl _ _) nd))
              have b7 := below_drewN b6 nd
              clear HB6 b6
              clear h5 h6 hb6 hu6 hg6 b5 hg5
              go_wp2_with fail
              refine (left_any _ _ _ _ HB7.out.1).mono ?_
              rintro e w7 ⟨rfl, rfl⟩
              go_wp2_with fail
              refine (rleft_any _ _ _ _ HB7.out.2).mono ?_
              rintro e w7 ⟨rfl, rfl⟩
              go_wp2_with fail
              refine (done_any _ _ _ _ HB7.out.1).mono ?_
              rintro e w7 ⟨rfl, rfl⟩
              go_wp2_with fail
              refine (rdone_any _ _ _ _ HB7.out.2).mono ?_
              rintro e w7 ⟨rfl, rfl⟩
              go_wp2
              go_roundw
              case rel => exact ⟨k + 1, u6, _, by omega, by go_num, HB7, hf6, hu6s, b7⟩
              case measure => simp [intOf]; omega
        · obtain rfl : k = l.length := by omega
          have hdd : ∀ b : Bool, (b == b) = true := fun b => beq_self_eq_true b
          go_wp2_with fail
          refine (rest_any _ _ _ _ hb.out.1).mono ?_
          rintro e w5 ⟨rfl, h5, hg5⟩
          go_wp2_with fail
          have hr5 : RdrAt 56 q2 u f w5 := hb.out.2.kept hg5 (fun e => hne.out (Option.some.inj e).symm)
          refine (rtail_any _ _ _ _ hr5).mono ?_
          rintro e w6 ⟨rfl, h6, hg6⟩
          obtain ⟨u6, hu6, hb6⟩ := both_of hne.out h5 h6 hg6
          have b6 := (bb.trans (below_of_grown hg5 bb.size hq1)).trans (below_of_grown hg6 (Nat.le_trans bb.size hg5.size) hq2)
          have HB6 := Lib.hid hb6
          clear h5 h6 hr5 hb6 hu6 hg5 hg6
          go_wp2_with fail
          refine (left_any _ _ _ _ HB6.out.1).mono ?_
          rintro e w7 ⟨rfl, rfl⟩
          go_wp2_with fail
          refine (rleft_any _ _ _ _ HB6.out.2).mono ?_
          rintro e w7 ⟨rfl, rfl⟩
          go_wp2_with fail
          refine (done_any _ _ _ _ HB6.out.1).mono ?_
          rintro e w7 ⟨rfl, rfl⟩
          go_wp2_with fail
          refine (rdone_any _ _ _ _ HB6.out.2).mono ?_
          rintro e w7 ⟨rfl, rfl⟩
          go_wp2
          go_ret
          exact ⟨rfl, b6⟩

end Go.Proofs.YtdpedeknccnbhaaDoor
