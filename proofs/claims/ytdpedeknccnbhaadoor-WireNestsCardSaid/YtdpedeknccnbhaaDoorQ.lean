/-
  The walk of WireNests.
-/
import Derived.Test.YtdpedeknccnbhaaDoorP
set_option linter.unusedVariables false
namespace Go.Proofs.YtdpedeknccnbhaaDoor
open Go.RowKit Go.Sort

theorem Row.keptNe {w w' : World} {r bx ox : Nat} {xs : List Value} (h : Row w (some ⟨bx, ox, none⟩) xs) (hg : w.grownBy w' (some r)) (hne : bx ≠ r) : Row w' (some ⟨bx, ox, none⟩) xs := fun hn => by
  obtain ⟨b', o', e', hlt', hc'⟩ := h hn
  have e2 := Option.some.inj e'
  have e3 : bx = b' ∧ ox = o' := by injection e2 with a b _; exact ⟨a, b⟩
  obtain ⟨rfl, rfl⟩ := e3
  exact ⟨bx, ox, rfl, Nat.lt_of_lt_of_le hlt' hg.size, fun j u hu => (World.cell?_of_block (a := ⟨bx, ox + j, none⟩) (hg.block bx hlt' (fun e => hne (Option.some.inj e)))).trans (hc' j u hu)⟩

/-- reading back a list of strings. -/
theorem textsBack_any (r : Nat) (s : ByteArray) (xs : List ByteArray) (n : Nat) (hn : xs.length = n) (hs : s.data.toList = eList eStr xs) (hsz : s.size ≤ 1099511627776) (w : World) (hr : RdrAt 54 r s false w) :
    Calls Tryd.prog 34 #[.pointer (some ⟨r, 0, none⟩)] w fun e w' => ∃ A cap, e = .returned (.slice A n cap) ∧ NRow w w' A (xs.map Value.string) ∧ RdrAt 54 r ⟨#[]⟩ false w' ∧ w.grownBy w' (some r) := by
  have hl : s.data.toList.length ≤ maxI := by rw [size_list]; unfold maxI; omega
  have hx : rdList rdText s.data.toList = some (xs.map (fun x => x.data.toList), []) := by
    rw [rdList_iff reads_text _ hl, hs, eStr_list]
    refine ⟨by simp, ?_, fun _ _ => trivial⟩
    have h1 : xs.length ≤ s.data.toList.length := by
      rw [hs]; unfold eList
      have h3 : ∀ (l : List ByteArray), l.length ≤ (l.flatMap eStr).length := by
        intro l
        induction l with
        | nil => simp
        | cons a t ih =>
          have h4 : 1 ≤ (eStr a).length := by unfold eStr eText; simp only [List.length_append, List.length_cons]; omega
          simp only [List.flatMap_cons, List.length_append, List.length_cons]
          omega
      have := h3 xs
      simp only [List.length_append, List.length_cons]
      omega
    rw [List.length_map]; omega
  have h := textsR_any r s false (fun h => nomatch h) w hr hsz
  rw [hx] at h
  refine h.mono ?_
  rintro e w' ⟨A, cap, he, hrow, ⟨s', hs', hr'⟩, hg⟩
  obtain rfl := empty_of hs'
  refine ⟨A, cap, ?_, ?_, hr', hg⟩
  · rw [he, List.length_map, hn]
  · rw [← vStr_map]; exact hrow

theorem textBack_any (r : Nat) (u s : ByteArray) (hu : u.data.toList = eText s.data.toList) (hsz : u.size ≤ 1099511627776) (w : World) (hr : RdrAt 54 r u false w) :
    Calls Tryd.prog 28 #[.pointer (some ⟨r, 0, none⟩)] w fun e w' => e = .returned (.string s) ∧ RdrAt 54 r ⟨#[]⟩ false w' ∧ w.grownBy w' (some r) := by
  have hl : u.data.toList.length ≤ maxI := by rw [size_list]; unfold maxI; omega
  have hx : rdText u.data.toList = some (s.data.toList, []) := by rw [rdText_iff _ hl, hu]; simp
  have h := textR_any r u false w hr hsz
  rw [hx] at h
  refine h.mono ?_
  rintro e w' ⟨he, ⟨s', hs', hr'⟩, hg⟩
  obtain rfl := empty_of hs'
  exact ⟨he, hr', hg⟩

set_option maxRecDepth 100000 in
set_option maxHeartbeats 8000000 in
theorem nests_walk (A : Option Addr) (cap : Nat) (l : List Val) (w : World) (hl : l.length ≤ 9223372036854775807) (hok : ∀ v ∈ l, VOk v) (hA : Vals w A l) (ht : Tab w) :
    Calls Tryd.prog 8 #[.slice A l.length cap] w fun e w' => e = .returned (.bool true) ∧ Below w.heap.size w w' := by
  obtain ⟨i0, hi0, hz0, hz1, hz2⟩ := info_parts infoStr
  have HO := Lib.hid hok; clear hok
  have HA := Lib.hid hA; clear hA
  go_enter Tryd.func8, Tryd.ntmps8
  go_wp2_with fail
  refine (small_any _ ht).mono ?_
  rintro e w2 ⟨rfl, b2⟩
  have HV2 : Hid (Vals w2 A l) := Lib.hid (fun hn => by
    obtain ⟨b, off, e, hlt, hc⟩ := HA.out hn
    exact ⟨b, off, e, Nat.lt_of_lt_of_le hlt b2.size, fun j hj => (hc j hj).on b2 hlt⟩)
  go_wp2_with fail
  refine (few_any A cap l w2 hl HO.out HV2.out).mono ?_
  rintro e w3 ⟨b, rfl, hfew, n, rfl⟩
  have b3 := below_drewN b2 n
  clear HV2 b2
  cases b with
  | false =>
    go_wp2
    go_ret
    exact ⟨rfl, b3⟩
  | true =>
    have hf := hfew rfl
    have h20 := hf.1
    have HS := Lib.hid (few_small hf HO.out)
    clear hfew hf
    generalize World.drewN _ n = w3 at *
    go_wp2
    go_loopw [4, 5] (fun v i wr => ∃ (k : Nat) (xs : List ByteArray), k ≤ l.length ∧ i = .int .i64 k ∧ wr.ownsRow w.heap.size 9 1 v k (xs.map Value.string) ∧ Hid (xs.map (fun x => x.data.toList) = (l.take k).map enc) ∧ Below w.heap.size w wr) (fun _ i _ => l.length - (intOf i).toNat)
    case atStart => exact ⟨0, [], Nat.zero_le _, rfl, World.ownsRow_nil _ _ _ _, Lib.hid (by simp), b3⟩
    case round =>
      obtain ⟨k, xs, hk, rfl, hown, hxs, bb⟩ := hrel
      clear b3
      by_cases hlt : k < l.length
      · obtain ⟨b, off, rfl, hbk, hv⟩ := HA.out (by omega)
        have hvk := (hv k hlt).on bb hbk
        have hsm := HS.out l[k] (List.getElem_mem hlt)
        have hov := HO.out l[k] (List.getElem_mem hlt)
        have hsn : (l.take (k + 1)).map enc = (l.take k).map enc ++ [enc l[k]] := by rw [List.take_succ_eq_append_getElem hlt, List.map_append]; rfl
        clear hv
        generalize l[k] = v at *
        obtain ⟨v0, v1, v2, ⟨AL, cL, v3, hL⟩, ⟨AT, cT, v4, hT⟩⟩ := hvk
        have HW := Lib.hid (write_any v AL cL AT cT wr hov hsm hL hT (ht.on bb))
        have HSN := Lib.hid hsn
        clear hsn hL hT hsm hov
        have hi0' : (0 : Int) ≤ (k : Int) := by omega
        have hi1 : (k : Int) < (l.length : Int) := by omega
        go_wp2_with fail
        refine HW.out.mono ?_
        rintro e w5 ⟨s5, rfl, hs5, hb5⟩
        have H5 := Lib.hid hs5; clear hs5
        have b5 := bb.trans (hb5.mono bb.size)
        have hown5 : w5.ownsRow w.heap.size 9 1 _ k (xs.map Value.string) := hown.kept (row := none) (grown_of_below hb5 none) (by cases Value.ownBlock _ <;> simp)
        clear hown hb5 v0 v1 v2 v3 v4
        go_wp2_with (at_builtin; refine wpList_append_own _ rfl _ _ 23 rfl w.heap.size 9 i0 (.string ⟨#[]⟩) 1 16 Tryd.underlying23 hi0 hz0 hz1 hz2 rfl (by decide) _ _ _ rfl (hown5.alloc _) ⟨w5.heap.size, 0, none⟩ 1 1 [Value.string s5] rfl rfl ?c1 ?c2 ?c3 ?c4 ?c5 ?_)
        case c1 => exact cell_one_new _ _ _
        case c2 => intro u hu; simp at hu; subst hu; rfl
        case c3 => unfold maxLen; omega
        case c4 => omega
        case c5 => have := b5.size; simp; omega
        intro v' w6 hown' hgrow _
        have b6 : Below w.heap.size w w6 := (b5.alloc b5.size (.cells #[Value.string s5] 9)).grown hgrow (by have := b5.size; simp; omega) (fun k hk => ((hown5.alloc (.cells #[Value.string s5] 9)).lt k hk).1)
        have hown6 : w6.ownsRow w.heap.size 9 1 v' (k + 1) ((xs ++ [s5]).map Value.string) := by simpa using hown'
        clear hown' hgrow hown5
        go_wp2
        go_roundw
        case rel => exact ⟨k + 1, xs ++ [s5], by omega, by go_num, hown6, Lib.hid (by rw [HSN.out, ← hxs.out, ← H5.out]; simp), b6⟩
        case measure => simp [intOf]; omega
      · obtain rfl : k = l.length := by omega
        obtain ⟨A1, cap1, rfl, hln, hrow⟩ := NRow.of_own hown
        rw [List.length_map] at hln
        have hxe : Hid (xs.map (fun x => x.data.toList) = l.map enc) := Lib.hid (by have := hxs.out; rwa [List.take_length] at this)
        have hxsz : ∀ x ∈ xs, x.size ≤ 200000 := fun x hx => by
          have h1 : x.data.toList ∈ xs.map (fun x => x.data.toList) := List.mem_map.2 ⟨x, hx, rfl⟩
          rw [hxe.out] at h1
          obtain ⟨v, hv, e⟩ := List.mem_map.1 h1
          have := enc_len (HS.out v hv) (HO.out v hv)
          rw [e, size_list] at this
          exact this
        have htot := fl_len eStr 200021 xs (fun x hx => by
          have h1 := (eText_len x.data.toList (by rw [size_list]; have := hxsz x hx; omega)).2
          have h2 := hxsz x hx
          rw [size_list] at h1
          show (eText x.data.toList).length ≤ _
          omega)
        have HTx := texts_any A1 cap1 xs wr hrow.row (fun x hx => by have := hxsz x hx; omega) (by omega) (by omega) (ht.on bb)
        have hel : (eList eStr xs).length ≤ 5000000 := by
          have h2 := dec_len xs.length (by omega)
          unfold eList
          simp only [List.length_append, List.length_cons, List.length_nil]
          omega
        rw [hln] at HTx
        have HX := Lib.hid HTx
        have HXS := Lib.hid hxsz
        have HLN := Lib.hid hln
        clear HTx hrow hown hxs hxsz htot hln
        go_wp2_with fail
        refine HX.out.mono ?_
        rintro e w5 ⟨s, rfl, hs, hb5⟩
        have b5 := bb.trans (hb5.mono bb.size)
        have hsz := size_of hs
        have hsz1 : s.size ≤ 5000000 := by omega
        have HSS := Lib.hid hs
        clear hs hsz HX bb hb5 hel
        go_wp2_with fail
        refine (text_any s (by omega) _ (ht.on b5)).mono ?_
        rintro e w6 ⟨u, rfl, hu, hb6⟩
        have b6 := b5.trans (hb6.mono b5.size)
        have husz : u.size ≤ 5000021 := by
          have h1 := size_of hu
          have h2 := (eText_len s.data.toList (by rw [size_list]; omega)).2
          rw [size_list] at h2
          omega
        have HU := Lib.hid hu
        clear hu hb6 b5
        go_wp2_with fail
        refine (open_any u _).mono ?_
        rintro e w7 ⟨rfl, hw7⟩
        have hr7 : RdrAt 54 w6.heap.size u false w7 := by rw [hw7]; exact heap_alloc_new w6 _
        have b7 : Below w.heap.size w w7 := by rw [hw7]; exact b6.alloc b6.size _
        have hq1 := b6.size
        generalize w6.heap.size = q1 at *
        have HR7 := Lib.hid hr7
        clear hw7 hr7 b6
        go_wp2_with fail
        refine (textBack_any q1 u s HU.out (by omega) w7 HR7.out).mono ?_
        rintro e w8 ⟨rfl, hr8, hg8⟩
        have b8 := b7.trans (below_of_grown hg8 b7.size hq1)
        have hq1b := hr8.lt
        have HR8 := Lib.hid hr8
        clear hg8 hr8 b7 HR7
        go_wp2_with fail
        refine (open_any s _).mono ?_
        rintro e w9 ⟨rfl, hw9⟩
        have hr9 : RdrAt 54 w8.heap.size s false w9 := by rw [hw9]; exact heap_alloc_new w8 _
        have b89 : Below w8.heap.size w8 w9 := by rw [hw9]; exact (Below.refl _ _).alloc (Nat.le_refl _) _
        have b9 := b8.trans (b89.mono b8.size)
        have HR8' := Lib.hid (HR8.out.below b89 hq1b)
        have hq2 := b8.size
        generalize w8.heap.size = q2 at *
        have HR9 := Lib.hid hr9
        clear hw9 hr9 b8 b89 HR8
        go_wp2_with fail
        refine (done_false _ _ _ empty_toList _ HR8'.out).mono ?_
        rintro e w10 ⟨rfl, rfl⟩
        go_wp2_with fail
        refine (textsBack_any q2 s xs l.length HLN.out HSS.out (by omega) _ HR9.out).mono ?_
        rintro e w11 ⟨A2, cap2, rfl, hrow2, hr11, hg11⟩
        have b11 := b9.trans (below_of_grown hg11 b9.size hq2)
        have HR11 := Lib.hid hr11
        have HRow : Hid (Row w11 A2 (xs.map Value.string)) := Lib.hid hrow2.row
        clear hrow2 hr11 hg11 b9 HR9 HR8'
        have hll : ((l.length : Int) != (l.length : Int)) = false := by simp
        go_wp2_with fail
        refine (done_false _ _ _ empty_toList _ HR11.out).mono ?_
        rintro e w12 ⟨rfl, rfl⟩
        clear HR11
        go_wp2
        go_loopw [9] (fun i wr => ∃ (k : Nat), k ≤ l.length ∧ i = .int .i64 k ∧ Hid (Row wr A2 (xs.map Value.string)) ∧ Below w.heap.size w wr) (fun i _ => l.length - (intOf i).toNat)
        case atStart => exact ⟨0, Nat.zero_le _, rfl, HRow, b11⟩
        case round =>
          obtain ⟨k, hk, rfl, hrw, bb⟩ := hrel
          clear b11 HRow
          by_cases hlt : k < l.length
          · have hkx : k < xs.length := by rw [HLN.out]; exact hlt
            obtain ⟨bx, ox, rfl, hbx, hcx⟩ := hrw.out (by simp; omega)
            have hcell : wr.cell? ⟨bx, ox + k, none⟩ = some (.string xs[k]) := hcx k _ (by simp [hkx])
            have hxk : xs[k].data.toList = enc l[k] ++ [] := by
              have h1 : (xs.map (fun x => x.data.toList))[k]'(by simp; exact hkx) = (l.map enc)[k]'(by simp; exact hlt) := by simp only [hxe.out]
              simpa using h1
            have hxz := HXS.out xs[k] (List.getElem_mem hkx)
            obtain ⟨b, off, rfl, hbk, hv⟩ := HA.out (by omega)
            have hvk := hv k hlt
            have hov := HO.out l[k] (List.getElem_mem hlt)
            clear hv hcx
            generalize l[k] = v at *
            generalize xs[k] = x at *
            obtain ⟨z0, z1, z2, ⟨AL, cL, z3, hL⟩, ⟨AT, cT, z4, hT⟩⟩ := hvk
            have HXK := Lib.hid hxk
            have HL := Lib.hid hL
            have HT := Lib.hid hT
            clear hxk hL hT
            have hi0' : (0 : Int) ≤ (k : Int) := by omega
            have hi1 : (k : Int) < (l.length : Int) := by omega
            go_wp2_with fail
            refine (open_any x _).mono ?_
            rintro e w13 ⟨rfl, hw13⟩
            have hr13 : RdrAt 54 wr.heap.size x false w13 := by rw [hw13]; exact heap_alloc_new wr _
            have bw13 : Below wr.heap.size wr w13 := by rw [hw13]; exact (Below.refl _ _).alloc (Nat.le_refl _) _
            have b13 := bb.trans (bw13.mono bb.size)
            have hrw13 := Lib.hid (hrw.out.below bw13)
            have hq3 := bb.size
            have y0 := (b13.cell (p := ⟨b, off + k * 5, none⟩) hbk).trans z0
            have y1 := (b13.cell (p := ⟨b, off + k * 5 + 1, none⟩) hbk).trans z1
            have y2 := (b13.cell (p := ⟨b, off + k * 5 + 2, none⟩) hbk).trans z2
            have y3 := (b13.cell (p := ⟨b, off + k * 5 + 3, none⟩) hbk).trans z3
            have y4 := (b13.cell (p := ⟨b, off + k * 5 + 4, none⟩) hbk).trans z4
            have HE := Lib.hid (equal_any wr.heap.size x [] v AL cL AT cT w w13 HXK.out (by omega) hr13 b13 hq3 hov HL.out HT.out)
            have hlt13 := hr13.lt
            clear hw13 hr13 bb z0 z1 z2 z3 z4 hcell hrw
            generalize wr.heap.size = q3 at *
            go_wp2_with fail
            refine HE.out.mono ?_
            rintro e w14 ⟨rfl, ⟨s14, hs14, hr14⟩, hg14⟩
            obtain rfl := empty_of hs14
            have b14 := b13.trans (below_of_grown hg14 b13.size hq3)
            have hrw14 := Lib.hid (hrw13.out.keptNe hg14 (by have : bx < q3 := hbx; omega))
            have HR14 := Lib.hid hr14
            clear hr14 hs14 HE hrw13 y0 y1 y2 y3 y4
            go_wp2_with fail
            refine (done_false _ _ _ empty_toList _ HR14.out).mono ?_
            rintro e w15 ⟨rfl, rfl⟩
            go_wp2
            go_roundw
            case rel => exact ⟨k + 1, by omega, by go_num, hrw14, b14⟩
            case measure => simp [intOf]; omega
          · obtain rfl : k = l.length := by omega
            go_wp2
            go_ret
            exact ⟨rfl, bb⟩

end Go.Proofs.YtdpedeknccnbhaaDoor
