/-
  Contracts of the reference's reader (4): the lists.
-/
import Derived.Test.YtdpedeknccnbhaaDoorV
set_option linter.unusedVariables false
namespace Go.Proofs.YtdpedeknccnbhaaDoor
open Go.RowKit Go.Sort

set_option maxRecDepth 100000 in
set_option maxHeartbeats 4000000 in
theorem rnumsR_any (r : Nat) (s : ByteArray) (f : Bool) (hf : f = true → s.data.toList = []) (w : World) (hr : RdrAt 56 r s f w) (hsz : s.size ≤ 1099511627776) :
    Calls Tryd.prog 32 #[.pointer (some ⟨r, 0, none⟩)] w (LPost 56 r f (Value.int .i64) (rdList rdInt s.data.toList) w) := by
  obtain ⟨i0, hi0, hz0, hz1, hz2⟩ := info_parts infoInt
  have hA := number_at r s f 91 91 rfl (by decide) (by decide) w hr hsz
  have hrlt := hr.lt
  cases hx : rdM maxI 91 s.data.toList with
  | none =>
    rw [rdNE_of_none hx] at hA
    have HN := Lib.hid (list_head (one := rdInt) hx)
    have HA0 := Lib.hid hA
    clear hx hA hr hf
    go_enter Tryd.func32, Tryd.ntmps32
    go_wp2_with fail
    refine HA0.out.mono ?_
    rintro e w2 ⟨rfl, ⟨s2, hs2, hr2⟩, hg⟩
    obtain rfl := empty_of hs2
    have c2 := hr2.cell1
    have HR := Lib.hid hr2; clear hr2 hs2
    go_wp2
    go_loop [5] (fun i => i = .int .i64 0) (fun _ => 0)
    case atStart => rfl
    case round =>
      obtain rfl := hrel
      go_wp2
      go_ret
      rw [HN.out]
      exact ⟨rfl, ⟨_, rfl, HR.out⟩, hg⟩
  | some y =>
    obtain ⟨n, t⟩ := y
    obtain rfl := f_false hf (by decide) hx
    rw [rdNE_of hx] at hA
    have hle := maxI_le (rdM_le hx)
    have htl := rd_rest_len (by decide) hx
    rw [size_list] at htl
    have HX := Lib.hid hx
    have HA0 := Lib.hid hA
    clear hx hA hr hf
    go_enter Tryd.func32, Tryd.ntmps32
    go_wp2_with fail
    refine HA0.out.mono ?_
    rintro e w2 ⟨rfl, ⟨s2, hs2, hr2⟩, hg⟩
    have HR := Lib.hid hr2
    have H2 := Lib.hid hs2
    have hz9 := size_of hs2
    have hsz2 : s2.size ≤ t.length := by omega
    clear hr2 hs2 hz9
    go_wp2
    go_loopw [4, 5] (fun v i wr => ∃ (k : Nat) (bad : Bool) (xs : List Int) (u : ByteArray), k ≤ n ∧ i = .int .i64 k ∧ (bad = false → u.size + 2 * k ≤ t.length) ∧ u.size ≤ t.length ∧ Hid (RdrAt 56 r u bad wr) ∧ (bad = false → wr.ownsRow w.heap.size 3 1 v k (xs.map (Value.int .i64))) ∧
      Hid (if bad then rdMany rdInt n t = none ∧ u = ⟨#[]⟩ else rdMany rdInt n t = pre xs (rdMany rdInt (n - k) u.data.toList)) ∧ w.grownBy wr (some r)) (fun _ i _ => n - (intOf i).toNat)
    case atStart => exact ⟨0, false, [], s2, Nat.zero_le _, rfl, fun _ => by omega, by omega, HR, fun _ => World.ownsRow_nil _ _ _ _, Lib.hid (by rw [H2.out]; exact many_start rdInt n t), hg⟩
    case round =>
      obtain ⟨k, bad, xs, u, hk, rfl, hus, hut, hru, hown, hm, bg⟩ := hrel
      clear hg HR
      cases bad with
      | true =>
        have hmm := hm.out
        simp only [if_true] at hmm
        obtain ⟨hmn, rfl⟩ := hmm
        have HN := Lib.hid (list_many HX.out hmn)
        have c1 := hru.out.cell1
        clear hmn hown hus hm
        by_cases hlt : k < n
        · have hlt' : (k : Int) < (n : Int) := by omega
          go_wp2
          go_ret
          rw [HN.out]
          exact ⟨rfl, ⟨_, rfl, hru.out⟩, bg⟩
        · have hlt' : ¬ ((k : Int) < (n : Int)) := by omega
          go_wp2
          go_ret
          rw [HN.out]
          exact ⟨rfl, ⟨_, rfl, hru.out⟩, bg⟩
      | false =>
        have hm2 := hm.out
        simp only [if_false, Bool.false_eq_true] at hm2
        have hown2 := hown rfl
        have hus2 := hus rfl
        have hsu : u.size ≤ 1099511627776 := by omega
        have c1 := hru.out.cell1
        have HM2 := Lib.hid hm2
        clear hown hus hm hm2
        by_cases hlt : k < n
        · have hlt' : (k : Int) < (n : Int) := by omega
          have hone := rintR_any r u false _ hru.out hsu
          cases ho : rdInt u.data.toList with
          | none =>
            rw [ho] at hone
            have HO := Lib.hid hone
            have HMN := Lib.hid (many_none HM2.out hlt ho)
            clear hone ho
            go_wp2_with fail
            refine HO.out.mono ?_
            rintro e w5 ⟨rfl, ⟨s5, hs5, hr5⟩, hg5⟩
            obtain rfl := empty_of hs5
            have hown5 := own_kept hown2 hg5 hrlt
            have bg5 := grown_trans bg hg5
            have HR5 := Lib.hid hr5
            clear hr5 hs5 hown2 hg5
            go_wp2_with (at_builtin; refine wpList_append_own _ rfl _ _ 22 rfl w.heap.size 3 i0 (.int .i64 0) 1 8 Tryd.underlying22 hi0 hz0 hz1 hz2 rfl (by decide) _ _ _ rfl (hown5.alloc _) ⟨w5.heap.size, 0, none⟩ 1 1 [Value.int .i64 0] rfl rfl ?c1 ?c2 ?c3 ?c4 ?c5 ?_)
            case c1 => exact cell_one_new _ _ _
            case c2 => intro u hu; simp at hu; subst hu; rfl
            case c3 => unfold maxLen; omega
            case c4 => omega
            case c5 => have := bg5.size; simp; omega
            intro v' w6 hown' hgrow _
            have bg6 := grown_own (grown_trans bg5 (grown_alloc w5 (.cells #[Value.int .i64 0] 3) (some r))) (hown5.alloc _) (Nat.le_refl _) hgrow
            have HR6 := Lib.hid ((HR5.out.kept (grown_alloc w5 (.cells #[Value.int .i64 0] 3) none) (by simp)).kept hgrow (fun e => by have := ((hown5.alloc (.cells #[Value.int .i64 0] 3)).lt r e.symm).1; omega))
            clear hown' hgrow HR5
            go_wp2
            go_roundw
            case rel => exact ⟨k + 1, true, [], ⟨#[]⟩, by omega, by go_num, (fun h => nomatch h), Nat.zero_le _, HR6, (fun h => nomatch h), Lib.hid ⟨HMN.out, rfl⟩, bg6⟩
            case measure => simp [intOf]; omega
          | some y =>
            obtain ⟨x, l1⟩ := y
            rw [ho] at hone
            have HO := Lib.hid hone
            have HM := Lib.hid (many_some HM2.out hlt ho)
            have hrest := int_rest ho
            rw [size_list] at hrest
            clear hone ho
            go_wp2_with fail
            refine HO.out.mono ?_
            rintro e w5 ⟨rfl, ⟨s5, hs5, hr5⟩, hg5⟩
            have hz5 := size_of hs5
            have hz6 : s5.size + 2 * (k + 1) ≤ t.length := by omega
            have hown5 := own_kept hown2 hg5 hrlt
            have bg5 := grown_trans bg hg5
            have HR5 := Lib.hid hr5
            have H5 := Lib.hid hs5
            clear hr5 hs5 hz5 hown2 hg5
            go_wp2_with (at_builtin; refine wpList_append_own _ rfl _ _ 22 rfl w.heap.size 3 i0 (.int .i64 0) 1 8 Tryd.underlying22 hi0 hz0 hz1 hz2 rfl (by decide) _ _ _ rfl (hown5.alloc _) ⟨w5.heap.size, 0, none⟩ 1 1 [Value.int .i64 x] rfl rfl ?c1 ?c2 ?c3 ?c4 ?c5 ?_)
            case c1 => exact cell_one_new _ _ _
            case c2 => intro u hu; simp at hu; subst hu; rfl
            case c3 => unfold maxLen; omega
            case c4 => omega
            case c5 => have := bg5.size; simp; omega
            intro v' w6 hown' hgrow _
            have bg6 := grown_own (grown_trans bg5 (grown_alloc w5 (.cells #[Value.int .i64 x] 3) (some r))) (hown5.alloc _) (Nat.le_refl _) hgrow
            have HR6 := Lib.hid ((HR5.out.kept (grown_alloc w5 (.cells #[Value.int .i64 x] 3) none) (by simp)).kept hgrow (fun e => by have := ((hown5.alloc (.cells #[Value.int .i64 x] 3)).lt r e.symm).1; omega))
            have hown6 : w6.ownsRow w.heap.size 3 1 v' (k + 1) ((xs ++ [x]).map (Value.int .i64)) := by simpa using hown'
            clear hown' hgrow HR5
            go_wp2
            go_roundw
            case rel => exact ⟨k + 1, false, xs ++ [x], s5, by omega, by go_num, fun _ => hz6, by omega, HR6, fun _ => hown6, Lib.hid (by rw [H5.out]; exact HM.out), bg6⟩
            case measure => simp [intOf]; omega
        · obtain rfl : k = n := by omega
          have hnn : ¬ ((k : Int) < (k : Int)) := by omega
          have HM := Lib.hid (many_end HM2.out)
          obtain ⟨A, cap, rfl, hln, hrow⟩ := NRow.of_own hown2
          have HL := Lib.hid hln; clear hln
          have HRW := Lib.hid hrow; clear hrow hown2
          have hcl := rclose_any r u false 93 93 rfl _ hru.out hsu
          cases hu : u.data.toList with
          | nil =>
            rw [hu] at hcl
            have HN := Lib.hid (list_open HX.out HM.out (fun q e => by rw [hu] at e; cases e))
            have HCL := Lib.hid hcl
            clear hcl hu
            go_wp2_with fail
            refine HCL.out.mono ?_
            rintro e w5 ⟨rfl, hA5, hg5⟩
            have HA5 := Lib.hid hA5; clear hA5
            go_wp2
            go_ret
            rw [HN.out]
            exact ⟨rfl, HA5.out, grown_trans bg hg5⟩
          | cons a q =>
            rw [hu] at hcl
            by_cases ha : a = 93
            · have hm3 := HM.out
              rw [hu, ha] at hm3
              have HN := Lib.hid (list_close HX.out hm3)
              have HCL := Lib.hid hcl
              have HAA := Lib.hid ha
              clear hcl hu ha hm3
              go_wp2_with fail
              refine HCL.out.mono ?_
              intro e4 w4 hcp
              unfold ClosePost at hcp
              simp only [HAA.out, if_true] at hcp
              obtain ⟨rfl, hA4, hg4⟩ := hcp
              have HA4 := Lib.hid hA4; clear hA4
              go_wp2
              go_ret
              rw [HN.out]
              exact ⟨A, cap, ret_slice (by rw [← HL.out]; simp), HRW.out.grown hg4 hrlt, HA4.out, grown_trans bg hg4⟩
            · have HN := Lib.hid (list_open HX.out HM.out (fun q2 e => by rw [hu] at e; injection e with e1 _; exact ha e1))
              have HCL := Lib.hid hcl
              have HAA := Lib.hid ha
              clear hcl hu ha
              go_wp2_with fail
              refine HCL.out.mono ?_
              intro e4 w4 hcp
              unfold ClosePost at hcp
              simp only [HAA.out, if_false] at hcp
              obtain ⟨rfl, hA4, hg4⟩ := hcp
              have HA4 := Lib.hid hA4; clear hA4
              go_wp2
              go_ret
              rw [HN.out]
              exact ⟨rfl, HA4.out, grown_trans bg hg4⟩

set_option maxRecDepth 100000 in
set_option maxHeartbeats 4000000 in
theorem rtextsR_any (r : Nat) (s : ByteArray) (f : Bool) (hf : f = true → s.data.toList = []) (w : World) (hr : RdrAt 56 r s f w) (hsz : s.size ≤ 1099511627776) :
    Calls Tryd.prog 35 #[.pointer (some ⟨r, 0, none⟩)] w (LPost 56 r f vStr (rdList rdText s.data.toList) w) := by
  obtain ⟨i0, hi0, hz0, hz1, hz2⟩ := info_parts infoStr
  have hA := number_at r s f 91 91 rfl (by decide) (by decide) w hr hsz
  have hrlt := hr.lt
  cases hx : rdM maxI 91 s.data.toList with
  | none =>
    rw [rdNE_of_none hx] at hA
    have HN := Lib.hid (list_head (one := rdText) hx)
    have HA0 := Lib.hid hA
    clear hx hA hr hf
    go_enter Tryd.func35, Tryd.ntmps35
    go_wp2_with fail
    refine HA0.out.mono ?_
    rintro e w2 ⟨rfl, ⟨s2, hs2, hr2⟩, hg⟩
    obtain rfl := empty_of hs2
    have c2 := hr2.cell1
    have HR := Lib.hid hr2; clear hr2 hs2
    go_wp2
    go_loop [5] (fun i => i = .int .i64 0) (fun _ => 0)
    case atStart => rfl
    case round =>
      obtain rfl := hrel
      go_wp2
      go_ret
      rw [HN.out]
      exact ⟨rfl, ⟨_, rfl, HR.out⟩, hg⟩
  | some y =>
    obtain ⟨n, t⟩ := y
    obtain rfl := f_false hf (by decide) hx
    rw [rdNE_of hx] at hA
    have hle := maxI_le (rdM_le hx)
    have htl := rd_rest_len (by decide) hx
    rw [size_list] at htl
    have HX := Lib.hid hx
    have HA0 := Lib.hid hA
    clear hx hA hr hf
    go_enter Tryd.func35, Tryd.ntmps35
    go_wp2_with fail
    refine HA0.out.mono ?_
    rintro e w2 ⟨rfl, ⟨s2, hs2, hr2⟩, hg⟩
    have HR := Lib.hid hr2
    have H2 := Lib.hid hs2
    have hz9 := size_of hs2
    have hsz2 : s2.size ≤ t.length := by omega
    clear hr2 hs2 hz9
    go_wp2
    go_loopw [4, 5] (fun v i wr => ∃ (k : Nat) (bad : Bool) (xs : List (List UInt8)) (u : ByteArray), k ≤ n ∧ i = .int .i64 k ∧ (bad = false → u.size + 2 * k ≤ t.length) ∧ u.size ≤ t.length ∧ Hid (RdrAt 56 r u bad wr) ∧ (bad = false → wr.ownsRow w.heap.size 9 1 v k (xs.map vStr)) ∧
      Hid (if bad then rdMany rdText n t = none ∧ u = ⟨#[]⟩ else rdMany rdText n t = pre xs (rdMany rdText (n - k) u.data.toList)) ∧ w.grownBy wr (some r)) (fun _ i _ => n - (intOf i).toNat)
    case atStart => exact ⟨0, false, [], s2, Nat.zero_le _, rfl, fun _ => by omega, by omega, HR, fun _ => World.ownsRow_nil _ _ _ _, Lib.hid (by rw [H2.out]; exact many_start rdText n t), hg⟩
    case round =>
      obtain ⟨k, bad, xs, u, hk, rfl, hus, hut, hru, hown, hm, bg⟩ := hrel
      clear hg HR
      cases bad with
      | true =>
        have hmm := hm.out
        simp only [if_true] at hmm
        obtain ⟨hmn, rfl⟩ := hmm
        have HN := Lib.hid (list_many HX.out hmn)
        have c1 := hru.out.cell1
        clear hmn hown hus hm
        by_cases hlt : k < n
        · have hlt' : (k : Int) < (n : Int) := by omega
          go_wp2
          go_ret
          rw [HN.out]
          exact ⟨rfl, ⟨_, rfl, hru.out⟩, bg⟩
        · have hlt' : ¬ ((k : Int) < (n : Int)) := by omega
          go_wp2
          go_ret
          rw [HN.out]
          exact ⟨rfl, ⟨_, rfl, hru.out⟩, bg⟩
      | false =>
        have hm2 := hm.out
        simp only [if_false, Bool.false_eq_true] at hm2
        have hown2 := hown rfl
        have hus2 := hus rfl
        have hsu : u.size ≤ 1099511627776 := by omega
        have c1 := hru.out.cell1
        have HM2 := Lib.hid hm2
        clear hown hus hm hm2
        by_cases hlt : k < n
        · have hlt' : (k : Int) < (n : Int) := by omega
          have hone := rtextR_any r u false (fun h => nomatch h) _ hru.out hsu
          cases ho : rdText u.data.toList with
          | none =>
            rw [ho] at hone
            have HO := Lib.hid hone
            have HMN := Lib.hid (many_none HM2.out hlt ho)
            clear hone ho
            go_wp2_with fail
            refine HO.out.mono ?_
            rintro e w5 ⟨rfl, ⟨s5, hs5, hr5⟩, hg5⟩
            obtain rfl := empty_of hs5
            have hown5 := own_kept hown2 hg5 hrlt
            have bg5 := grown_trans bg hg5
            have HR5 := Lib.hid hr5
            clear hr5 hs5 hown2 hg5
            go_wp2_with (at_builtin; refine wpList_append_own _ rfl _ _ 23 rfl w.heap.size 9 i0 (.string ⟨#[]⟩) 1 16 Tryd.underlying23 hi0 hz0 hz1 hz2 rfl (by decide) _ _ _ rfl (hown5.alloc _) ⟨w5.heap.size, 0, none⟩ 1 1 [Value.string ⟨#[]⟩] rfl rfl ?c1 ?c2 ?c3 ?c4 ?c5 ?_)
            case c1 => exact cell_one_new _ _ _
            case c2 => intro u hu; simp at hu; subst hu; rfl
            case c3 => unfold maxLen; omega
            case c4 => omega
            case c5 => have := bg5.size; simp; omega
            intro v' w6 hown' hgrow _
            have bg6 := grown_own (grown_trans bg5 (grown_alloc w5 (.cells #[Value.string ⟨#[]⟩] 9) (some r))) (hown5.alloc _) (Nat.le_refl _) hgrow
            have HR6 := Lib.hid ((HR5.out.kept (grown_alloc w5 (.cells #[Value.string ⟨#[]⟩] 9) none) (by simp)).kept hgrow (fun e => by have := ((hown5.alloc (.cells #[Value.string ⟨#[]⟩] 9)).lt r e.symm).1; omega))
            clear hown' hgrow HR5
            go_wp2
            go_roundw
            case rel => exact ⟨k + 1, true, [], ⟨#[]⟩, by omega, by go_num, (fun h => nomatch h), Nat.zero_le _, HR6, (fun h => nomatch h), Lib.hid ⟨HMN.out, rfl⟩, bg6⟩
            case measure => simp [intOf]; omega
          | some y =>
            obtain ⟨x, l1⟩ := y
            rw [ho] at hone
            have HO := Lib.hid hone
            have HM := Lib.hid (many_some HM2.out hlt ho)
            have hrest := text_rest (by rw [size_list]; unfold maxI; omega) ho
            rw [size_list] at hrest
            clear hone ho
            go_wp2_with fail
            refine HO.out.mono ?_
            rintro e w5 ⟨rfl, ⟨s5, hs5, hr5⟩, hg5⟩
            have hz5 := size_of hs5
            have hz6 : s5.size + 2 * (k + 1) ≤ t.length := by omega
            have hown5 := own_kept hown2 hg5 hrlt
            have bg5 := grown_trans bg hg5
            have HR5 := Lib.hid hr5
            have H5 := Lib.hid hs5
            clear hr5 hs5 hz5 hown2 hg5
            rw [show vStr x = Value.string (bs x) from rfl]
            go_wp2_with (at_builtin; refine wpList_append_own _ rfl _ _ 23 rfl w.heap.size 9 i0 (.string ⟨#[]⟩) 1 16 Tryd.underlying23 hi0 hz0 hz1 hz2 rfl (by decide) _ _ _ rfl (hown5.alloc _) ⟨w5.heap.size, 0, none⟩ 1 1 [Value.string (bs x)] rfl rfl ?c1 ?c2 ?c3 ?c4 ?c5 ?_)
            case c1 => exact cell_one_new _ _ _
            case c2 => intro u hu; simp at hu; subst hu; rfl
            case c3 => unfold maxLen; omega
            case c4 => omega
            case c5 => have := bg5.size; simp; omega
            intro v' w6 hown' hgrow _
            have bg6 := grown_own (grown_trans bg5 (grown_alloc w5 (.cells #[Value.string (bs x)] 9) (some r))) (hown5.alloc _) (Nat.le_refl _) hgrow
            have HR6 := Lib.hid ((HR5.out.kept (grown_alloc w5 (.cells #[Value.string (bs x)] 9) none) (by simp)).kept hgrow (fun e => by have := ((hown5.alloc (.cells #[Value.string (bs x)] 9)).lt r e.symm).1; omega))
            have hown6 : w6.ownsRow w.heap.size 9 1 v' (k + 1) ((xs ++ [x]).map vStr) := by simpa [vStr] using hown'
            clear hown' hgrow HR5
            go_wp2
            go_roundw
            case rel => exact ⟨k + 1, false, xs ++ [x], s5, by omega, by go_num, fun _ => hz6, by omega, HR6, fun _ => hown6, Lib.hid (by rw [H5.out]; exact HM.out), bg6⟩
            case measure => simp [intOf]; omega
        · obtain rfl : k = n := by omega
          have hnn : ¬ ((k : Int) < (k : Int)) := by omega
          have HM := Lib.hid (many_end HM2.out)
          obtain ⟨A, cap, rfl, hln, hrow⟩ := NRow.of_own hown2
          have HL := Lib.hid hln; clear hln
          have HRW := Lib.hid hrow; clear hrow hown2
          have hcl := rclose_any r u false 93 93 rfl _ hru.out hsu
          cases hu : u.data.toList with
          | nil =>
            rw [hu] at hcl
            have HN := Lib.hid (list_open HX.out HM.out (fun q e => by rw [hu] at e; cases e))
            have HCL := Lib.hid hcl
            clear hcl hu
            go_wp2_with fail
            refine HCL.out.mono ?_
            rintro e w5 ⟨rfl, hA5, hg5⟩
            have HA5 := Lib.hid hA5; clear hA5
            go_wp2
            go_ret
            rw [HN.out]
            exact ⟨rfl, HA5.out, grown_trans bg hg5⟩
          | cons a q =>
            rw [hu] at hcl
            by_cases ha : a = 93
            · have hm3 := HM.out
              rw [hu, ha] at hm3
              have HN := Lib.hid (list_close HX.out hm3)
              have HCL := Lib.hid hcl
              have HAA := Lib.hid ha
              clear hcl hu ha hm3
              go_wp2_with fail
              refine HCL.out.mono ?_
              intro e4 w4 hcp
              unfold ClosePost at hcp
              simp only [HAA.out, if_true] at hcp
              obtain ⟨rfl, hA4, hg4⟩ := hcp
              have HA4 := Lib.hid hA4; clear hA4
              go_wp2
              go_ret
              rw [HN.out]
              exact ⟨A, cap, ret_slice (by rw [← HL.out]; simp), HRW.out.grown hg4 hrlt, HA4.out, grown_trans bg hg4⟩
            · have HN := Lib.hid (list_open HX.out HM.out (fun q2 e => by rw [hu] at e; injection e with e1 _; exact ha e1))
              have HCL := Lib.hid hcl
              have HAA := Lib.hid ha
              clear hcl hu ha
              go_wp2_with fail
              refine HCL.out.mono ?_
              intro e4 w4 hcp
              unfold ClosePost at hcp
              simp only [HAA.out, if_false] at hcp
              obtain ⟨rfl, hA4, hg4⟩ := hcp
              have HA4 := Lib.hid hA4; clear hA4
              go_wp2
              go_ret
              rw [HN.out]
              exact ⟨rfl, HA4.out, grown_trans bg hg4⟩

end Go.Proofs.YtdpedeknccnbhaaDoor
