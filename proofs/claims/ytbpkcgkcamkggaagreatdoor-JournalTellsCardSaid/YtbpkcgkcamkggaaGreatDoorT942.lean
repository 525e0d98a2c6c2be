/-
  Contracts of the reference's reader (3): ahead, number, Num, Int, Text, and the lists.
-/
import Derived.Test.YtbpkcgkcamkggaaGreatDoorT941
import Derived.Deep.RegionHeld3
set_option linter.unusedVariables false
namespace Go.Proofs.YtbpkcgkcamkggaaGreatDoor.W
open Go.RowKit Go.Sort

set_option maxRecDepth 100000 in
set_option maxHeartbeats 4000000 in
theorem ahead_any (r : Nat) (s : ByteArray) (f : Bool) (e : UInt8) (c : Int) (hc : c = (e.toNat : Int)) (he : isD e = false) (h45 : e ≠ 45) (w : World) (hr : RdrAt 99 r s f w) (hsz : s.size ≤ 1099511627776) :
    Calls Tryz.prog 89 #[.pointer (some ⟨r, 0, none⟩), .int .u8 c] w (MPost 99 r f (Value.int .i64) (.int .i64 0) (rdI e s.data.toList) w) := by
  subst hc
  have c0 := hr.cell0
  have f0 := hr.froz 0
  have hrlt := hr.lt
  have H := Lib.hid hr; clear hr
  have HE := Lib.hid he; clear he
  have HE45 := Lib.hid h45; clear h45
  go_enter Tryz.func89, Tryz.ntmps89
  go_wp2
  go_loop [5] (fun i => ∃ k : Nat, k ≤ s.size ∧ k ≤ 21 ∧ i = .int .i64 k ∧ Hid (∀ c ∈ s.data.toList.take k, c ≠ e)) (fun i => s.size - (intOf i).toNat)
  case atStart => exact ⟨0, Nat.zero_le _, by omega, rfl, Lib.hid (fun c hc => by simp at hc)⟩
  case round =>
    obtain ⟨k, hk, hk21, rfl, hd⟩ := hrel
    have HD := Lib.hid hd; clear hd
    by_cases hlt : k < s.size
    · have hlt' : (k : Int) < (s.size : Int) := by omega
      by_cases h21 : k < 21
      · have h21' : (k : Int) < 21 := by omega
        by_cases hce : s.data.toList[k]'(by rw [size_list]; exact hlt) = e
        · have HX := Lib.hid (fun v rr => ahead_at (v := v) (r := rr) HE.out HE45.out (by rw [size_list]; exact hlt) HD.out.out hce)
          have hne : ((s[k].toNat : Int) != (e.toNat : Int)) = false := by rw [show s[k] = e from hce]; simp
          have hpd := ext_take s k
          have HB := Lib.hid (back_any (s.extract 0 k) (by have := size_of hpd; rw [List.length_take] at this; omega))
          have HPD := Lib.hid hpd
          clear hce hpd
          go_wp2_with fail
          refine (HB.out _).mono ?_
          rintro e2 w2 ⟨v, ok, rfl, h1, h2, hb⟩
          rw [HPD.out] at h1 h2
          have hr2 := H.out.below hb hrlt
          have c02 := hr2.cell0
          have f02 := hr2.froz 0
          have HR2 := Lib.hid hr2
          have H1 := Lib.hid h1
          have H2 := Lib.hid h2
          clear h1 h2 hr2 HB
          have hg0 := grown_of_below hb (some r)
          cases ok with
          | true =>
            have HN := Lib.hid ((HX.out v (s.data.toList.drop (k + 1))).2 ⟨(H1.out rfl).1, (H1.out rfl).2, rfl⟩)
            go_wp2
            go_ret
            rw [HN.out]
            exact ⟨rfl, ⟨_, ext_drop s _, HR2.out.set0 _⟩, grown_trans hg0 (grown_set _ _ _ _)⟩
          | false =>
            have HN : Hid (rdI e s.data.toList = none) := Lib.hid (by
              cases hx : rdI e s.data.toList with
              | none => rfl
              | some y =>
                obtain ⟨u, rr⟩ := y
                obtain ⟨h3, h4, _⟩ := (HX.out u rr).1 hx
                exact absurd (H2.out u h4 h3).1 (by simp))
            go_wp2_with (go_at_call 81; refine (rfail_any r _ _ _ HR2.out).mono ?_; rintro e3 w3 ⟨rfl, hA, hg⟩; have HA := Lib.hid hA; clear hA)
            go_ret
            rw [HN.out]
            exact ⟨rfl, HA.out, grown_trans hg0 hg⟩
        · have hne : ((s[k].toNat : Int) != (e.toNat : Int)) = true := by rw [bne_iff_ne]; intro h; exact hce (UInt8.toNat_inj.1 (by show s[k].toNat = e.toNat; omega))
          have HN2 : Hid (∀ c ∈ s.data.toList.take (k + 1), c ≠ e) := Lib.hid (by
            rw [take_snoc s k hlt]
            intro c hc
            rw [List.mem_append] at hc
            rcases hc with hc | hc
            · exact HD.out.out c hc
            · simp only [List.mem_singleton] at hc
              subst hc
              exact hce)
          clear hce
          go_wp2
          go_round
          case rel => exact ⟨k + 1, by omega, by omega, by go_num, HN2⟩
          case measure => simp [intOf]; omega
      · obtain rfl : k = 21 := by omega
        by_cases hce : s.data.toList[21]'(by rw [size_list]; exact hlt) = e
        · have HX := Lib.hid (fun v rr => ahead_at (v := v) (r := rr) HE.out HE45.out (by rw [size_list]; exact hlt) HD.out.out hce)
          have hne : ((s[21].toNat : Int) != (e.toNat : Int)) = false := by rw [show s[21] = e from hce]; simp
          have hpd := ext_take s 21
          have HB := Lib.hid (back_any (s.extract 0 21) (by have := size_of hpd; rw [List.length_take] at this; omega))
          have HPD := Lib.hid hpd
          clear hce hpd
          go_wp2_with fail
          refine (HB.out _).mono ?_
          rintro e2 w2 ⟨v, ok, rfl, h1, h2, hb⟩
          rw [HPD.out] at h1 h2
          have hr2 := H.out.below hb hrlt
          have c02 := hr2.cell0
          have f02 := hr2.froz 0
          have HR2 := Lib.hid hr2
          have H1 := Lib.hid h1
          have H2 := Lib.hid h2
          clear h1 h2 hr2 HB
          have hg0 := grown_of_below hb (some r)
          cases ok with
          | true =>
            have HN := Lib.hid ((HX.out v (s.data.toList.drop 22)).2 ⟨(H1.out rfl).1, (H1.out rfl).2, rfl⟩)
            go_wp2
            go_ret
            rw [HN.out]
            exact ⟨rfl, ⟨_, ext_drop s _, HR2.out.set0 _⟩, grown_trans hg0 (grown_set _ _ _ _)⟩
          | false =>
            have HN : Hid (rdI e s.data.toList = none) := Lib.hid (by
              cases hx : rdI e s.data.toList with
              | none => rfl
              | some y =>
                obtain ⟨u, rr⟩ := y
                obtain ⟨h3, h4, _⟩ := (HX.out u rr).1 hx
                exact absurd (H2.out u h4 h3).1 (by simp))
            go_wp2_with (go_at_call 81; refine (rfail_any r _ _ _ HR2.out).mono ?_; rintro e3 w3 ⟨rfl, hA, hg⟩; have HA := Lib.hid hA; clear hA)
            go_ret
            rw [HN.out]
            exact ⟨rfl, HA.out, grown_trans hg0 hg⟩
        · have hne : ((s[21].toNat : Int) != (e.toNat : Int)) = true := by rw [bne_iff_ne]; intro h; exact hce (UInt8.toNat_inj.1 (by show s[21].toNat = e.toNat; omega))
          have HN := Lib.hid (ahead_none HE.out HE45.out HD.out.out (.inr (Nat.le_refl _)))
          clear hce
          go_wp2_with (go_at_call 81; refine (rfail_any r _ _ _ H.out).mono ?_; rintro e2 w2 ⟨rfl, hA, hg⟩; have HA := Lib.hid hA; clear hA)
          go_ret
          rw [HN.out]
          exact ⟨rfl, HA.out, hg⟩
    · obtain rfl : k = s.size := by omega
      have HN := Lib.hid (ahead_none HE.out HE45.out HD.out.out (.inl (size_list s).symm))
      have hnn : ¬ ((s.size : Int) < (s.size : Int)) := by omega
      go_wp2_with (go_at_call 81; refine (rfail_any r _ _ _ H.out).mono ?_; rintro e2 w2 ⟨rfl, hA, hg⟩; have HA := Lib.hid hA; clear hA)
      go_ret
      rw [HN.out]
      exact ⟨rfl, HA.out, hg⟩

set_option maxHeartbeats 2000000 in
theorem number_at (r : Nat) (s : ByteArray) (f : Bool) (e : UInt8) (c : Int) (hc : c = (e.toNat : Int)) (he : isD e = false) (h45 : e ≠ 45) (w : World) (hr : RdrAt 99 r s f w) (hsz : s.size ≤ 1099511627776) :
    Calls Tryz.prog 80 #[.pointer (some ⟨r, 0, none⟩), .int .u8 c] w (MPost 99 r f (Value.int .i64) (.int .i64 0) (rdNE e s.data.toList) w) := by
  have hA := ahead_any r s f e c hc he h45 w hr hsz
  cases hx : rdI e s.data.toList with
  | none =>
    rw [hx] at hA
    have HA0 := Lib.hid hA
    have HN := Lib.hid (rdNE_none he hx)
    clear hA hx hr hc
    go_enter Tryz.func80, Tryz.ntmps80
    go_wp2_with fail
    refine HA0.out.mono ?_
    rintro e2 w2 ⟨rfl, hA, hg⟩
    have HA := Lib.hid hA; clear hA
    go_wp2
    go_ret
    rw [HN.out]
    exact ⟨rfl, HA.out, hg⟩
  | some y =>
    obtain ⟨v, t⟩ := y
    rw [hx] at hA
    have HA0 := Lib.hid hA
    by_cases hv : v < 0
    · have HN := Lib.hid (rdNE_neg he hx hv)
      clear hA hx hr hc
      go_enter Tryz.func80, Tryz.ntmps80
      go_wp2_with fail
      refine HA0.out.mono ?_
      rintro e2 w2 ⟨rfl, ⟨s2, hs2, hr2⟩, hg⟩
      have HR2 := Lib.hid hr2; clear hr2 hs2
      go_wp2_with (go_at_call 81; refine (rfail_any r _ _ _ HR2.out).mono ?_; rintro e3 w3 ⟨rfl, hA, hg3⟩; have HA := Lib.hid hA; clear hA)
      go_ret
      rw [HN.out]
      exact ⟨rfl, HA.out, grown_trans hg hg3⟩
    · have HN := Lib.hid (rdNE_pos he hx hv)
      have hv' : (0 : Int) ≤ v := by omega
      clear hA hx hr hc hv
      go_enter Tryz.func80, Tryz.ntmps80
      go_wp2_with fail
      refine HA0.out.mono ?_
      rintro e2 w2 ⟨rfl, hA, hg⟩
      have HA := Lib.hid hA; clear hA
      go_wp2
      go_ret
      rw [HN.out]
      exact ⟨rfl, HA.out, hg⟩

set_option maxHeartbeats 1000000 in
theorem rnumR_any (r : Nat) (s : ByteArray) (f : Bool) (w : World) (hr : RdrAt 99 r s f w) (hsz : s.size ≤ 1099511627776) :
    Calls Tryz.prog 63 #[.pointer (some ⟨r, 0, none⟩)] w (MPost 99 r f (Value.int .i64) (.int .i64 0) (rdNum s.data.toList) w) := by
  have hA := number_at r s f 59 59 rfl (by decide) (by decide) w hr hsz
  have heq : rdNE 59 s.data.toList = rdNum s.data.toList := rfl
  rw [heq] at hA
  cases hx : rdNum s.data.toList with
  | none =>
    rw [hx] at hA
    have HA0 := Lib.hid hA
    clear hA hx hr heq
    go_enter Tryz.func63, Tryz.ntmps63
    go_wp2_with fail
    refine HA0.out.mono ?_
    rintro e2 w2 ⟨rfl, hA, hg⟩
    have HA := Lib.hid hA; clear hA
    go_wp2
    go_ret
    exact ⟨rfl, HA.out, hg⟩
  | some y =>
    obtain ⟨v, t⟩ := y
    rw [hx] at hA
    have HA0 := Lib.hid hA
    clear hA hx hr heq
    go_enter Tryz.func63, Tryz.ntmps63
    go_wp2_with fail
    refine HA0.out.mono ?_
    rintro e2 w2 ⟨rfl, hA, hg⟩
    have HA := Lib.hid hA; clear hA
    go_wp2
    go_ret
    exact ⟨rfl, HA.out, hg⟩

theorem f_false {s : ByteArray} {f : Bool} (hf : f = true → s.data.toList = []) {e : UInt8} {m n : Nat} {t : List UInt8} (he : isD e = false) (h : rdM m e s.data.toList = some (n, t)) : f = false := by
  cases f with
  | false => rfl
  | true =>
    have h0 := hf rfl
    rw [h0] at h
    have := rd_rest_len he h
    simp at this
theorem rdNE_of {e : UInt8} {l : List UInt8} {n : Nat} {t : List UInt8} (h : rdM maxI e l = some (n, t)) : rdNE e l = some ((n : Int), t) := by unfold rdNE; rw [h]
theorem rdNE_of_none {e : UInt8} {l : List UInt8} (h : rdM maxI e l = none) : rdNE e l = none := by unfold rdNE; rw [h]

set_option maxRecDepth 100000 in
set_option maxHeartbeats 4000000 in
theorem rtextR_any (r : Nat) (s : ByteArray) (f : Bool) (hf : f = true → s.data.toList = []) (w : World) (hr : RdrAt 99 r s f w) (hsz : s.size ≤ 1099511627776) :
    Calls Tryz.prog 62 #[.pointer (some ⟨r, 0, none⟩)] w (MPost 99 r f vStr (.string ⟨#[]⟩) (rdText s.data.toList) w) := by
  have hA := number_at r s f 58 58 rfl (by decide) (by decide) w hr hsz
  cases hx : rdM maxI 58 s.data.toList with
  | none =>
    rw [rdNE_of_none hx] at hA
    have HA0 := Lib.hid hA
    have HN := Lib.hid (rdText_none hx)
    clear hA hx hr hf
    go_enter Tryz.func62, Tryz.ntmps62
    go_wp2_with fail
    refine HA0.out.mono ?_
    rintro e2 w2 ⟨rfl, ⟨s2, hs2, hr2⟩, hg⟩
    obtain rfl := empty_of hs2
    have c2 := hr2.cell1
    have HR2 := Lib.hid hr2; clear hr2 hs2
    go_wp2_with (go_at_call 81; refine (rfail_any r _ _ _ HR2.out).mono ?_; rintro e3 w3 ⟨rfl, hA, hg3⟩; have HA := Lib.hid hA; clear hA)
    go_ret
    rw [HN.out]
    exact ⟨rfl, HA.out, grown_trans hg hg3⟩
  | some y =>
    obtain ⟨n, t⟩ := y
    obtain rfl := f_false hf (by decide) hx
    rw [rdNE_of hx] at hA
    have HA0 := Lib.hid hA
    have hle := maxI_le (rdM_le hx)
    have htl := rd_rest_len (by decide) hx
    rw [size_list] at htl
    have HX := Lib.hid hx
    clear hA hx hr hf
    by_cases hlen : t.length ≤ n
    · have HN := Lib.hid (rdText_short HX.out hlen)
      go_enter Tryz.func62, Tryz.ntmps62
      go_wp2_with fail
      refine HA0.out.mono ?_
      rintro e2 w2 ⟨rfl, ⟨s2, hs2, hr2⟩, hg⟩
      have hz2 := size_of hs2
      have hz3 : (s2.size : Int) ≤ (n : Int) := by rw [hz2]; omega
      have c1 := hr2.cell1
      have c2 := hr2.cell0
      have HR2 := Lib.hid hr2; clear hr2 hs2 hz2
      go_wp2_with (go_at_call 81; refine (rfail_any r _ _ _ HR2.out).mono ?_; rintro e3 w3 ⟨rfl, hA, hg3⟩; have HA := Lib.hid hA; clear hA)
      go_ret
      rw [HN.out]
      exact ⟨rfl, HA.out, grown_trans hg hg3⟩
    · have hnt : n < t.length := by omega
      have hcons := List.drop_eq_getElem_cons hnt
      by_cases hc : t[n] = 44
      · have HN := Lib.hid (rdText_some HX.out hnt hc)
        have HC := Lib.hid hcons
        have HC4 := Lib.hid hc
        clear hcons hc
        go_enter Tryz.func62, Tryz.ntmps62
        go_wp2_with fail
        refine HA0.out.mono ?_
        rintro e2 w2 ⟨rfl, ⟨s2, hs2, hr2⟩, hg⟩
        have hz2 := size_of hs2
        have hz3 : (n : Int) < (s2.size : Int) := by rw [hz2]; omega
        have hz4 : n ≤ s2.size := by omega
        have hz5 : s2.size ≤ 1099511627776 := by omega
        have c1 := hr2.cell1
        have c2 := hr2.cell0
        have f2 := hr2.froz 0
        have hg2 := grown_trans hg (grown_set w2 r 0 (.string (s2.extract n s2.size)))
        have hr3 := hr2.set0 (s2.extract n s2.size)
        have hcl := rclose_any r _ false 44 44 rfl _ hr3 (by rw [extract_size s2 n hz4]; omega)
        rw [ext_drop, hs2, HC.out] at hcl
        have HCL := Lib.hid hcl
        have H2 := Lib.hid hs2
        clear hcl hr3 hr2 hs2 hz2
        go_wp2_with fail
        refine HCL.out.mono ?_
        intro e4 w4 hcp
        unfold ClosePost at hcp
        simp only [HC4.out, if_true] at hcp
        obtain ⟨rfl, hA, hg4⟩ := hcp
        have HA := Lib.hid hA; clear hA
        go_wp2
        go_ret
        rw [HN.out]
        refine ⟨ret_str ?_, HA.out, grown_trans hg2 hg4⟩
        rw [bs_data]; exact (ext_take s2 n).trans (by rw [H2.out])
      · have HN := Lib.hid (rdText_other HX.out hnt hc)
        have HC := Lib.hid hcons
        have HC4 := Lib.hid hc
        clear hcons hc
        go_enter Tryz.func62, Tryz.ntmps62
        go_wp2_with fail
        refine HA0.out.mono ?_
        rintro e2 w2 ⟨rfl, ⟨s2, hs2, hr2⟩, hg⟩
        have hz2 := size_of hs2
        have hz3 : (n : Int) < (s2.size : Int) := by rw [hz2]; omega
        have hz4 : n ≤ s2.size := by omega
        have hz5 : s2.size ≤ 1099511627776 := by omega
        have c1 := hr2.cell1
        have c2 := hr2.cell0
        have f2 := hr2.froz 0
        have hg2 := grown_trans hg (grown_set w2 r 0 (.string (s2.extract n s2.size)))
        have hr3 := hr2.set0 (s2.extract n s2.size)
        have hcl := rclose_any r _ false 44 44 rfl _ hr3 (by rw [extract_size s2 n hz4]; omega)
        rw [ext_drop, hs2, HC.out] at hcl
        have HCL := Lib.hid hcl
        clear hcl hr3 hr2 hs2 hz2
        go_wp2_with fail
        refine HCL.out.mono ?_
        intro e4 w4 hcp
        unfold ClosePost at hcp
        simp only [HC4.out, if_false] at hcp
        obtain ⟨rfl, hA, hg4⟩ := hcp
        have HA := Lib.hid hA; clear hA
        go_wp2
        go_ret
        rw [HN.out]
        exact ⟨rfl, HA.out, grown_trans hg2 hg4⟩

end Go.Proofs.YtbpkcgkcamkggaaGreatDoor.W
