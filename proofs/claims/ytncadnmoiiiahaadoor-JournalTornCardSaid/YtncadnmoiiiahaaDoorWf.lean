/-
  Contracts of wire.Reader's methods (4): Text.
-/
import Derived.Test.YtncadnmoiiiahaaDoorWe
set_option linter.unusedVariables false
namespace Go.Proofs.YtncadnmoiiiahaaDoor.W
open Go.RowKit Go.Sort

/-- a string of bytes. -/
def bs (l : List UInt8) : ByteArray := ⟨l.toArray⟩
theorem bs_data (l : List UInt8) : (bs l).data.toList = l := rfl
theorem ret_str {a b : ByteArray} (h : a.data.toList = b.data.toList) : Ending.returned (.string a) = .returned (.string b) := by
  have : a = b := ByteArray.ext (Array.toList_inj.1 h)
  rw [this]
theorem empty_of {s : ByteArray} (h : s.data.toList = []) : s = ⟨#[]⟩ := ByteArray.ext (Array.toList_inj.1 h)

theorem ext_take (s : ByteArray) (n : Nat) : (s.extract 0 n).data.toList = s.data.toList.take n := by
  rw [Lib.extract_data]; simp

theorem rdText_none {l : List UInt8} (h : rdM maxI 58 l = none) : rdText l = none := by unfold rdText; rw [h]
theorem rdText_short {l t : List UInt8} {n : Nat} (h : rdM maxI 58 l = some (n, t)) (hn : t.length ≤ n) : rdText l = none := by
  unfold rdText; rw [h]
  simp only
  rw [List.getElem?_eq_none hn]
  rfl
theorem rdText_other {l t : List UInt8} {n : Nat} (h : rdM maxI 58 l = some (n, t)) (hn : n < t.length) (hc : t[n] ≠ 44) : rdText l = none := by
  unfold rdText; rw [h]
  simp only
  rw [List.getElem?_eq_getElem hn]
  exact if_neg (fun e => hc (Option.some.inj e))
theorem rdText_some {l t : List UInt8} {n : Nat} (h : rdM maxI 58 l = some (n, t)) (hn : n < t.length) (hc : t[n] = 44) : rdText l = some (t.take n, t.drop (n + 1)) := by
  unfold rdText; rw [h]
  simp only
  rw [List.getElem?_eq_getElem hn, hc]
  exact if_pos rfl
theorem rd_rest_len {most : Nat} {e : UInt8} (he : isD e = false) {l t : List UInt8} {n : Nat} (h : rdM most e l = some (n, t)) : t.length + 2 ≤ l.length := by
  obtain ⟨rfl, _⟩ := (rdM_iff most e he l n t).1 h
  have := dec_ne n
  have h1 : 1 ≤ (Lib.decDigits n).length := by rw [Lib.decDigits_length]; exact Lib.nDigits_pos n
  simp only [List.length_append, List.length_cons]
  omega

/-- a string's value. -/
def vStr (l : List UInt8) : Value := .string (bs l)

set_option maxRecDepth 100000 in
set_option maxHeartbeats 2000000 in
theorem textR_any (r : Nat) (s : ByteArray) (f : Bool) (w : World) (hr : RdrAt 75 r s f w) (hsz : s.size ≤ 1099511627776) :
    Calls Tryd.prog 27 #[.pointer (some ⟨r, 0, none⟩)] w (MPost 75 r f vStr (.string ⟨#[]⟩) (rdText s.data.toList) w) := by
  have hd := digits_at r s f 58 58 rfl (by decide) maxI 9223372036854775807 rfl (by unfold maxI; omega) (by unfold maxI; omega) w hr hsz
  cases hx : rdM maxI 58 s.data.toList with
  | none =>
    rw [hx] at hd
    have HN := Lib.hid (rdText_none hx)
    have HD := Lib.hid hd
    clear hx hd hr
    go_enter Tryd.func27, Tryd.ntmps27
    go_wp2_with fail
    refine HD.out.mono ?_
    rintro e w2 ⟨rfl, hA, hg⟩
    obtain ⟨s2, hs2, hr2⟩ := hA
    obtain rfl := empty_of hs2
    have c2 := hr2.cell0
    have HR := Lib.hid hr2; clear hr2 hs2
    go_wp2_with fail
    refine (fail_any r _ _ _ HR.out).mono ?_
    rintro e w3 ⟨rfl, hA2, hg3⟩
    have HA := Lib.hid hA2; clear hA2
    go_wp2
    go_ret
    rw [HN.out]
    exact ⟨rfl, HA.out, grown_trans hg hg3⟩
  | some x =>
    obtain ⟨n, t⟩ := x
    rw [hx] at hd
    have hle := maxI_le (rdM_le hx)
    have htl := rd_rest_len (by decide) hx
    rw [size_list] at htl
    have HD := Lib.hid hd
    have HX := Lib.hid hx
    clear hd hr hx
    by_cases hlen : t.length ≤ n
    · have HN := Lib.hid (rdText_short HX.out hlen)
      go_enter Tryd.func27, Tryd.ntmps27
      go_wp2_with fail
      refine HD.out.mono ?_
      rintro e w2 ⟨rfl, hA, hg⟩
      obtain ⟨s2, hs2, hr2⟩ := hA
      have hz2 := size_of hs2
      have hz3 : (s2.size : Int) ≤ (n : Int) := by rw [hz2]; omega
      have c2 := hr2.cell0
      have HR := Lib.hid hr2; clear hr2 hs2 hz2
      go_wp2_with fail
      refine (fail_any r _ _ _ HR.out).mono ?_
      rintro e w3 ⟨rfl, hA2, hg3⟩
      have HA := Lib.hid hA2; clear hA2
      go_wp2
      go_ret
      rw [HN.out]
      exact ⟨rfl, HA.out, grown_trans hg hg3⟩
    · by_cases hc : t[n] = 44
      · have HN := Lib.hid (rdText_some HX.out (by omega) hc)
        have HC := Lib.hid hc; clear hc
        go_enter Tryd.func27, Tryd.ntmps27
        go_wp2_with fail
        refine HD.out.mono ?_
        rintro e w2 ⟨rfl, hA, hg⟩
        obtain ⟨s2, hs2, hr2⟩ := hA
        have hz2 := size_of hs2
        have hz3 : (n : Int) < (s2.size : Int) := by rw [hz2]; omega
        have hz4 : n < s2.size := by omega
        have hz5 : s2.size ≤ 1099511627776 := by omega
        have hcc : ((s2[n].toNat : Int) != 44) = false := by
          have h1 : s2[n] = 44 := by
            have := HC.out
            rw [← get_list s2 n hz4]
            subst hs2
            exact this
          rw [h1]; rfl
        have c2 := hr2.cell0
        have f2 := hr2.froz 0
        have HR := Lib.hid hr2; clear hr2 hz2
        have H2 := Lib.hid hs2; clear hs2
        go_wp2
        go_ret
        rw [HN.out]
        refine ⟨ret_str ?_, ⟨_, ?_, HR.out.set0 _⟩, grown_trans hg (grown_set _ _ _ _)⟩
        · rw [bs_data]; exact (ext_take s2 n).trans (by rw [H2.out])
        · exact (ext_drop s2 _).trans (by rw [H2.out])
      · have HN := Lib.hid (rdText_other HX.out (by omega) hc)
        have HC := Lib.hid hc; clear hc
        go_enter Tryd.func27, Tryd.ntmps27
        go_wp2_with fail
        refine HD.out.mono ?_
        rintro e w2 ⟨rfl, hA, hg⟩
        obtain ⟨s2, hs2, hr2⟩ := hA
        have hz2 := size_of hs2
        have hz3 : (n : Int) < (s2.size : Int) := by rw [hz2]; omega
        have hz4 : n < s2.size := by omega
        have hcc : ((s2[n].toNat : Int) != 44) = true := by
          rw [bne_iff_ne]
          intro h
          refine HC.out ?_
          have h1 : s2[n] = 44 := UInt8.toNat_inj.1 (by show s2[n].toNat = 44; omega)
          rw [← get_list s2 n hz4] at h1
          subst hs2
          exact h1
        have c2 := hr2.cell0
        have HR := Lib.hid hr2; clear hr2 hz2
        have H2 := Lib.hid hs2; clear hs2
        go_wp2_with fail
        refine (fail_any r _ _ _ HR.out).mono ?_
        rintro e w3 ⟨rfl, hA2, hg3⟩
        have HA := Lib.hid hA2; clear hA2
        go_wp2
        go_ret
        rw [HN.out]
        exact ⟨rfl, HA.out, grown_trans hg hg3⟩

end Go.Proofs.YtncadnmoiiiahaaDoor.W
