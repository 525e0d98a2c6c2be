/-
  The walk of DiskSynced.
-/
import Derived.Test.YtcjadlokjbeibaaNd
import Derived.Test.YtcjadlokjbeibaaNc
import Derived.Laws.IdiomStrings
set_option linter.unusedVariables false
namespace Go.Proofs.Ytcjadlokjbeibaa
open Go.RowKit

set_option maxRecDepth 100000 in
set_option maxHeartbeats 8000000 in
theorem synced_walk (A : Option Addr) (cap : Nat) (l : List DAct) (f : Int) (B : Option Addr) (capB : Nat) (more : List DAct) (AK : Option Addr) (ck : Nat) (keep : List Int) (w : World)
    (hl : l.length ≤ 9223372036854775807) (hok : ∀ v ∈ l, ActOk v) (hA : Acts w A l) (h64 : In64 f) (hlB : more.length ≤ 9223372036854775807) (hokB : ∀ v ∈ more, ActOk v) (hB : Acts w B more) (hK : JRow w AK keep) (hKl : keep.length ≤ 9223372036854775807) :
    Calls Try.prog 5 #[.slice A l.length cap, .int .i64 f, .slice B more.length capB, .slice AK keep.length ck] w fun e w' => e = .returned (.bool true) ∧ Below w.heap.size w w' := by
  have HO := Lib.hid hok; clear hok
  have HA := Lib.hid hA; clear hA
  have HOB := Lib.hid hokB; clear hokB
  have HB := Lib.hid hB; clear hB
  have HK := Lib.hid hK; clear hK
  go_enter Try.func5, Try.ntmps5
  go_wp2_with fail
  refine (small_any w).mono ?_
  rintro e w1 ⟨rfl, b1⟩
  go_wp2_with fail
  refine (few_any A cap l w1 hl HO.out (HA.out.below b1)).mono ?_
  rintro e w2 ⟨b, rfl, hb, b12⟩
  have b2 := b1.trans (b12.mono b1.size)
  clear b1 b12
  cases b with
  | false =>
    have B2 := Lib.hid b2
    clear hb b2
    go_wp2
    go_ret
    exact ⟨rfl, B2.out⟩
  | true =>
  have HF := Lib.hid (hb rfl)
  clear hb
  have B2 := Lib.hid b2
  clear b2
  go_wp2_with fail
  refine (few_any B capB more w2 hlB HOB.out (HB.out.below B2.out)).mono ?_
  rintro e w3 ⟨b, rfl, hb, b23⟩
  have B3 := Lib.hid (B2.out.trans (b23.mono B2.out.size))
  clear B2 b23
  cases b with
  | false =>
    clear hb
    go_wp2
    go_ret
    exact ⟨rfl, B3.out⟩
  | true =>
  have HFB := Lib.hid (hb rfl)
  clear hb
  by_cases hk : 60 < keep.length
  · have hk' : (60 : Int) < (keep.length : Int) := by omega
    go_wp2
    go_ret
    exact ⟨rfl, B3.out⟩
  have hk' : (keep.length : Int) ≤ 60 := by omega
  have H64 := Lib.hid h64
  clear h64
  go_wp2_with fail
  refine (played_any w A cap l w3 B3.out HF.out HO.out HA.out).mono ?_
  rintro e w4 ⟨r, L, rfl, h4⟩
  have H4 := Lib.hid h4
  clear h4 B3 HF HO HA
  generalize run Dk.new l = d at *
  go_wp2_with fail
  refine (hRead H4.out (by omega) H64.out (by unfold In64; omega) (by unfold In64; omega)).mono ?_
  rintro e w5 ⟨before, he, hs5, h5⟩
  by_cases hc : (d.sync f).2 = 0
  · obtain ⟨d1, d2, d3, d4⟩ := Dk.sync_ok hc
    rw [Dk.read_all H4.out.at_.ok d2 d1] at he hs5
    subst he
    have H5 := Lib.hid h5
    have HFO := Lib.hid d2
    have HD3 := Lib.hid d3
    have HKP := Lib.hid d4
    have HS5 := Lib.hid hs5
    clear h5 H4 hs5 d1 d2 d3 d4
    go_wp2_with fail
    refine (hSync H5.out (by omega) H64.out).mono ?_
    rintro e w6 ⟨he, L6, h6⟩
    obtain rfl := ret_is he hc
    have H6 := Lib.hid h6
    clear h6 he H5 hc
    generalize (d.sync f).1 = e1 at *
    generalize d.now f = X at *
    have hrd : e1.read f 0 16777216 = (X, 0) := by rw [Dk.read_all H6.out.at_.ok HFO.out HD3.out, HKP.out.now]
    have HRD := Lib.hid hrd
    clear hrd
    go_wp2_with fail
    refine (hRead H6.out (by omega) H64.out (by unfold In64; omega) (by unfold In64; omega)).mono ?_
    rintro e w7 ⟨now, he, hs7, h7⟩
    rw [HRD.out] at he hs7
    subst he
    obtain rfl : now = before := ByteArray.ext (Array.toList_inj.1 (hs7.trans HS5.out.symm))
    have H7 := Lib.hid h7
    clear h7 hs7 HRD H6 HD3
    go_wp2
    go_loopw [15, 16] (fun i _ wr => ∃ (k : Nat), k ≤ more.length ∧ i = .int .i64 k ∧ Hid (∃ L d', Held w r L d' (20302 + 302 * k) wr ∧ Dk.Kept d' f X)) (fun i _ _ => more.length - (intOf i).toNat)
    case atStart => exact ⟨0, Nat.zero_le _, rfl, Lib.hid ⟨_, _, H7.out.mono (by omega), HKP.out⟩⟩
    case round =>
      clear H7 HKP
      obtain ⟨k, hkm, rfl, hh⟩ := hrel
      have hlen := HFB.out.1
      obtain ⟨L7, d', hh, hkp⟩ := hh.out
      by_cases hlt : k < more.length
      · obtain ⟨b, off, rfl, hb, hv⟩ := HB.out (by omega)
        obtain ⟨AV, cv, hr, hcc⟩ := hv k hlt
        have v0 := (hh.bel.cell (p := ⟨b, off + k * 5 + 0, none⟩) hb).trans (hcc 0 _ rfl)
        have v1 := (hh.bel.cell (p := ⟨b, off + k * 5 + 1, none⟩) hb).trans (hcc 1 _ rfl)
        have v2 := (hh.bel.cell (p := ⟨b, off + k * 5 + 2, none⟩) hb).trans (hcc 2 _ rfl)
        have v3 := (hh.bel.cell (p := ⟨b, off + k * 5 + 3, none⟩) hb).trans (hcc 3 _ rfl)
        have v4 := (hh.bel.cell (p := ⟨b, off + k * 5 + 4, none⟩) hb).trans (hcc 4 _ rfl)
        rw [Nat.add_zero] at v0
        have hok := HOB.out more[k] (List.getElem_mem hlt)
        have ⟨f1, f2⟩ := HFB.out.2 more[k] (List.getElem_mem hlt)
        clear hcc hv
        generalize more[k] = v at *
        have h7 := and_seven v.k
        have hstep : v.k % 8 < 4 ∧ v.f ≠ f ∨ v.k % 8 = 4 → Dk.Kept (astep d' v).1 f X := fun hor => by
          unfold astep
          refine Dk.kept_step hkp ?_ _ _ _
          rcases hor with ⟨h1, h2⟩ | h1
          · exact .inl ⟨by omega, h2⟩
          · exact .inr (by omega)
        have HST := Lib.hid hstep
        have HC := Lib.hid (hDo hh (by omega) v hok f1 f2 (A := AV) (cap := cv) hr)
        have HH := Lib.hid (And.intro hh hkp)
        have hv0 : 0 ≤ v.k % 8 := by omega
        clear hh hok hr f1 f2 hstep hkp
        generalize v.k % 8 = K at *
        have hi0 : (0 : Int) ≤ (k : Int) := by omega
        have hi1 : (k : Int) < (more.length : Int) := by omega
        by_cases h4 : K < 4
        · by_cases hf : v.f = f
          · go_wp2
            go_roundw
            case rel => exact ⟨k + 1, by omega, by go_num, Lib.hid ⟨_, _, HH.out.1.mono (by omega), HH.out.2⟩⟩
            case measure => simp [intOf]; omega
          · have HN := Lib.hid (HST.out (.inl ⟨h4, hf⟩))
            clear HST HH
            go_wp2_with fail
            refine HC.out.mono ?_
            rintro e w9 ⟨rfl, L9, h9⟩
            have H9 := Lib.hid h9
            clear h9 HC
            go_wp2
            go_roundw
            case rel => exact ⟨k + 1, by omega, by go_num, Lib.hid ⟨_, _, H9.out.mono (by omega), HN.out⟩⟩
            case measure => simp [intOf]; omega
        · by_cases h44 : K = 4
          · subst h44
            have HN := Lib.hid (HST.out (.inr rfl))
            clear HST HH
            go_wp2_with fail
            refine HC.out.mono ?_
            rintro e w9 ⟨rfl, L9, h9⟩
            have H9 := Lib.hid h9
            clear h9 HC
            go_wp2
            go_roundw
            case rel => exact ⟨k + 1, by omega, by go_num, Lib.hid ⟨_, _, H9.out.mono (by omega), HN.out⟩⟩
            case measure => simp [intOf]; omega
          · have h5 : 4 < K := by omega
            go_wp2
            go_roundw
            case rel => exact ⟨k + 1, by omega, by go_num, Lib.hid ⟨_, _, HH.out.1.mono (by omega), HH.out.2⟩⟩
            case measure => simp [intOf]; omega
      · obtain rfl : k = more.length := by omega
        have HH := Lib.hid hh
        have HKK := Lib.hid hkp
        clear hh hkp
        go_wp2_with fail
        refine (hCrash HH.out (by omega) ck HK.out (by omega)).mono ?_
        rintro e w10 ⟨rfl, L10, h10⟩
        have H10 := Lib.hid h10
        clear h10 HH
        go_wp2_with fail
        refine (hStart H10.out).mono ?_
        rintro e w11 ⟨rfl, L11, h11⟩
        have H11 := Lib.hid h11
        clear h11 H10
        have hrd : (d'.crash keep).start.read f 0 16777216 = (X, 0) := by rw [Dk.read_all H11.out.at_.ok HFO.out rfl, (Dk.kept_start (Dk.kept_crash HKK.out keep)).now]
        have HRD := Lib.hid hrd
        clear hrd
        go_wp2_with fail
        refine (hRead H11.out (by omega) H64.out (by unfold In64; omega) (by unfold In64; omega)).mono ?_
        rintro e w12 ⟨s, he, hs12, h12⟩
        rw [HRD.out] at he hs12
        subst he
        obtain rfl : s = now := ByteArray.ext (Array.toList_inj.1 (hs12.trans HS5.out.symm))
        have H12 := Lib.hid h12.bel
        clear h12 hs12 HRD H11 HKK
        go_wp2
        go_ret
        exact ⟨rfl, H12.out⟩
  · have H5 := Lib.hid h5
    subst he
    clear h5 H4 hs5
    generalize (d.read f 0 16777216).2 = c5 at *
    go_wp2_with fail
    refine (hSync H5.out (by omega) H64.out).mono ?_
    rintro e w6 ⟨rfl, L6, h6⟩
    have H6 := Lib.hid h6.bel
    clear h6 H5
    generalize (d.sync f).2 = c at *
    go_wp2
    go_ret
    exact ⟨rfl, H6.out⟩

end Go.Proofs.Ytcjadlokjbeibaa
