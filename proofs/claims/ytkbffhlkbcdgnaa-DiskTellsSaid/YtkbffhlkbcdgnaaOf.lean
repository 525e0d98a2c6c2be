/-
  The walk of DiskTells.
-/
import Derived.Test.YtkbffhlkbcdgnaaOe
import Derived.Deep.RegionLaw
import Derived.BigRegion
set_option linter.unusedVariables false
set_option maxRecDepth 100000
namespace Go.Proofs.Ytkbffhlkbcdgnaa
open Go.RowKit

/-- the program's disk at r and the reference's at r2 are one disk of the model, after k acts. -/
def TInv (W : World) (r2 r k : Nat) (w : World) : Prop :=
  ∃ (L : Lay) (d : Dk) (s : RSt), Held W r L d (302 * k) w ∧ RAt r2 W.heap.size s w ∧ Rep s d ∧ s.fl.length ≤ 400000 * k ∧ s.keep.length ≤ 60

set_option maxHeartbeats 16000000 in
theorem tells_walk (A : Option Addr) (cap : Nat) (l : List DAct) (f at_ size : Int) (w : World) (hl : l.length ≤ 9223372036854775807) (hok : ∀ v ∈ l, ActOk v) (hA : Acts0 w A l) (h64 : In64 f) (ha64 : In64 at_) (hz64 : In64 size) :
    Calls Try.prog 3 #[.slice A l.length cap, .int .i64 f, .int .i64 at_, .int .i64 size] w fun e w' => e = .returned (.bool true) ∧ Below w.heap.size w w' := by
  have HO := Lib.hid hok; clear hok
  have HA := Lib.hid hA; clear hA
  have H64 := Lib.hid h64; clear h64
  have HA64 := Lib.hid ha64; clear ha64
  have HZ64 := Lib.hid hz64; clear hz64
  go_enter Try.func3, Try.ntmps3
  go_wp2_with fail
  refine (small_any w).mono ?_
  rintro e w1 ⟨rfl, b1⟩
  go_wp2_with fail
  refine (few_any A cap l w1 hl HO.out (HA.out.acts.below b1)).mono ?_
  rintro e w2 ⟨b, rfl, hb, b12⟩
  have B2 := Lib.hid (b1.trans (b12.mono b1.size))
  clear b1 b12
  cases b with
  | false =>
    clear hb
    go_wp2
    go_ret
    exact ⟨rfl, B2.out⟩
  | true =>
  have HF := Lib.hid (hb rfl)
  clear hb
  have hl40 := HF.out.1
  go_wp2_with fail
  refine (hNew B2.out).mono ?_
  rintro e w3 ⟨r, L, rfl, hh, _, _⟩
  have H3 := Lib.hid hh
  clear hh B2
  go_wp2_with fail
  refine (rnew_any w.heap.size w3 H3.out.bel.size).mono ?_
  rintro e w4 ⟨rfl, hr4, hb4, _⟩
  have HI : Hid (TInv w w3.heap.size r 0 w4) := Lib.hid ⟨L, _, _, (H3.out.below hb4).mono (by omega), hr4, rep_new, by simp [rNew], by simp [rNew]⟩
  clear hr4 hb4 H3
  generalize w3.heap.size = r2 at *
  go_wp2
  go_loopw [10, 12] (fun dv i wr => ∃ k r, k ≤ l.length ∧ i = .int .i64 k ∧ dv = .pointer (some ⟨r, 0, none⟩) ∧ Hid (TInv w r2 r k wr)) (fun _ i _ => l.length - (intOf i).toNat)
  case atStart => exact ⟨0, r, Nat.zero_le _, rfl, rfl, HI⟩
  case round =>
    clear HI
    obtain ⟨k, r, hk, rfl, rfl, hI⟩ := hrel
    obtain ⟨L, d, s, hH, hR, hrep, hfl, hkp⟩ := hI.out
    by_cases hlt : k < l.length
    · obtain ⟨b, off, rfl, hb, hv⟩ := HA.out (by omega)
      obtain ⟨AK, ck, hz, hr, hc⟩ := hv k hlt
      obtain ⟨AK0, ck0, hz0, hr0, hc0⟩ := hv 0 (by omega)
      have hok := HO.out l[k] (List.getElem_mem hlt)
      have ⟨f1, f2⟩ := HF.out.2 l[k] (List.getElem_mem hlt)
      have hok0 := HO.out l[0] (List.getElem_mem (by omega))
      have ⟨g1, g2⟩ := HF.out.2 l[0] (List.getElem_mem (by omega))
      have VV : Hid (∀ w', Below w.heap.size w w' → w'.cell? ⟨b, off + k * 5, none⟩ = some (.int .i64 l[k].k) ∧ w'.cell? ⟨b, off + k * 5 + 1, none⟩ = some (.int .i64 l[k].f) ∧ w'.cell? ⟨b, off + k * 5 + 2, none⟩ = some (.int .i64 l[k].n) ∧ w'.cell? ⟨b, off + k * 5 + 3, none⟩ = some (.string l[k].s) ∧ w'.cell? ⟨b, off + k * 5 + 4, none⟩ = some (.slice AK l[k].kl.length ck)) := Lib.hid fun w' hb' =>
        ⟨(hb'.cell (p := ⟨b, off + k * 5 + 0, none⟩) hb).trans (hc 0 _ rfl), (hb'.cell (p := ⟨b, off + k * 5 + 1, none⟩) hb).trans (hc 1 _ rfl), (hb'.cell (p := ⟨b, off + k * 5 + 2, none⟩) hb).trans (hc 2 _ rfl), (hb'.cell (p := ⟨b, off + k * 5 + 3, none⟩) hb).trans (hc 3 _ rfl), (hb'.cell (p := ⟨b, off + k * 5 + 4, none⟩) hb).trans (hc 4 _ rfl)⟩
      have V0 : Hid (∀ w', Below w.heap.size w w' → w'.cell? ⟨b, off, none⟩ = some (.int .i64 l[0].k) ∧ w'.cell? ⟨b, off + 1, none⟩ = some (.int .i64 l[0].f) ∧ w'.cell? ⟨b, off + 2, none⟩ = some (.int .i64 l[0].n) ∧ w'.cell? ⟨b, off + 3, none⟩ = some (.string l[0].s) ∧ w'.cell? ⟨b, off + 4, none⟩ = some (.slice AK0 l[0].kl.length ck0)) := Lib.hid fun w' hb' => by
        have h0 := (hb'.cell (p := ⟨b, off + 0 * 5 + 0, none⟩) hb).trans (hc0 0 _ rfl)
        have h1 := (hb'.cell (p := ⟨b, off + 0 * 5 + 1, none⟩) hb).trans (hc0 1 _ rfl)
        have h2 := (hb'.cell (p := ⟨b, off + 0 * 5 + 2, none⟩) hb).trans (hc0 2 _ rfl)
        have h3 := (hb'.cell (p := ⟨b, off + 0 * 5 + 3, none⟩) hb).trans (hc0 3 _ rfl)
        have h4 := (hb'.cell (p := ⟨b, off + 0 * 5 + 4, none⟩) hb).trans (hc0 4 _ rfl)
        simp only [Nat.zero_mul, Nat.add_zero] at h0 h1 h2 h3 h4
        exact ⟨h0, h1, h2, h3, h4⟩
      clear hc hc0 hv
      generalize l[k] = x at *
      generalize l[0] = x0 at *
      have hi0 : (0 : Int) ≤ (k : Int) := by omega
      have hi1 : (k : Int) < (l.length : Int) := by omega
      have hlp : (0 : Int) < (l.length : Int) := by omega
      -- the two steps
      have hd0 : Below wr.heap.size wr wr.drew := ⟨rfl, rfl, rfl, Nat.le_refl _, fun _ _ => rfl⟩
      have hHd := hH.below hd0
      have hRd := hR.below hd0
      have hdq := hH.at_.q
      obtain ⟨hrep1, hres⟩ := rep_step hrep x
      obtain ⟨hfl1, hkp1⟩ := rstep_fl s x f2 hkp
      have hq1 : s.q.length ≤ 302 * k := by rw [hrep.q]; exact hdq
      have hdo := do_any hHd.at_ (by omega) x hok (by omega) (by omega) (hr.krd hHd.bel hHd.own ck)
      have htl : ∀ w2 L2, DAt r L2 (astep d x).1 (302 * k + x.s.size + 2) w2 → PStep r L L2 wr.drew w2 → Calls Try.prog 9 #[.pointer (some ⟨r2, 0, none⟩), .agg #[.int .i64 x.k, .int .i64 x.f, .int .i64 x.n, .string x.s, .slice AK x.kl.length ck]] w2 (fun e w3 => e = .returned (.int .i64 (astep d x).2) ∧ RAt r2 w.heap.size (rstep s x).1 w3 ∧ RFr w.heap.size w2 w3) := fun w2 L2 hd2 k2 => by
        have hr2 := hRd.step hHd.at_ k2
        have hh2 := hHd.step hd2 k2
        have hrb := rb_of hrep hH.at_.ok (by omega) (by omega) hkp
        have := tell_any r2 w.heap.size s w2 hr2 hrb (by rw [hrep.armed]; exact hH.at_.armed) (by rw [(come_all s 0 0 []).2.2, hrep.lost]; exact hH.at_.lost) x hok f1 f2 (A := AK) (cap := ck) ((hr.krow (RFr.refl _ _)).kept (RFr.of_below hh2.bel)) (fun e => ⟨by
          by_cases c : 0 < x.kl.length
          · obtain ⟨_, _, e2, _⟩ := hr c
            rw [e] at e2; cases e2
          · exact List.eq_nil_of_length_eq_zero (by omega), hz e⟩) hh2.bel.size
        refine this.mono ?_
        rintro e w3 ⟨he, h1, h2⟩
        exact ⟨he.trans (by rw [hres]), h1, h2⟩
      have hdw : (rstep s x).1.down = (astep d x).1.down := hrep1.down
      have hnw : (((rget (rstep s x).1.fl f).2.1.size : Nat) : Int) = (((astep d x).1.now f).length : Int) := by rw [← hrep1.now f]; simp
      have HDO := Lib.hid hdo
      have HTL := Lib.hid htl
      have HREP := Lib.hid hrep1
      have HHD := Lib.hid hHd
      have HFL := Lib.hid (And.intro hfl1 hkp1)
      have hfl2 : (rstep s x).1.fl.length ≤ 400000 * (k + 1) := by omega
      have hDN : ∀ w3 s3, RAt r2 w.heap.size s3 w3 → s3 = (rstep s x).1 → Calls Try.prog 11 #[.pointer (some ⟨r2, 0, none⟩)] w3 (fun e w' => e = .returned (.bool (astep d x).1.down) ∧ w' = w3) := fun w3 s3 h e => by
        subst e
        have := rDown_any r2 w.heap.size _ w3 h
        rw [hdw] at this
        exact this
      have hSZ : ∀ w3 s3, RAt r2 w.heap.size s3 w3 → s3 = (rstep s x).1 → Calls Try.prog 13 #[.pointer (some ⟨r2, 0, none⟩), .int .i64 f] w3 (fun e w' => e = .returned (.int .i64 (((astep d x).1.now f).length : Int)) ∧ Below w3.heap.size w3 w') := fun w3 s3 h e => by
        subst e
        have := rSize_any r2 w.heap.size _ f w3 h (by omega)
        rw [hnw] at this
        exact this
      have HDN := Lib.hid hDN
      have HSZ := Lib.hid hSZ
      obtain ⟨e0, e1, e2, e3, e4⟩ := VV.out wr hH.bel
      have HK2L := Lib.hid hkp1
      clear hdo htl hrep1 hHd hRd hfl1 hkp1 hres hdw hnw hDN hSZ hH hR hrep hfl hkp hI hd0 hdq hq1 hr hok HFL
      generalize (rstep s x).1 = s1 at *
      generalize (astep d x).2 = c at *
      generalize (astep d x).1 = d1 at *
      go_wp2
      go_region_law (first
        | (go_simp; go_at_call 8; (with_reducible refine HDO.out.mono ?_); rintro e w2 ⟨rfl, L2, hd2, k2⟩; have HX2 := Lib.hid (HHD.out.step hd2 k2); have HT2 := Lib.hid (HTL.out w2 L2 hd2 k2); obtain ⟨t0, t1, t2, t3, t4⟩ := VV.out w2 HX2.out.bel; clear hd2 k2)
        | (go_simp; go_at_call 9; (with_reducible refine HT2.out.mono ?_); rintro e w3 ⟨rfl, hr3, hf3⟩; have HX3 := Lib.hid (HX2.out.ref hf3); have HR3 := Lib.hid hr3; clear hr3 hf3)
        | (go_simp; go_at_call 10; (with_reducible refine (mDown HX3.out.at_).mono ?_); rintro e w4 ⟨rfl, rfl⟩)
        | (go_simp; go_at_call 11; (with_reducible refine (HDN.out _ _ HR3.out rfl).mono ?_); rintro e w4 ⟨rfl, rfl⟩)
        | (go_simp; go_at_call 12; (with_reducible refine (mSize HX3.out.at_ H64.out).mono ?_); rintro e w4 ⟨rfl, rfl⟩)
        | (go_simp; go_at_call 13; (with_reducible refine (HSZ.out _ _ HR3.out rfl).mono ?_); rintro e w5 ⟨rfl, hb5⟩; have HX5 := Lib.hid (HX3.out.below hb5); have HR5 := Lib.hid (HR3.out.below hb5); clear hb5))
      all_goals
        have HX6 := Lib.hid (HX5.out.mono (m := 302 * (k + 1)) (by omega))
        clear HX5 HX3 HX2 HT2 HR3 HTL HDO HHD HDN HSZ
        by_cases hh : k = l.length / 2
        · have hq : (k : Int) = (l.length : Int) / 2 := by omega
          have hqb : ((k : Int) == (l.length : Int) / 2) = true := by simpa using hq
          go_wp2_with fail
          refine (mCopy HX6.out.at_ (by omega)).mono ?_
          rintro e w6 ⟨r3, L3, rfl, hd3, hb3, ho3⟩
          have HP := Lib.hid (HX6.out.pair ⟨hd3, hb3, ho3⟩)
          have HR6 := Lib.hid (HR5.out.below hb3)
          obtain ⟨z0, z1, z2, z3, z4⟩ := V0.out w6 HP.out.one.bel
          clear hd3 hb3 ho3 HX6 HR5
          go_wp2_with fail
          refine (do_any HP.out.one.at_ (by omega) x0 hok0 (by omega) (by omega) (hr0.krd HP.out.one.bel HP.out.one.own ck0)).mono ?_
          rintro e w7 ⟨rfl, L7, hd7, k7⟩
          have HP7 := Lib.hid (HP.out.step hd7 k7)
          have HR7 := Lib.hid (HR6.out.step HP.out.one.at_ k7)
          clear hd7 k7 HP HR6 z0 z1 z2 z3 z4
          go_wp2_with fail
          refine (mSync HP7.out.one.at_ (by omega) H64.out).mono ?_
          rintro e w8 ⟨rfl, L8, hd8, k8⟩
          have HP8 := Lib.hid (HP7.out.step hd8 k8)
          have HR8 := Lib.hid (HR7.out.step HP7.out.one.at_ k8)
          clear hd8 k8 HP7 HR7
          go_wp2
          go_roundw
          case rel => exact ⟨k + 1, r3, by omega, by go_num, rfl, Lib.hid ⟨L3, d1, s1, HP8.out.two, HR8.out, HREP.out, hfl2, HK2L.out⟩⟩
          case measure => simp [intOf]; omega
        · have hq : (k : Int) ≠ (l.length : Int) / 2 := by omega
          have hqb : ((k : Int) == (l.length : Int) / 2) = false := by simpa using hq
          go_wp2
          go_roundw
          case rel => exact ⟨k + 1, r, by omega, by go_num, rfl, Lib.hid ⟨_, d1, s1, HX6.out, HR5.out, HREP.out, hfl2, HK2L.out⟩⟩
          case measure => simp [intOf]; omega
    · obtain rfl : k = l.length := by omega
      have hrr := rep_read hrep f at_ size
      have hbg : (rget s.fl f).2.1.size ≤ 16777216 := by
        have h1 : (rget s.fl f).2.1.size = (d.now f).length := by rw [← hrep.now f]; simp
        have := hH.at_.ok.big f
        omega
      have HH := Lib.hid hH
      have HR := Lib.hid hR
      have HRR := Lib.hid hrr
      clear hH hR hrr hI hrep
      go_wp2_with fail
      refine (mRead HH.out.at_ (by omega) H64.out HA64.out HZ64.out).mono ?_
      rintro e w2 ⟨sa, rfl, hsa, hb2⟩
      have HH2 := Lib.hid (HH.out.below hb2)
      have HRX := Lib.hid (rread_any r2 w.heap.size s f at_ size w2 (HR.out.below hb2) (by omega) HA64.out HZ64.out hbg)
      have HSA := Lib.hid hsa
      clear hb2 hsa HH HR
      go_wp2_with fail
      refine HRX.out.mono ?_
      rintro e w3 ⟨⟨sb, he, hsb⟩, hb3⟩
      rw [HRR.out] at he hsb
      obtain rfl : sb = sa := ByteArray.ext (Array.toList_inj.1 (hsb.trans HSA.out.symm))
      subst he
      have HZ := Lib.hid (HH2.out.below hb3).bel
      clear hsb hb3 HRX HH2 HRR HSA
      generalize (d.read f at_ size).2 = c at *
      go_wp2
      go_ret
      exact ⟨rfl, HZ.out⟩

end Go.Proofs.Ytkbffhlkbcdgnaa
