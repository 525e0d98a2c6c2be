/-
  The walk of DiskArms.
-/
import Derived.Test.YtcjadlokjbeibaaNp
set_option linter.unusedVariables false
namespace Go.Proofs.Ytcjadlokjbeibaa
open Go.RowKit

section
variable {W : World} {r : Nat} {L : Lay} {d : Dk} {n : Nat} {r2 : Nat} {L2 : Lay} {c : Dk} {n2 : Nat} {w : World}
theorem pairDo (h : Pair W r L d n r2 L2 c n2 w) (hn : n ≤ 137438953472) (x : DAct) (hx : ActOk x) (hs : x.s.size ≤ 300) (hk : x.kl.length ≤ 60) {A : Option Addr} {cap : Nat} (hr : JRow W A x.kl) :
    Calls Try.prog 12 #[.pointer (some ⟨r, 0, none⟩), .agg #[.int .i64 x.k, .int .i64 x.f, .int .i64 x.n, .string x.s, .slice A x.kl.length cap]] w fun e w' => e = .returned (.int .i64 (astep d x).2) ∧ ∃ L', Pair W r L' (astep d x).1 (n + 302) r2 L2 c n2 w' :=
  (do_any h.one.at_ hn x hx (by omega) (by omega) (hr.krd h.one.bel h.one.own cap)).mono fun e w' ⟨he, L', hd, hs'⟩ => ⟨he, L', (h.step hd hs').mono (by omega)⟩
theorem pairCrash (h : Pair W r L d n r2 L2 c n2 w) (hn : n ≤ 137438953472) {A : Option Addr} {l : List Int} (cap : Nat) (hr : JRow W A l) (hl : l.length ≤ 60) :
    Calls Try.prog 25 #[.pointer (some ⟨r, 0, none⟩), .slice A l.length cap] w fun e w' => e = .returned (.tuple #[]) ∧ ∃ L', Pair W r L' (d.crash l) n r2 L2 c n2 w' :=
  (mCrash h.one.at_ hn (hr.krd h.one.bel h.one.own cap) (by omega)).mono fun e w' ⟨he, L', hd, hs'⟩ => ⟨he, L', h.step hd hs'⟩
theorem pairStart (h : Pair W r L d n r2 L2 c n2 w) : Calls Try.prog 26 #[.pointer (some ⟨r, 0, none⟩)] w fun e w' => e = .returned (.tuple #[]) ∧ ∃ L', Pair W r L' d.start n r2 L2 c n2 w' :=
  (mStart h.one.at_).mono fun e w' ⟨he, L', hd, hs'⟩ => ⟨he, L', h.step hd hs'⟩
end

/-- ahead of the crash, and behind it. -/
def Ahead (n : Int) (keep : List Int) (ct : Nat) (d c : Dk) : Prop := (ct : Int) < n ∧ Dk.Alike d c ∧ d.armed = n.toNat - ct ∧ d.keep = keep
def Behind (n : Int) (ct : Nat) (d c : Dk) : Prop := n ≤ (ct : Int) ∧ d.down = true ∧ c.down = true ∧ d.now = c.now
theorem ahead_lose {n : Int} {keep : List Int} {ct : Nat} {d c : Dk} (h : Ahead n keep ct d c) (x : DAct) (hk : x.k % 8 = 4) : Ahead n keep ct (astep d x).1 (astep c x).1 ∧ (astep c x).2 = (astep d x).2 := by
  unfold astep
  rw [hk]
  obtain ⟨h1, h2, h3, h4⟩ := Dk.arms_lose h.2.1 x.f x.n x.s.data.toList x.kl
  exact ⟨⟨h.1, h1, h3.trans h.2.2.1, h4.trans h.2.2.2⟩, h2.symm⟩
theorem ahead_early {n : Int} {keep : List Int} {ct : Nat} {d c : Dk} (h : Ahead n keep ct d c) (x : DAct) (hk : x.k % 8 < 4) (hn : (ct : Int) + 1 < n) : Ahead n keep (ct + 1) (astep d x).1 (astep c x).1 ∧ (astep c x).2 = (astep d x).2 := by
  unfold astep
  have ha := h.2.2.1
  obtain ⟨h1, h2, h3, h4⟩ := Dk.arms_early h.2.1 (by omega) (k := (x.k % 8).toNat) (by omega) x.f x.n x.s.data.toList x.kl
  exact ⟨⟨by omega, h1, by rw [h3]; omega, h4.trans h.2.2.2⟩, h2.symm⟩
theorem ahead_hitw {n : Int} {keep : List Int} {ct : Nat} {d c : Dk} (h : Ahead n keep ct d c) (x : DAct) (hk : x.k % 8 < 2) (hn : (ct : Int) + 1 = n) : Behind n (ct + 1) (astep d x).1 ((astep c x).1.crash keep) ∧ (astep d x).2 = 8 := by
  unfold astep
  have ha := h.2.2.1
  obtain ⟨h1, h2, h3, h4⟩ := Dk.arms_hit_write h.2.1 (by omega) (k := (x.k % 8).toNat) (by omega) x.f x.n x.s.data.toList x.kl
  rw [h.2.2.2] at h3 h4
  exact ⟨⟨by omega, h2, h4, h3⟩, h1⟩
theorem ahead_hito {n : Int} {keep : List Int} {ct : Nat} {d c : Dk} (h : Ahead n keep ct d c) (x : DAct) (hk : x.k % 8 = 2 ∨ x.k % 8 = 3) (hn : (ct : Int) + 1 = n) : Behind n (ct + 1) (astep d x).1 (c.crash keep) ∧ (astep d x).2 = 8 := by
  unfold astep
  have ha := h.2.2.1
  obtain ⟨h1, h2, h3, h4⟩ := Dk.arms_hit_other h.2.1 (by omega) (k := (x.k % 8).toNat) (by omega) x.f x.n x.s.data.toList x.kl
  rw [h.2.2.2] at h3 h4
  exact ⟨⟨by omega, h2, h4, h3⟩, h1⟩
theorem behind_step {n : Int} {ct : Nat} {d c : Dk} (h : Behind n ct d c) (x : DAct) (hk : x.k % 8 < 5) (h0 : 0 ≤ x.k % 8) : (∀ ct' : Nat, ct ≤ ct' → Behind n ct' (astep d x).1 c) ∧ (x.k % 8 < 4 → (astep d x).2 = 8) := by
  unfold astep
  obtain ⟨h1, h2, h3⟩ := Dk.arms_down h.2.1 (k := (x.k % 8).toNat) (by omega) x.f x.n x.s.data.toList x.kl
  exact ⟨fun ct' hc => ⟨by have := h.1; omega, h2, h.2.2.1, h3.trans h.2.2.2⟩, fun hk4 => h1 (by omega)⟩
theorem phase_same {n : Int} {keep : List Int} {ct : Nat} {d c : Dk} (h : Ahead n keep ct d c ∨ Behind n ct d c) : d.down = c.down ∧ d.now = c.now := by
  rcases h with h | h
  · exact ⟨h.2.1.up.trans h.2.1.up2.symm, h.2.1.now⟩
  · exact ⟨h.2.1.trans h.2.2.1.symm, h.2.2.2⟩

set_option maxRecDepth 100000 in
set_option maxHeartbeats 16000000 in
theorem arms_walk (A : Option Addr) (cap : Nat) (l : List DAct) (n : Int) (AK : Option Addr) (ck : Nat) (keep : List Int) (w : World)
    (hl : l.length ≤ 9223372036854775807) (hok : ∀ v ∈ l, ActOk v) (hA : Acts w A l) (hn64 : In64 n) (hK : JRow w AK keep) (hKl : keep.length ≤ 9223372036854775807) :
    Calls Try.prog 6 #[.slice A l.length cap, .int .i64 n, .slice AK keep.length ck] w fun e w' => e = .returned (.bool true) ∧ Below w.heap.size w w' := by
  have HO := Lib.hid hok; clear hok
  have HA := Lib.hid hA; clear hA
  have HK := Lib.hid hK; clear hK
  go_enter Try.func6, Try.ntmps6
  go_wp2_with fail
  refine (small_any w).mono ?_
  rintro e w1 ⟨rfl, b1⟩
  go_wp2_with fail
  refine (few_any A cap l w1 hl HO.out (HA.out.below b1)).mono ?_
  rintro e w2 ⟨b, rfl, hb, b12⟩
  have B2 := Lib.hid (b1.trans (b12.mono b1.size))
  clear b1 b12
  cases b with
  | false =>
    clear hb
    go_wp2
    go_ret
    exact ⟨rfl, B2.out⟩
  | true =>
  have HF := Lib.hid (hb rfl)
  clear hb
  by_cases hk : 60 < keep.length
  · have hk' : (60 : Int) < (keep.length : Int) := by omega
    go_wp2
    go_ret
    exact ⟨rfl, B2.out⟩
  have hk' : (keep.length : Int) ≤ 60 := by omega
  by_cases hn1 : n < 1
  · go_wp2
    go_ret
    exact ⟨rfl, B2.out⟩
  have hn1' : 1 ≤ n := by omega
  by_cases hn6 : 60 < n
  · go_wp2
    go_ret
    exact ⟨rfl, B2.out⟩
  have hn6' : n ≤ 60 := by omega
  clear hn1 hn6 hk
  have HN64 := Lib.hid hn64
  clear hn64
  go_wp2_with fail
  refine (hNew B2.out).mono ?_
  rintro e w3 ⟨r, L, rfl, h3, bb3, ho3⟩
  have H3 := Lib.hid h3
  clear h3 bb3 ho3 B2
  go_wp2_with fail
  refine (hNew H3.out.bel).mono ?_
  rintro e w4 ⟨r2, L2, rfl, h4, bb4, ho4⟩
  have H4 : Hid (Pair w r L Dk.new 0 r2 L2 Dk.new 0 w4) := Lib.hid ⟨H3.out.below bb4, h4, fun b h1 h2 => by
    have := H3.out.at_.own_lt h1
    have := ho4 b h2
    omega⟩
  clear h4 bb4 ho4 H3
  go_wp2_with fail
  refine (mArm H4.out.one.at_ HN64.out (HK.out.krd H4.out.one.bel H4.out.one.own ck).irow (by omega)).mono ?_
  rintro e w5 ⟨rfl, L5, hd5, hs5⟩
  have H5 := Lib.hid (H4.out.step hd5 hs5)
  clear hd5 hs5 H4
  have hlen := HF.out.1
  go_wp2
  go_loopw [10, 11, 12, 13] (fun ctv i _ _ wr => ∃ (k ct : Nat), k ≤ l.length ∧ ct ≤ k ∧ i = .int .i64 k ∧ ctv = .int .i64 ct ∧ Hid (∃ L d L2 c, Pair w r L d (302 * k) r2 L2 c (302 * k) wr ∧ (Ahead n keep ct d c ∨ Behind n ct d c))) (fun _ i _ _ _ => l.length - (intOf i).toNat)
  case atStart => exact ⟨0, 0, Nat.zero_le _, Nat.le_refl _, rfl, rfl, Lib.hid ⟨_, _, _, _, H5.out, .inl ⟨by omega, Dk.alike_new n keep, rfl, rfl⟩⟩⟩
  case round =>
    clear H5 L5 L L2
    obtain ⟨k, ct, hkl, hctk, rfl, rfl, hh⟩ := hrel
    obtain ⟨L, d, L2, c, hp, hph⟩ := hh.out
    clear hh
    by_cases hlt : k < l.length
    · obtain ⟨b, off, rfl, hb, hv⟩ := HA.out (by omega)
      obtain ⟨AV, cv, hr, hcc⟩ := hv k hlt
      have HCELL : Hid (∀ w', Below w.heap.size w w' → w'.cell? ⟨b, off + k * 5, none⟩ = some (.int .i64 l[k].k) ∧ w'.cell? ⟨b, off + k * 5 + 1, none⟩ = some (.int .i64 l[k].f) ∧ w'.cell? ⟨b, off + k * 5 + 2, none⟩ = some (.int .i64 l[k].n) ∧ w'.cell? ⟨b, off + k * 5 + 3, none⟩ = some (.string l[k].s) ∧ w'.cell? ⟨b, off + k * 5 + 4, none⟩ = some (.slice AV l[k].kl.length cv)) :=
        Lib.hid fun w' hbel => ⟨(hbel.cell (p := ⟨b, off + k * 5, none⟩) hb).trans (hcc 0 _ rfl), (hbel.cell (p := ⟨b, off + k * 5 + 1, none⟩) hb).trans (hcc 1 _ rfl), (hbel.cell (p := ⟨b, off + k * 5 + 2, none⟩) hb).trans (hcc 2 _ rfl), (hbel.cell (p := ⟨b, off + k * 5 + 3, none⟩) hb).trans (hcc 3 _ rfl), (hbel.cell (p := ⟨b, off + k * 5 + 4, none⟩) hb).trans (hcc 4 _ rfl)⟩
      have HOK := Lib.hid (HO.out l[k] (List.getElem_mem hlt))
      have HFF := Lib.hid (HF.out.2 l[k] (List.getElem_mem hlt))
      have HR := Lib.hid hr
      clear hcc hv hr hb
      generalize l[k] = v at *
      have h7 := and_seven v.k
      have hK0 : 0 ≤ v.k % 8 := by omega
      have H := Lib.hid hp
      clear hp
      have hi0 : (0 : Int) ≤ (k : Int) := by omega
      have hi1 : (k : Int) < (l.length : Int) := by omega
      obtain ⟨v0, v1, v2, v3, v4⟩ := HCELL.out _ H.out.one.bel
      by_cases h5 : 4 < v.k % 8
      · generalize v.k % 8 = K at *
        go_wp2
        go_ret
        exact ⟨rfl, H.out.one.bel⟩
      have h5' : v.k % 8 ≤ 4 := by omega
      clear h5
      have HC := Lib.hid (pairDo H.out (by omega) v HOK.out HFF.out.1 HFF.out.2 (A := AV) (cap := cv) HR.out)
      rcases hph with hph | hph
      · have hctn := hph.1
        by_cases h4 : v.k % 8 = 4
        · obtain ⟨g1, g2⟩ := ahead_lose hph v h4
          have G1 := Lib.hid g1
          have G2 := Lib.hid g2
          rw [h4] at h7
          clear g1 g2 hph h4 h5' hK0 H
          go_wp2_with fail
          refine HC.out.mono ?_
          rintro e w6 ⟨rfl, L6, h6⟩
          have H6 := Lib.hid h6
          clear h6 HC v0 v1 v2 v3 v4
          obtain ⟨v0, v1, v2, v3, v4⟩ := HCELL.out _ H6.out.one.bel
          have HC2 := Lib.hid (pairDo H6.out.swap (by omega) v HOK.out HFF.out.1 HFF.out.2 (A := AV) (cap := cv) HR.out)
          clear H6
          go_wp2_with fail
          refine HC2.out.mono ?_
          rintro e w7 ⟨he, L7, h7'⟩
          obtain rfl := ret_is he G2.out
          have H7 := Lib.hid h7'.swap
          clear h7' HC2 he v0 v1 v2 v3 v4
          go_wp2
          go_roundw
          case rel => exact ⟨k + 1, ct, by omega, by omega, by go_num, rfl, Lib.hid ⟨_, _, _, _, H7.out, .inl G1.out⟩⟩
          case measure => simp [intOf]; omega
        have h4' : v.k % 8 < 4 := by omega
        by_cases hc : (ct : Int) + 1 < n
        · obtain ⟨g1, g2⟩ := ahead_early hph v h4' hc
          have G1 := Lib.hid g1
          have G2 := Lib.hid g2
          clear g1 g2 hph h4 H
          generalize v.k % 8 = K at *
          go_wp2_with fail
          refine HC.out.mono ?_
          rintro e w6 ⟨rfl, L6, h6⟩
          have H6 := Lib.hid h6
          clear h6 HC v0 v1 v2 v3 v4
          obtain ⟨v0, v1, v2, v3, v4⟩ := HCELL.out _ H6.out.one.bel
          have HC2 := Lib.hid (pairDo H6.out.swap (by omega) v HOK.out HFF.out.1 HFF.out.2 (A := AV) (cap := cv) HR.out)
          clear H6
          go_wp2_with fail
          refine HC2.out.mono ?_
          rintro e w7 ⟨he, L7, h7'⟩
          obtain rfl := ret_is he G2.out
          have H7 := Lib.hid h7'.swap
          clear h7' HC2 he v0 v1 v2 v3 v4
          go_wp2
          go_roundw
          case rel => exact ⟨k + 1, ct + 1, by omega, by omega, by go_num, by go_num, Lib.hid ⟨_, _, _, _, H7.out, .inl G1.out⟩⟩
          case measure => simp [intOf]; omega
        have hc' : (ct : Int) + 1 = n := by omega
        subst hc'
        by_cases h2 : v.k % 8 < 2
        · obtain ⟨g1, g2⟩ := ahead_hitw hph v h2 rfl
          have G1 := Lib.hid g1
          have G2 := Lib.hid g2
          clear g1 g2 hph h4 H hc
          generalize v.k % 8 = K at *
          go_wp2_with fail
          refine HC.out.mono ?_
          rintro e w6 ⟨he, L6, h6⟩
          obtain rfl := ret_is he G2.out
          have H6 := Lib.hid h6
          clear h6 HC he v0 v1 v2 v3 v4
          obtain ⟨v0, v1, v2, v3, v4⟩ := HCELL.out _ H6.out.one.bel
          have HC2 := Lib.hid (pairDo H6.out.swap (by omega) v HOK.out HFF.out.1 HFF.out.2 (A := AV) (cap := cv) HR.out)
          clear H6
          go_wp2_with fail
          refine HC2.out.mono ?_
          rintro e w7 ⟨rfl, L7, h7'⟩
          have HC3 := Lib.hid (pairCrash h7' (by omega) ck HK.out (by omega))
          clear h7' HC2 v0 v1 v2 v3 v4
          go_wp2_with fail
          refine HC3.out.mono ?_
          rintro e w8 ⟨rfl, L8, h8⟩
          have H8 := Lib.hid h8.swap
          clear h8 HC3
          go_wp2_with fail
          refine (mDown H8.out.one.at_).mono ?_
          rintro e w9 ⟨he, rfl⟩
          obtain rfl : e = .returned (.bool true) := by rw [he, G1.out.2.1]
          go_wp2
          go_roundw
          case rel => exact ⟨k + 1, ct + 1, by omega, by omega, by go_num, by go_num, Lib.hid ⟨_, _, _, _, H8.out.mono (by omega), .inr G1.out⟩⟩
          case measure => simp [intOf]; omega
        · have h2' : 2 ≤ v.k % 8 := by omega
          obtain ⟨g1, g2⟩ := ahead_hito hph v (by omega) rfl
          have G1 := Lib.hid g1
          have G2 := Lib.hid g2
          clear g1 g2 hph h4 H hc h2
          generalize v.k % 8 = K at *
          go_wp2_with fail
          refine HC.out.mono ?_
          rintro e w6 ⟨he, L6, h6⟩
          obtain rfl := ret_is he G2.out
          have HC3 := Lib.hid (pairCrash h6.swap (by omega) ck HK.out (by omega))
          clear h6 HC he v0 v1 v2 v3 v4
          go_wp2_with fail
          refine HC3.out.mono ?_
          rintro e w8 ⟨rfl, L8, h8⟩
          have H8 := Lib.hid h8.swap
          clear h8 HC3
          go_wp2_with fail
          refine (mDown H8.out.one.at_).mono ?_
          rintro e w9 ⟨he, rfl⟩
          obtain rfl : e = .returned (.bool true) := by rw [he, G1.out.2.1]
          go_wp2
          go_roundw
          case rel => exact ⟨k + 1, ct + 1, by omega, by omega, by go_num, by go_num, Lib.hid ⟨_, _, _, _, (H8.out.swap.mono (n' := 302 * (k + 1)) (by omega)).swap.mono (by omega), .inr G1.out⟩⟩
          case measure => simp [intOf]; omega
      · have hctn := hph.1
        obtain ⟨g1, g2⟩ := behind_step hph v (by omega) hK0
        have G1 := Lib.hid g1
        have G2 := Lib.hid g2
        have hdn := (g1 ct (Nat.le_refl _)).2.1
        have HDN := Lib.hid hdn
        clear g1 g2 hph H hdn
        by_cases h4 : v.k % 8 = 4
        · rw [h4] at h7
          clear G2 h4 h5' hK0
          by_cases hcn : (ct : Int) = n
          · subst hcn
            go_wp2_with fail
            refine HC.out.mono ?_
            rintro e w6 ⟨rfl, L6, h6⟩
            have H6 := Lib.hid h6
            clear h6 HC v0 v1 v2 v3 v4
            generalize (astep d v).2 = e2 at *
            go_wp2_with fail
            refine (mDown H6.out.one.at_).mono ?_
            rintro e w9 ⟨he, rfl⟩
            obtain rfl : e = .returned (.bool true) := by rw [he, HDN.out]
            clear he
            go_wp2_with fail
            refine (mDown H6.out.one.at_).mono ?_
            rintro e w9 ⟨he, rfl⟩
            obtain rfl : e = .returned (.bool true) := by rw [he, HDN.out]
            clear he
            go_wp2
            go_roundw
            case rel => exact ⟨k + 1, ct, by omega, by omega, by go_num, rfl, Lib.hid ⟨_, _, _, _, (H6.out.swap.mono (n' := 302 * (k + 1)) (by omega)).swap.mono (by omega), .inr (G1.out ct (Nat.le_refl _))⟩⟩
            case measure => simp [intOf]; omega
          · have hcn' : n < (ct : Int) := by omega
            go_wp2_with fail
            refine HC.out.mono ?_
            rintro e w6 ⟨rfl, L6, h6⟩
            have H6 := Lib.hid h6
            clear h6 HC v0 v1 v2 v3 v4
            generalize (astep d v).2 = e2 at *
            go_wp2_with fail
            refine (mDown H6.out.one.at_).mono ?_
            rintro e w9 ⟨he, rfl⟩
            obtain rfl : e = .returned (.bool true) := by rw [he, HDN.out]
            clear he
            go_wp2
            go_roundw
            case rel => exact ⟨k + 1, ct, by omega, by omega, by go_num, rfl, Lib.hid ⟨_, _, _, _, (H6.out.swap.mono (n' := 302 * (k + 1)) (by omega)).swap.mono (by omega), .inr (G1.out ct (Nat.le_refl _))⟩⟩
            case measure => simp [intOf]; omega
        · have h4' : v.k % 8 < 4 := by omega
          have he8 := G2.out h4'
          have HE8 := Lib.hid he8
          clear he8 G2 h4
          generalize v.k % 8 = K at *
          have hcn' : n < (ct : Int) + 1 := by omega
          go_wp2_with fail
          refine HC.out.mono ?_
          rintro e w6 ⟨he, L6, h6⟩
          obtain rfl := ret_is he HE8.out
          have H6 := Lib.hid h6
          clear h6 HC he v0 v1 v2 v3 v4
          go_wp2_with fail
          refine (mDown H6.out.one.at_).mono ?_
          rintro e w9 ⟨he, rfl⟩
          obtain rfl : e = .returned (.bool true) := by rw [he, HDN.out]
          clear he
          go_wp2
          go_roundw
          case rel => exact ⟨k + 1, ct + 1, by omega, by omega, by go_num, by go_num, Lib.hid ⟨_, _, _, _, (H6.out.swap.mono (n' := 302 * (k + 1)) (by omega)).swap.mono (by omega), .inr (G1.out (ct + 1) (by omega))⟩⟩
          case measure => simp [intOf]; omega
    · obtain rfl : k = l.length := by omega
      obtain ⟨s1, s2⟩ := phase_same hph
      have H := Lib.hid hp
      clear hp hph
      have HS := Lib.hid (same_any H.out (by omega) (by omega) s1 s2 A cap l hl HO.out HA.out)
      clear H
      go_wp2_with fail
      refine HS.out.mono ?_
      rintro e w6 ⟨rfl, h6⟩
      have HC1 := Lib.hid (pairStart h6)
      clear h6 HS
      go_wp2_with fail
      refine HC1.out.mono ?_
      rintro e w7 ⟨rfl, L7, h7⟩
      have HC2 := Lib.hid (pairStart h7.swap)
      clear h7 HC1
      go_wp2_with fail
      refine HC2.out.mono ?_
      rintro e w8 ⟨rfl, L8, h8⟩
      have HS2 := Lib.hid (same_any h8.swap (by omega) (by omega) rfl s2 A cap l hl HO.out HA.out)
      clear h8 HC2
      go_wp2_with fail
      refine HS2.out.mono ?_
      rintro e w9 ⟨rfl, h9⟩
      have H9 := Lib.hid h9.one.bel
      clear h9 HS2
      go_wp2
      go_ret
      exact ⟨rfl, H9.out⟩

end Go.Proofs.Ytcjadlokjbeibaa
