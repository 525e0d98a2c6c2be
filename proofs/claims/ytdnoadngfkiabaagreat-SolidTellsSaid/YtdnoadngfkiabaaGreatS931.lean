/-
  Contracts of the reference of layer 9, 1: Right.
-/
import Derived.Test.YtdnoadngfkiabaaGreatS921
import Derived.Test.YtdnoadngfkiabaaGreatS929
set_option linter.unusedVariables false
set_option maxRecDepth 100000
namespace Go.Proofs.YtdnoadngfkiabaaGreat
open Go.RowKit

def Rw9 (b o : Nat) (u : Sl) (A : Option Addr) (n c : Nat) (w0 w : World) : Prop := w.cell? ⟨b, o, none⟩ = some (.int .i64 u.z0) ∧ w.cell? ⟨b, o + 1, none⟩ = some (.int .i64 u.z1) ∧ w.cell? ⟨b, o + 2, none⟩ = some (.slice A n c) ∧ b < w.heap.size ∧ Hid (Below w0.heap.size w0 w)
theorem Rw9.go {b o : Nat} {u : Sl} {A : Option Addr} {n c : Nat} {w0 w w' : World} (h : Rw9 b o u A n c w0 w) (hb : Below w.heap.size w w') : Rw9 b o u A n c w0 w' := by
  obtain ⟨h0, h1, h2, h6, h8⟩ := h
  have cp := fun i => hb.cell (p := ⟨b, i, none⟩) h6
  exact ⟨(cp _).trans h0, (cp _).trans h1, (cp _).trans h2, Nat.lt_of_lt_of_le h6 hb.size, Lib.hid (h8.out.trans (hb.mono h8.out.size))⟩
theorem Rw9.drewN {b o : Nat} {u : Sl} {A : Option Addr} {n c : Nat} {w0 w : World} (h : Rw9 b o u A n c w0 w) (k : Nat) : Rw9 b o u A n c w0 (w.drewN k) := h.go (below_drewN (Below.refl _ _) k)
def Sx9 (b o p : Nat) (u v : Sl) (A1 : Option Addr) (n1 c1 : Nat) (A2 : Option Addr) (n2 c2 : Nat) (w0 w : World) : Prop := w.cell? ⟨b, o, none⟩ = some (.int .i64 u.z0) ∧ w.cell? ⟨b, o + 1, none⟩ = some (.int .i64 u.z1) ∧ w.cell? ⟨b, o + 2, none⟩ = some (.slice A1 n1 c1) ∧ w.cell? ⟨b, p, none⟩ = some (.int .i64 v.z0) ∧ w.cell? ⟨b, p + 1, none⟩ = some (.int .i64 v.z1) ∧ w.cell? ⟨b, p + 2, none⟩ = some (.slice A2 n2 c2) ∧ b < w.heap.size ∧ b < w.heap.size ∧ Hid (Below w0.heap.size w0 w)
theorem Sx9.go {b o p : Nat} {u v : Sl} {A1 : Option Addr} {n1 c1 : Nat} {A2 : Option Addr} {n2 c2 : Nat} {w0 w w' : World} (h : Sx9 b o p u v A1 n1 c1 A2 n2 c2 w0 w) (hb : Below w.heap.size w w') : Sx9 b o p u v A1 n1 c1 A2 n2 c2 w0 w' := by
  obtain ⟨h0, h1, h2, h3, h4, h5, h6, h7, h8⟩ := h
  have cp := fun i => hb.cell (p := ⟨b, i, none⟩) h6
  exact ⟨(cp _).trans h0, (cp _).trans h1, (cp _).trans h2, (cp _).trans h3, (cp _).trans h4, (cp _).trans h5, Nat.lt_of_lt_of_le h6 hb.size, Nat.lt_of_lt_of_le h7 hb.size, Lib.hid (h8.out.trans (hb.mono h8.out.size))⟩
theorem Sx9.drewN {b o p : Nat} {u v : Sl} {A1 : Option Addr} {n1 c1 : Nat} {A2 : Option Addr} {n2 c2 : Nat} {w0 w : World} (h : Sx9 b o p u v A1 n1 c1 A2 n2 c2 w0 w) (k : Nat) : Sx9 b o p u v A1 n1 c1 A2 n2 c2 w0 (w.drewN k) := h.go (below_drewN (Below.refl _ _) k)
set_option maxHeartbeats 40000000 in
theorem dright_any (A : Option Addr) (cap : Nat) (S : List Sl) (w0 : World) (h : SIn w0 A cap S) : Calls Tryz.prog 26 #[.slice A S.length cap] w0 (SRightIs S w0) := by
  have hlen := h.len
  have H1 := Lib.hid h.row; clear h
  have HB0 := Lib.hid (Below.refl w0.heap.size w0)
  by_cases h80 : 80 < S.length
  · have s1 : (80 : Int) < (S.length : Int) := by omega
    have NO : Hid (¬ SolP S) := Lib.hid (fun h => by have := h.len; omega)
    clear h80 H1
    go_enter Tryz.func26, Tryz.ntmps26
    go_wp2_with fail
    go_ret
    exact ⟨false, ⟨fun h => (by cases h), fun h => absurd h NO.out⟩, rfl, HB0.out⟩
  · have s1 : ¬ (80 : Int) < (S.length : Int) := by omega
    have s2 : S.length ≤ 80 := by omega
    go_enter Tryz.func26, Tryz.ntmps26
    go_wp2_with fail
    go_loopw [3] (fun i wr => ∃ (k : Nat), k ≤ S.length ∧ i = .int .i64 k ∧ Hid (Below w0.heap.size w0 wr) ∧ Hid (RtAt S k)) (fun i _ => S.length - (intOf i).toNat)
    case atStart => exact ⟨0, Nat.zero_le _, rfl, HB0, Lib.hid ⟨fun j _ h => by omega, fun j _ h => by omega⟩⟩
    case round =>
      clear HB0
      obtain ⟨k, hk, rfl, HB, HT⟩ := hrel
      by_cases hlt : k < S.length
      · obtain ⟨b1, o1, rfl, hb1, hv1⟩ := H1.out (by omega)
        obtain ⟨x0, x1, Aj, cj, x2, hr⟩ := hv1 k hlt
        have wc := fun o => HB.out.cell (p := ⟨b1, o, none⟩) hb1
        have X0 := Lib.hid x0; have X1 := Lib.hid x1; have X2 := Lib.hid x2
        have x0 := (wc _).trans x0; have x1 := (wc _).trans x1; have x2 := (wc _).trans x2
        have hbs := HB.out.size
        have hbw : b1 < wr.heap.size := Nat.lt_of_lt_of_le hb1 hbs
        have n0 : (0 : Int) ≤ (k : Int) := by omega
        have n1 : (k : Int) < (S.length : Int) := by omega
        have FALSE : Hid (∀ w', Below w0.heap.size w0 w' → ¬ SolP S → SRightIs S w0 (.returned (.bool false)) w') := Lib.hid (fun w' hb hn => ⟨false, ⟨fun h => (by cases h), fun h => absurd h hn⟩, rfl, hb⟩)
        have HOK : Hid (SolP S → SlOk S[k] ∧ S[k].ar.length ≤ 200) := Lib.hid (fun h => ⟨h.form.each _ (List.getElem_mem hlt), h.rects _ (List.getElem_mem hlt)⟩)
        have HR := Lib.hid hr
        obtain ⟨u, hu⟩ : ∃ u, u = S[k] := ⟨_, rfl⟩
        rw [← hu] at x0 x1 x2 X0 X1 X2 HR HOK
        have HU := Lib.hid hu; clear hu hr
        by_cases c0 : u.z0 < 0
        · have DD : decide (u.z0 < 0) = true := decide_eq_true c0
          have NO : Hid (¬ SolP S) := Lib.hid (fun h => by have hk := (HOK.out h).1.h; unfold HOk at hk; omega)
          clear HU HR HOK HT hv1 wc X0 X1 X2
          go_wp2_with fail
          go_quiet (fail)
          go_wp2_with fail
          go_ret
          exact FALSE.out _ (below_drewN HB.out _) NO.out
        have d0 : decide (u.z0 < 0) = false := decide_eq_false c0
        by_cases c1 : u.z1 ≤ u.z0
        · have DD : decide (u.z1 ≤ u.z0) = true := decide_eq_true c1
          have NO : Hid (¬ SolP S) := Lib.hid (fun h => by have hk := (HOK.out h).1.h; unfold HOk at hk; omega)
          clear HU HR HOK HT hv1 wc X0 X1 X2
          go_wp2_with fail
          go_quiet (fail)
          go_wp2_with fail
          go_ret
          exact FALSE.out _ (below_drewN HB.out _) NO.out
        have d1 : decide (u.z1 ≤ u.z0) = false := decide_eq_false c1
        by_cases c2 : 4096 < u.z1
        · have DD : decide (4096 < u.z1) = true := decide_eq_true c2
          have NO : Hid (¬ SolP S) := Lib.hid (fun h => by have hk := (HOK.out h).1.h; unfold HOk at hk; omega)
          clear HU HR HOK HT hv1 wc X0 X1 X2
          go_wp2_with fail
          go_quiet (fail)
          go_wp2_with fail
          go_ret
          exact FALSE.out _ (below_drewN HB.out _) NO.out
        have d2 : decide (4096 < u.z1) = false := decide_eq_false c2
        by_cases c3 : u.ar.length = 0
        · have NO : Hid (¬ SolP S) := Lib.hid (fun h => (HOK.out h).1.ne (List.length_eq_zero_iff.1 c3))
          rw [c3] at x2
          have z0 : (((0 : Nat) : Int) == 0) = true := rfl
          clear HU HR HOK HT hv1 wc X0 X1 X2
          go_wp2_with fail
          go_quiet (fail)
          go_wp2_with fail
          go_ret
          exact FALSE.out _ (below_drewN HB.out _) NO.out
        have CNE : Hid (u.ar ≠ []) := Lib.hid (fun h => c3 (by rw [h]; rfl))
        have hun : u.ar.length ≤ 1099511627776 := HR.out.len
        by_cases cr : RegP u.ar
        case neg =>
          have NO : Hid (¬ SolP S) := Lib.hid (fun h => cr ⟨(HOK.out h).1.form, (HOK.out h).2⟩)
          have HRY := Lib.hid (fun w' (hb : Below w0.heap.size w0 w') => vRight_no Aj cj u.ar w' (HR.out.below hb).row HR.out.len cr)
          clear cr
          generalize u.ar.length = n at *
          have z1 : ((n : Int) == 0) = false := by simp; omega
          have z2 : (n == 0) = false := by simp; omega
          have EJ : Hid (Rw9 b1 (o1 + k * 3) u Aj n cj w0 wr) := Lib.hid ⟨x0, x1, x2, hbw, HB⟩
          clear HU HR HOK HT hv1 wc X0 X1 X2 CNE
          go_wp2_with fail
          go_region_held3 (fun w' => w'.cell? ⟨b1, o1 + k * 3, none⟩ = some (.int .i64 u.z0) ∧ w'.cell? ⟨b1, o1 + k * 3 + 1, none⟩ = some (.int .i64 u.z1) ∧ w'.cell? ⟨b1, o1 + k * 3 + 2, none⟩ = some (.slice Aj n cj) ∧ b1 < w'.heap.size ∧ Hid (Below w0.heap.size w0 w'))
            (first | exact EJ.out | exact Rw9.drewN EJ.out 1 | exact Rw9.go ‹_› ‹_› | assumption)
            (first | (go_at_call 61; refine (HRY.out _ ?_).mono ?_; (exact HB.out.drew); rintro e w' ⟨rfl, hb⟩) | fail)
          have E2 : Rw9 b1 (o1 + k * 3) u Aj n cj w0 w' := by assumption
          have HB3 := E2.2.2.2.2
          clear EJ E2
          go_wp2_with fail
          go_ret
          exact FALSE.out _ HB3.out NO.out
        case pos =>
          have HRY := Lib.hid (fun w' (hb : Below w0.heap.size w0 w') => vRight_yes Aj cj u.ar w' (HR.out.below hb).row HR.out.len cr)
          have OKU : Hid (SlOk u ∧ u.ar.length ≤ 200) := Lib.hid ⟨⟨by unfold HOk; omega, CNE.out, cr.1⟩, cr.2⟩
          clear cr
          obtain ⟨n, hn⟩ : ∃ n, n = u.ar.length := ⟨_, rfl⟩
          rw [← hn] at x2 X2 HRY c3 hun
          have z1 : ((n : Int) == 0) = false := by simp; omega
          have z2 : (n == 0) = false := by simp; omega
          have HN := Lib.hid hn; clear hn
          have EJ : Hid (Rw9 b1 (o1 + k * 3) u Aj n cj w0 wr) := Lib.hid ⟨x0, x1, x2, hbw, HB⟩
          go_wp2_with fail
          go_region_held3 (fun w' => w'.cell? ⟨b1, o1 + k * 3, none⟩ = some (.int .i64 u.z0) ∧ w'.cell? ⟨b1, o1 + k * 3 + 1, none⟩ = some (.int .i64 u.z1) ∧ w'.cell? ⟨b1, o1 + k * 3 + 2, none⟩ = some (.slice Aj n cj) ∧ b1 < w'.heap.size ∧ Hid (Below w0.heap.size w0 w'))
            (first | exact EJ.out | exact Rw9.drewN EJ.out 1 | exact Rw9.go ‹_› ‹_› | assumption)
            (first | (go_at_call 61; refine (HRY.out _ ?_).mono ?_; (exact HB.out.drew); rintro e w' ⟨rfl, hb⟩) | fail)
          have E2 : Rw9 b1 (o1 + k * 3) u Aj n cj w0 w' := by assumption
          obtain ⟨y0, y1, y2, hbw', HB3⟩ := E2
          clear EJ x0 x1 x2 hbw HB hbs wc HRY
          by_cases k0 : k = 0
          · have HT2 : Hid (RtAt S (k + 1)) := Lib.hid ⟨fun j hj h => by
              obtain rfl : j = k := by omega
              rw [← HU.out]; exact OKU.out, fun j hj h => by omega⟩
            have g0 : decide ((0 : Int) < (k : Int)) = false := by simp; omega
            have g1 : ¬ ((0 : Int) < (k : Int)) := by omega
            have g2 : decide (0 < k) = false := by simp; omega
            clear hv1 HU HT k0 HR X0 X1 X2 OKU CNE
            go_wp2_with fail
            go_quiet (fail)
            go_wp2_with fail
            go_roundw
            case rel => exact ⟨k + 1, by omega, by go_num, Lib.hid (below_drewN HB3.out _), HT2⟩
            case measure => simp [intOf]; omega
          · obtain ⟨j, hj⟩ : ∃ j : Nat, k = j + 1 := ⟨k - 1, by omega⟩
            obtain ⟨p0, p1, Av, cv, p2, hrv⟩ := hv1 j (by omega)
            have wd := fun o => HB3.out.cell (p := ⟨b1, o, none⟩) hb1
            have q0 := (wd _).trans p0; have q1 := (wd _).trans p1; have q2 := (wd _).trans p2
            clear p0 p1 p2
            have g0 : decide ((0 : Int) < (k : Int)) = true := by simp; omega
            have g1 : (0 : Int) < (k : Int) := by omega
            have g3 : decide (0 < k) = true := by simp; omega
            have r1 : IntKind.i64.wrap ((k : Int) - 1) = (j : Int) := by rw [show (k : Int) - 1 = (j : Int) by omega]; exact IntWalk.i64_in _ (by omega)
            have m0 : (0 : Int) ≤ (j : Int) := by omega
            have m1 : (j : Int) < (S.length : Int) := by omega
            have HP : Hid (SolP S → SlB (S[j]'(by omega)) u) := Lib.hid (fun hs => by
              have hh := sform_pair hs.form j (by omega)
              rw [HU.out]
              have e : S[k] = S[j + 1]'(by omega) := by congr 1
              rw [e]; exact hh)
            have HT2 : Hid (SlB (S[j]'(by omega)) u → RtAt S (k + 1)) := Lib.hid (fun hb => ⟨fun i hi h => by
              by_cases e : i < k
              · exact HT.out.ok i hi e
              · obtain rfl : i = k := by omega
                rw [← HU.out]; exact OKU.out, fun i hi h => by
              by_cases e : i + 1 < k
              · exact HT.out.pair i hi e
              · obtain rfl : i = j := by omega
                have e2 : S[i + 1] = S[k] := by congr 1; omega
                rw [e2, ← HU.out]; exact hb⟩)
            obtain ⟨v, hv⟩ : ∃ v, v = S[j]'(by omega) := ⟨_, rfl⟩
            rw [← hv] at q0 q1 q2 hrv HP HT2
            have HRV := Lib.hid hrv
            have HPQ := HP
            clear hv1 wd HU HT k0 hv hrv HOK hj HP
            clear X0 X1 X2
            by_cases cz : u.z0 < v.z1
            · have gz : decide (u.z0 < v.z1) = true := decide_eq_true cz
              have NO : Hid (¬ SolP S) := Lib.hid (fun h => by have := (HPQ.out h).1; omega)
              clear HPQ HT2 HRV HR OKU CNE
              go_wp2_with fail
              go_quiet (fail)
              go_wp2_with fail
              go_ret
              exact FALSE.out _ (below_drewN HB3.out _) NO.out
            · have gz : decide (u.z0 < v.z1) = false := decide_eq_false cz
              by_cases ce : v.z1 = u.z0
              · have d1 : (v.z1 == u.z0) = true := by simp [ce]
                have HCA := Lib.hid (fun w' (hb : Below w0.heap.size w0 w') => vsame_any Av cv Aj cj v.ar u.ar w' (HRV.out.below hb).row (HR.out.below hb).row HRV.out.len HR.out.len)
                rw [← HN.out] at HCA
                have EJ : Hid (Sx9 b1 (o1 + j * 3) (o1 + k * 3) v u Av v.ar.length cv Aj n cj w0 w') := Lib.hid ⟨q0, q1, q2, y0, y1, y2, hbw', hbw', HB3⟩
                by_cases ca : v.ar = u.ar
                · rw [decide_eq_true ca] at HCA
                  have NO : Hid (¬ SolP S) := Lib.hid (fun h => (HPQ.out h).2 ce ca)
                  clear HPQ HT2 HRV HR OKU CNE ce ca
                  go_wp2_with fail
                  go_region_held3 (fun w' => w'.cell? ⟨b1, o1 + j * 3, none⟩ = some (.int .i64 v.z0) ∧ w'.cell? ⟨b1, o1 + j * 3 + 1, none⟩ = some (.int .i64 v.z1) ∧ w'.cell? ⟨b1, o1 + j * 3 + 2, none⟩ = some (.slice Av v.ar.length cv) ∧ w'.cell? ⟨b1, o1 + k * 3, none⟩ = some (.int .i64 u.z0) ∧ w'.cell? ⟨b1, o1 + k * 3 + 1, none⟩ = some (.int .i64 u.z1) ∧ w'.cell? ⟨b1, o1 + k * 3 + 2, none⟩ = some (.slice Aj n cj) ∧ b1 < w'.heap.size ∧ b1 < w'.heap.size ∧ Hid (Below w0.heap.size w0 w'))
                    (first | exact EJ.out | exact Sx9.drewN EJ.out 1 | exact Sx9.go ‹_› ‹_› | assumption)
                    (first | (go_at_call 44; refine (HCA.out _ ?_).mono ?_; (exact HB3.out.drew); rintro e w' ⟨rfl, hb⟩) | fail)
                  have E2 : Sx9 b1 (o1 + j * 3) (o1 + k * 3) v u Av v.ar.length cv Aj n cj w0 w' := by assumption
                  have HB4 := E2.2.2.2.2.2.2.2.2
                  clear EJ E2
                  go_wp2_with fail
                  go_ret
                  exact FALSE.out _ HB4.out NO.out
                · rw [decide_eq_false ca] at HCA
                  have HT3 := Lib.hid (HT2.out ⟨by omega, fun _ => ca⟩)
                  clear HPQ HT2 HRV HR OKU CNE ce ca
                  go_wp2_with fail
                  go_region_held3 (fun w' => w'.cell? ⟨b1, o1 + j * 3, none⟩ = some (.int .i64 v.z0) ∧ w'.cell? ⟨b1, o1 + j * 3 + 1, none⟩ = some (.int .i64 v.z1) ∧ w'.cell? ⟨b1, o1 + j * 3 + 2, none⟩ = some (.slice Av v.ar.length cv) ∧ w'.cell? ⟨b1, o1 + k * 3, none⟩ = some (.int .i64 u.z0) ∧ w'.cell? ⟨b1, o1 + k * 3 + 1, none⟩ = some (.int .i64 u.z1) ∧ w'.cell? ⟨b1, o1 + k * 3 + 2, none⟩ = some (.slice Aj n cj) ∧ b1 < w'.heap.size ∧ b1 < w'.heap.size ∧ Hid (Below w0.heap.size w0 w'))
                    (first | exact EJ.out | exact Sx9.drewN EJ.out 1 | exact Sx9.go ‹_› ‹_› | assumption)
                    (first | (go_at_call 44; refine (HCA.out _ ?_).mono ?_; (exact HB3.out.drew); rintro e w' ⟨rfl, hb⟩) | fail)
                  have E2 : Sx9 b1 (o1 + j * 3) (o1 + k * 3) v u Av v.ar.length cv Aj n cj w0 w' := by assumption
                  have HB4 := E2.2.2.2.2.2.2.2.2
                  clear EJ E2
                  go_wp2_with fail
                  go_roundw
                  case rel => exact ⟨k + 1, by omega, by go_num, HB4, HT3⟩
                  case measure => simp [intOf]; omega
              · have d1 : (v.z1 == u.z0) = false := by simp [ce]
                have HT3 := Lib.hid (HT2.out ⟨by omega, fun h => absurd h ce⟩)
                clear HPQ HT2 HRV HR OKU CNE ce
                go_wp2_with fail
                go_quiet (fail)
                go_wp2_with fail
                go_roundw
                case rel => exact ⟨k + 1, by omega, by go_num, Lib.hid (below_drewN HB3.out _), HT3⟩
                case measure => simp [intOf]; omega
      · obtain rfl : k = S.length := by omega
        have YES : Hid (SolP S) := Lib.hid ⟨sform_of (fun j hj => (HT.out.ok j hj hj).1) (fun j hj => HT.out.pair j hj hj), s2, fun s hs => by
          obtain ⟨j, hj, rfl⟩ := List.mem_iff_getElem.1 hs
          exact (HT.out.ok j hj hj).2⟩
        clear HT
        go_wp2_with fail
        go_ret
        exact ⟨true, ⟨fun _ => YES.out, fun _ => rfl⟩, rfl, HB.out⟩
theorem dright_yes {A : Option Addr} {cap : Nat} {S : List Sl} {w : World} (h : SIn w A cap S) (hs : SolP S) : Calls Tryz.prog 26 #[.slice A S.length cap] w (BlIs true w) :=
  (dright_any A cap S w h).mono fun e w' ⟨b, hb, h'⟩ => by obtain rfl := hb.2 hs; exact h'
theorem dright_no {A : Option Addr} {cap : Nat} {S : List Sl} {w : World} (h : SIn w A cap S) (hs : ¬ SolP S) : Calls Tryz.prog 26 #[.slice A S.length cap] w (BlIs false w) :=
  (dright_any A cap S w h).mono fun e w' ⟨b, hb, h'⟩ => by
    cases b with
    | false => exact h'
    | true => exact absurd (hb.1 rfl) hs
end Go.Proofs.YtdnoadngfkiabaaGreat
