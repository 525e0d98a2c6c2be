/-
  Contracts of the reference of layer 9, 8: Of.
-/
import Derived.Test.YtdnoadngfkiabaaGreatS922
import Derived.Test.YtdnoadngfkiabaaGreatS914
import Derived.Test.YtdnoadngfkiabaaGreatS924
import Derived.Test.YtdnoadngfkiabaaGreatS929
import Derived.Test.YtdnoadngfkiabaaGreatS919
set_option linter.unusedVariables false
set_option maxRecDepth 100000
namespace Go.Proofs.YtdnoadngfkiabaaGreat
open Go.RowKit

/-- what a round of the loop over the heights reads: two cells of the row of boxes. -/
def Zw9 (b o1 o2 : Nat) (x y : Int) (A : Option Addr) (c : Nat) (t : List Int) (w0 w : World) : Prop := w.cell? ⟨b, o1, none⟩ = some (.int .i64 x) ∧ w.cell? ⟨b, o2, none⟩ = some (.int .i64 y) ∧ b < w.heap.size ∧ Hid (Below w0.heap.size w0 w ∧ IIn w A c t)
theorem Zw9.go {b o1 o2 : Nat} {x y : Int} {A : Option Addr} {c : Nat} {t : List Int} {w0 w w' : World} (h : Zw9 b o1 o2 x y A c t w0 w) (hb : Below w.heap.size w w') : Zw9 b o1 o2 x y A c t w0 w' := by
  obtain ⟨h0, h1, h6, h8⟩ := h
  have cp := fun i => hb.cell (p := ⟨b, i, none⟩) h6
  exact ⟨(cp _).trans h0, (cp _).trans h1, Nat.lt_of_lt_of_le h6 hb.size, Lib.hid ⟨h8.out.1.trans (hb.mono h8.out.1.size), h8.out.2.below hb⟩⟩
theorem Zw9.drewN {b o1 o2 : Nat} {x y : Int} {A : Option Addr} {c : Nat} {t : List Int} {w0 w : World} (h : Zw9 b o1 o2 x y A c t w0 w) (k : Nat) : Zw9 b o1 o2 x y A c t w0 (w.drewN k) := h.go (below_drewN (Below.refl _ _) k)
def Zx9 (b o1 o2 : Nat) (x y : Int) (w0 w : World) : Prop := w.cell? ⟨b, o1, none⟩ = some (.int .i64 x) ∧ w.cell? ⟨b, o2, none⟩ = some (.int .i64 y) ∧ b < w0.heap.size ∧ b < w.heap.size ∧ Hid (Below w0.heap.size w0 w)
theorem Zx9.of {b o1 o2 : Nat} {x y : Int} {w0 w' : World} (h : Zx9 b o1 o2 x y w0 w0) (hb : Below w0.heap.size w0 w') : Zx9 b o1 o2 x y w0 w' := by
  obtain ⟨h0, h1, h2, h3, h4⟩ := h
  exact ⟨(hb.cell (p := ⟨b, o1, none⟩) h2).trans h0, (hb.cell (p := ⟨b, o2, none⟩) h2).trans h1, h2, Nat.lt_of_lt_of_le h3 hb.size, Lib.hid (h4.out.trans hb)⟩
theorem Zx9.go {b o1 o2 : Nat} {x y : Int} {w0 w w' : World} (h : Zx9 b o1 o2 x y w0 w) (hb : Below w.heap.size w w') : Zx9 b o1 o2 x y w0 w' := by
  obtain ⟨h0, h1, h2, h3, h4⟩ := h
  exact ⟨(hb.cell (p := ⟨b, o1, none⟩) h3).trans h0, (hb.cell (p := ⟨b, o2, none⟩) h3).trans h1, h2, Nat.lt_of_lt_of_le h3 hb.size, Lib.hid (h4.out.trans (hb.mono h4.out.size))⟩
theorem Zx9.drewN {b o1 o2 : Nat} {x y : Int} {w0 w : World} (h : Zx9 b o1 o2 x y w0 w) (k : Nat) : Zx9 b o1 o2 x y w0 (w.drewN k) := h.go (below_drewN (Below.refl _ _) k)
structure Own9 (C : List Rc) (n : Nat) (wr w : World) (A : Option Addr) (c : Nat) : Prop where
  own : w.ownsRow wr.heap.size 33 4 (.slice A n c) n (rcells C)
  bel : Below wr.heap.size wr w
theorem Own9.go {C : List Rc} {n : Nat} {wr w w' : World} {A : Option Addr} {c : Nat} (h : Own9 C n wr w A c) (hb : Below w.heap.size w w') : Own9 C n wr w' A c := ⟨own_go h.own hb, h.bel.trans (hb.mono h.bel.size)⟩
def FormIs (C : List Rc) (n : Nat) (wr w : World) (e : Ending) (w' : World) : Prop := ∃ A c, e = .returned (.slice A n c) ∧ Own9 C n wr w' A c ∧ Below w.heap.size w w'
def Ins9 (t : List Int) (n : Nat) (w : World) (e : Ending) (w' : World) : Prop := ∃ A c, e = .returned (.slice A n c) ∧ IIn w' A c t ∧ Below w.heap.size w w'
theorem srt_next (l : List Bx) (k : Nat) (h : k < l.length) : sortS (htB (l.take (k + 1))) = insS l[k].z1 (insS l[k].z0 (sortS (htB (l.take k)))) := by
  rw [htB_next l k h, show htB (l.take k) ++ [l[k].z0, l[k].z1] = htB (l.take k) ++ [l[k].z0] ++ [l[k].z1] by simp, sortS_snoc, sortS_snoc]
theorem srt_len (l : List Bx) : (sortS (htB l)).length ≤ 2 * l.length := by
  have := sortS_len (htB l) (htB l).length (Nat.le_refl _)
  rw [List.take_length, htB_len] at this
  exact this
set_option maxHeartbeats 40000000 in
theorem dof_any (A : Option Addr) (cap : Nat) (l : List Bx) (w : World) (h : BxRow w A l) (hl : l.length ≤ 1000000) : Calls Tryz.prog 9 #[.slice A l.length cap] w (SolRes (ofS l) w) := by
  have H1 := Lib.hid h; clear h
  have HB0 := Lib.hid (Below.refl w.heap.size w)
  go_enter Tryz.func9, Tryz.ntmps9
  go_wp2_with fail
  go_loopw [4] (fun i wr => ∃ k : Nat, k ≤ l.length ∧ i = .int .i64 k ∧ Hid (Below w.heap.size w wr) ∧ Hid (∀ j (h : j < l.length), j < k → BOk l[j])) (fun i _ => l.length - (intOf i).toNat)
  case atStart => exact ⟨0, Nat.zero_le _, rfl, HB0, Lib.hid (fun j _ h => absurd h (Nat.not_lt_zero _))⟩
  case round =>
    clear HB0
    obtain ⟨k, hk, rfl, HB, HT⟩ := hrel
    by_cases hlt : k < l.length
    · obtain ⟨b1, o1, rfl, hb1, hv1⟩ := H1.out (by omega)
      obtain ⟨x0, x1, x2, x3, x4, x5⟩ := hv1 k hlt
      have wc := fun o => HB.out.cell (p := ⟨b1, o, none⟩) hb1
      have x0 := (wc _).trans x0; have x1 := (wc _).trans x1; have x2 := (wc _).trans x2; have x3 := (wc _).trans x3; have x4 := (wc _).trans x4; have x5 := (wc _).trans x5
      have hbs := HB.out.size
      have hbw : b1 < wr.heap.size := Nat.lt_of_lt_of_le hb1 hbs
      have n0 : (0 : Int) ≤ (k : Int) := by omega
      have n1 : (k : Int) < (l.length : Int) := by omega
      have NO : Hid (¬ BOk l[k] → ofS l = ([], 1)) := Lib.hid (fun h => ofS_bad (fun hh => h (hh _ (List.getElem_mem hlt))))
      have NX : Hid (BOk l[k] → ∀ j (h : j < l.length), j < k + 1 → BOk l[j]) := Lib.hid (fun hg j h hj => by
        by_cases e : j < k
        · exact HT.out j h e
        · obtain rfl : j = k := by omega
          exact hg)
      clear hv1 wc HT
      obtain ⟨u, hu⟩ : ∃ u, u = l[k] := ⟨_, rfl⟩
      rw [← hu] at x0 x1 x2 x3 x4 x5 NO NX
      clear hu
      have HR := Lib.hid (fun w' => drb_any u w')
      by_cases c0 : BOk u
      · rw [decide_eq_true c0] at HR
        have HN := Lib.hid (NX.out c0); clear NO NX c0
        go_wp2_with fail
        refine (HR.out _).mono ?_
        rintro e w1 ⟨rfl, hb⟩
        have HB1 := Lib.hid (HB.out.trans (hb.mono hbs)); clear hb
        go_wp2_with fail
        go_roundw
        case rel => exact ⟨k + 1, by omega, by go_num, HB1, HN⟩
        case measure => simp [intOf]; omega
      · rw [decide_eq_false c0] at HR
        have HN := Lib.hid (NO.out c0); clear NO NX c0
        go_wp2_with fail
        refine (HR.out _).mono ?_
        rintro e w1 ⟨rfl, hb⟩
        have HB1 := Lib.hid (HB.out.trans (hb.mono hbs)); clear hb
        go_wp2_with fail
        go_ret2
        rw [HN.out]
        exact ⟨_, _, rfl, SIn.nil _, HB1.out⟩
    · obtain rfl : k = l.length := by omega
      have HOK : Hid (∀ b ∈ l, BOk b) := Lib.hid (fun r hr => by
        obtain ⟨j, hj, rfl⟩ := List.mem_iff_getElem.1 hr
        exact HT.out j hj hj)
      clear HT
      by_cases c0 : 200 < l.length
      · have HN : Hid (ofS l = ([], 6)) := Lib.hid (by unfold ofS; rw [if_pos HOK.out, if_neg (by omega)])
        have c1 : (200 : Int) < (l.length : Int) := by omega
        go_wp2_with fail
        go_ret2
        rw [HN.out]
        exact ⟨_, _, rfl, SIn.nil _, HB.out⟩
      · have HN : Hid (ofS l = capS (solB l)) := Lib.hid (by unfold ofS; rw [if_pos HOK.out, if_pos (by omega)])
        have c1 : ¬ (200 : Int) < (l.length : Int) := by omega
        have HOX := HN
        have K0 : Hid (Below w.heap.size w wr ∧ IIn wr none 0 (sortS (htB (l.take 0)))) := Lib.hid ⟨HB.out, ⟨IRow.nil _ _, trivial, by simp [htB, sortS], by simp [htB, sortS], by omega, fun _ => ⟨rfl, rfl⟩⟩⟩
        clear HN HB
        go_wp2_with fail
        go_loopw [5, 6] (fun z i wr => ∃ (k : Nat) (A1 : Option Addr) (c1 n : Nat), k ≤ l.length ∧ i = .int .i64 k ∧ z = .slice A1 n c1 ∧ Hid (n = (sortS (htB (l.take k))).length) ∧ Hid (Below w.heap.size w wr ∧ IIn wr A1 c1 (sortS (htB (l.take k))))) (fun _ i _ => l.length - (intOf i).toNat)
        case atStart => exact ⟨0, none, 0, 0, Nat.zero_le _, rfl, rfl, Lib.hid (by simp [htB, sortS]), K0⟩
        case round =>
          clear K0
          obtain ⟨k, A1, cA, n, hk, rfl, rfl, HNL, HK⟩ := hrel
          by_cases hlt : k < l.length
          · obtain ⟨b1, o1, rfl, hb1, hv1⟩ := H1.out (by omega)
            obtain ⟨_, _, _, _, x4, x5⟩ := hv1 k hlt
            have wc := fun o => HK.out.1.cell (p := ⟨b1, o, none⟩) hb1
            have x4 := (wc _).trans x4; have x5 := (wc _).trans x5
            have hbw : b1 < wr.heap.size := Nat.lt_of_lt_of_le hb1 HK.out.1.size
            have n0 : (0 : Int) ≤ (k : Int) := by omega
            have n1 : (k : Int) < (l.length : Int) := by omega
            have HSN := Lib.hid (srt_next l k hlt)
            have hsl := srt_len (l.take k)
            rw [List.length_take] at hsl
            clear hv1 wc
            obtain ⟨u, hu⟩ : ∃ u, u = l[k] := ⟨_, rfl⟩
            rw [← hu] at x4 x5 HSN
            clear hu
            obtain ⟨t, ht⟩ : ∃ t, t = sortS (htB (l.take k)) := ⟨_, rfl⟩
            rw [← ht] at HNL HK HSN hsl
            clear ht
            have hi1 := insS_len u.z0 t
            obtain ⟨T1, hT1⟩ : ∃ T1, T1 = insS u.z0 t := ⟨_, rfl⟩
            obtain ⟨T2, hT2⟩ : ∃ T2, T2 = insS u.z1 T1 := ⟨_, rfl⟩
            obtain ⟨m1, hm1⟩ : ∃ m1, m1 = T1.length := ⟨_, rfl⟩
            obtain ⟨m2, hm2⟩ : ∃ m2, m2 = T2.length := ⟨_, rfl⟩
            have HI1 : Hid (∀ w', IIn w' A1 cA t → Calls Tryz.prog 40 #[.slice A1 n cA, .int .i64 u.z0] w' (Ins9 T1 m1 w')) := Lib.hid (fun w' h => by
              have := dins_at A1 cA t u.z0 w' h (by omega)
              rw [← HNL.out, ← hT1] at this
              rw [hm1]; exact this)
            have HI2 : Hid (∀ w' A2 c2, IIn w' A2 c2 T1 → Calls Tryz.prog 40 #[.slice A2 m1 c2, .int .i64 u.z1] w' (Ins9 T2 m2 w')) := Lib.hid (fun w' A2 c2 h => by
              have := dins_at A2 c2 T1 u.z1 w' h (by rw [hT1]; omega)
              rw [← hm1, ← hT2] at this
              rw [hm2]; exact this)
            rw [← hT1, ← hT2] at HSN
            have HM2 := Lib.hid hm2
            clear hT1 hT2 hm1 hm2
            have EJ : Hid (Zw9 b1 (o1 + k * 6 + 4) (o1 + k * 6 + 5) u.z0 u.z1 A1 cA t w wr) := Lib.hid ⟨x4, x5, hbw, HK⟩
            clear hsl hi1
            go_wp2_with fail
            go_region_held3 (fun w' => w'.cell? ⟨b1, o1 + k * 6 + 4, none⟩ = some (.int .i64 u.z0) ∧ w'.cell? ⟨b1, o1 + k * 6 + 5, none⟩ = some (.int .i64 u.z1) ∧ b1 < w'.heap.size ∧ Hid (Below w.heap.size w w' ∧ IIn w' A1 cA t))
              (first | exact EJ.out | exact Zw9.drewN EJ.out 1 | exact Zw9.go ‹_› ‹_› | assumption)
              (first
                | (go_at_call 40; (with_reducible refine Calls.mono (HI1.out _ ?_) ?_); (exact (Zw9.drewN EJ.out 1).2.2.2.out.2); rintro e w' ⟨A2, c2, rfl, hi2, hb⟩)
                | (go_at_call 40; (with_reducible refine Calls.mono (HI2.out _ _ _ ?_) ?_); (first | assumption | exact IIn.below ‹_› (below_drewN (Below.refl _ _) _)); rintro e w' ⟨A3, c3, rfl, hi3, hb⟩)
                | fail)
            have E2 : Zw9 b1 (o1 + k * 6 + 4) (o1 + k * 6 + 5) u.z0 u.z1 A1 cA t w w' := by assumption
            have HK2 : Hid (Below w.heap.size w w' ∧ IIn w' A3 c3 T2) := Lib.hid ⟨E2.2.2.2.out.1, hi3⟩
            clear E2 EJ HI1 HI2 hi3 hi2 hb
            go_wp2_with fail
            go_roundw
            case rel => exact ⟨k + 1, A3, c3, m2, by omega, by go_num, rfl, Lib.hid (by rw [HSN.out, HM2.out]), Lib.hid (by rw [HSN.out]; exact HK2.out)⟩
            case measure => simp [intOf]; omega
          · obtain rfl : k = l.length := by omega
            have HX : Hid (Below w.heap.size w wr ∧ IIn wr A1 cA (sortS (htB l))) := Lib.hid (by have := HK.out; rw [List.take_length] at this; exact this)
            have HXN : Hid (n = (sortS (htB l)).length) := Lib.hid (by have := HNL.out; rw [List.take_length] at this; exact this)
            have hXl := srt_len l
            obtain ⟨X, hX⟩ : ∃ X, X = sortS (htB l) := ⟨_, rfl⟩
            rw [← hX] at HX HXN hXl
            have HSX : Hid (solB l = solGo (secB l) [] X) := Lib.hid (by rw [hX]; rfl)
            clear hX HK HNL
            obtain rfl := HXN.out
            clear HXN
            obtain ⟨wB, hwB⟩ : ∃ x, x = wr := ⟨_, rfl⟩
            subst hwB
            have K1 : Hid (SW (.slice none 0 0) [] wB wB) := Lib.hid (SW.nil wB)
            have T1 : Hid (svS [] = solGo (secB l) [] (X.take (0 + 1))) := Lib.hid (by cases X <;> rfl)
            obtain ⟨i0, hi9, hz0, hz1, hz2⟩ := info_parts infoRect
            go_wp2_with fail
            go_loopw [7, 8] (fun v i wr => ∃ (k : Nat) (L : List SlV) (v0 : Value), (k + 1 ≤ X.length ∨ k = 0) ∧ i = .int .i64 k ∧ v0 = v ∧ Hid (svS L = solGo (secB l) [] (X.take (k + 1))) ∧ Hid (SW v0 L wB wr) ∧ L.length ≤ k ∧ Hid (∀ t ∈ L, t.s.ar.length ≤ 1000000)) (fun _ i _ => X.length - (intOf i).toNat)
            case atStart => exact ⟨0, [], _, Or.inr rfl, rfl, rfl, T1, K1, Nat.le_refl _, Lib.hid (fun t ht => by cases ht)⟩
            case round =>
              clear K1 T1
              obtain ⟨k, L, v, hk1, rfl, rfl, HT3, HS, hL, HLA⟩ := hrel
              by_cases hlt : k + 1 < X.length
              · obtain ⟨bx, ox, rfl, hbx, hcx⟩ := HX.out.2.row (by omega)
                have XA := Lib.hid (hcx k (by omega)); have XB := Lib.hid (hcx (k + 1) hlt)
                have r1 : IntKind.i64.wrap ((k : Int) + 1) = (k : Int) + 1 := IntWalk.i64_in _ (by omega)
                have m0 : (0 : Int) ≤ (k : Int) := by omega
                have m1 : (k : Int) < (X.length : Int) := by omega
                have m2 : (k : Int) + 1 < (X.length : Int) := by omega
                have m3 : (0 : Int) ≤ (k : Int) + 1 := by omega
                obtain ⟨a, ha⟩ : ∃ a, a = X[k]'(by omega) := ⟨_, rfl⟩
                obtain ⟨b, hb⟩ : ∃ b, b = X[k + 1] := ⟨_, rfl⟩
                rw [← ha] at XA; rw [← hb] at XB
                clear hcx
                have HAB := Lib.hid (And.intro ha hb); clear ha hb
                obtain ⟨wC, hwC⟩ : ∃ x, x = wr := ⟨_, rfl⟩
                subst hwC
                have BC : Hid (Below w.heap.size w wC) := Lib.hid (HX.out.1.trans (HS.out.bel.mono HX.out.1.size))
                have KB0 : Hid (GW9 (.slice none 0 0) (basesB (l.take 0) a) wC wC) := Lib.hid ⟨World.ownsRow_nil _ _ _ _, Below.refl _ _⟩
                go_wp2_with fail
                go_loopw [9, 10] (fun v9 i9 wr => ∃ (j : Nat) (v1 : Value), j ≤ l.length ∧ i9 = .int .i64 j ∧ v1 = v9 ∧ Hid (GW9 v1 (basesB (l.take j) a) wC wr)) (fun _ i9 _ => l.length - (intOf i9).toNat)
                case atStart => exact ⟨0, _, Nat.zero_le _, rfl, rfl, KB0⟩
                case round =>
                  clear KB0
                  obtain ⟨j, v9, hj, rfl, rfl, HK9⟩ := hrel
                  by_cases hltj : j < l.length
                  · obtain ⟨b1, o1, rfl, hb1, hv1⟩ := H1.out (by omega)
                    obtain ⟨x0, x1, x2, x3, x4, x5⟩ := hv1 j hltj
                    have HBW := Lib.hid (BC.out.trans (HK9.out.bel.mono BC.out.size))
                    have wc := fun o => HBW.out.cell (p := ⟨b1, o, none⟩) hb1
                    have x0 := (wc _).trans x0; have x1 := (wc _).trans x1; have x2 := (wc _).trans x2; have x3 := (wc _).trans x3; have x4 := (wc _).trans x4; have x5 := (wc _).trans x5
                    have xa := ((HS.out.bel.trans (HK9.out.bel.mono HS.out.bel.size)).cell (p := ⟨bx, _, none⟩) hbx).trans XA.out
                    have hbs := HK9.out.bel.size
                    have hbw : b1 < wr.heap.size := Nat.lt_of_lt_of_le hb1 HBW.out.size
                    have hbw2 : bx < wr.heap.size := Nat.lt_of_lt_of_le hbx (HS.out.bel.trans (HK9.out.bel.mono HS.out.bel.size)).size
                    have n0 : (0 : Int) ≤ (j : Int) := by omega
                    have n1 : (j : Int) < (l.length : Int) := by omega
                    have HN := Lib.hid (bases_next l a j hltj)
                    have hfl := bases_len (l.take j) a
                    rw [List.length_take] at hfl
                    have hfl : (basesB (l.take j) a).length ≤ 1000000 := by omega
                    clear hv1 wc
                    obtain ⟨u, hu⟩ : ∃ u, u = l[j] := ⟨_, rfl⟩
                    rw [← hu] at x0 x1 x2 x3 x4 x5 HN
                    clear hu
                    generalize basesB (l.take j) a = F at *
                    by_cases ca : u.z0 ≤ a
                    · have da : decide (u.z0 ≤ a) = true := decide_eq_true ca
                      by_cases cb : a < u.z1
                      · have db : decide (a < u.z1) = true := decide_eq_true cb
                        have HN2 : Hid (basesB (l.take (j + 1)) a = F ++ [u.r]) := Lib.hid (by rw [HN.out, if_pos ⟨ca, cb⟩])
                        clear HN
                        go_wp2_with fail
                        go_quiet (fail)
                        generalize hwx : World.drewN wr _ = wx at *
                        have HKx : Hid (GW9 v9 F wC wx) := Lib.hid (by rw [← hwx]; exact ⟨own_go HK9.out.own (below_drewN (Below.refl _ _) _), below_drewN HK9.out.bel _⟩)
                        have y0 : wx.cell? ⟨b1, o1 + j * 6, none⟩ = some (.int .i64 u.r.X0) := by rw [← hwx]; exact x0
                        have y1 : wx.cell? ⟨b1, o1 + j * 6 + 1, none⟩ = some (.int .i64 u.r.Y0) := by rw [← hwx]; exact x1
                        have y2 : wx.cell? ⟨b1, o1 + j * 6 + 2, none⟩ = some (.int .i64 u.r.X1) := by rw [← hwx]; exact x2
                        have y3 : wx.cell? ⟨b1, o1 + j * 6 + 3, none⟩ = some (.int .i64 u.r.Y1) := by rw [← hwx]; exact x3
                        have hbs2 := HKx.out.bel.size
                        have HO := Lib.hid HKx.out.own
                        clear hwx x0 x1 x2 x3 x4 x5 xa HK9
                        go_wp2_with (at_builtin; refine wpList_append_own _ rfl _ _ 37 rfl wC.heap.size 33 i0 (.agg #[.int .i64 0, .int .i64 0, .int .i64 0, .int .i64 0]) 4 32 Tryz.underlying37 hi9 hz0 hz1 hz2 rfl (by decide) _ _ _ rfl (HO.out.alloc _) ⟨wx.heap.size, 0, none⟩ 1 1 [.int .i64 u.r.X0, .int .i64 u.r.Y0, .int .i64 u.r.X1, .int .i64 u.r.Y1] rfl rfl ?c1 ?c2 ?c3 ?c4 ?c5 ?_)
                        case c1 =>
                          intro t u ht
                          match t, ht with
                          | 0, ht => simp at ht; subst ht; simp [Addr.add]
                          | 1, ht => simp at ht; subst ht; simp [Addr.add]
                          | 2, ht => simp at ht; subst ht; simp [Addr.add]
                          | 3, ht => simp at ht; subst ht; simp [Addr.add]
                        case c2 => intro u hu; simp only [List.mem_cons, List.not_mem_nil, or_false] at hu; rcases hu with rfl | rfl | rfl | rfl <;> rfl
                        case c3 => unfold maxLen; omega
                        case c4 => omega
                        case c5 => simp; omega
                        intro v' w4 hown' hgr _
                        have HX2 : Hid (GW9 v' (basesB (l.take (j + 1)) a) wC w4) := Lib.hid ⟨by rw [HN2.out, rcells_append, List.length_append]; exact hown', Below.grown (HKx.out.bel.alloc hbs2 _) hgr (by simp; omega) (fun k hk => (HO.out.lt k hk).1)⟩
                        clear hown' hgr HO HKx HN2 y0 y1 y2 y3
                        go_wp2_with fail
                        go_roundw
                        case rel => exact ⟨j + 1, _, by omega, by go_num, rfl, HX2⟩
                        case measure => simp [intOf]; omega
                      · have db : decide (a < u.z1) = false := decide_eq_false cb
                        have HX2 : Hid (∀ q, GW9 v9 (basesB (l.take (j + 1)) a) wC (wr.drewN q)) := Lib.hid (fun q => ⟨by rw [HN.out, if_neg (fun h => cb h.2), List.append_nil]; exact own_go HK9.out.own (below_drewN (Below.refl _ _) _), below_drewN HK9.out.bel _⟩)
                        clear HN HK9
                        go_wp2_with fail
                        go_quiet (fail)
                        go_wp2_with fail
                        go_roundw
                        case rel => exact ⟨j + 1, _, by omega, by go_num, rfl, Lib.hid (HX2.out _)⟩
                        case measure => simp [intOf]; omega
                    · have da : decide (u.z0 ≤ a) = false := decide_eq_false ca
                      have HX2 : Hid (∀ q, GW9 v9 (basesB (l.take (j + 1)) a) wC (wr.drewN q)) := Lib.hid (fun q => ⟨by rw [HN.out, if_neg (fun h => ca h.1), List.append_nil]; exact own_go HK9.out.own (below_drewN (Below.refl _ _) _), below_drewN HK9.out.bel _⟩)
                      clear HN HK9
                      go_wp2_with fail
                      go_quiet (fail)
                      go_wp2_with fail
                      go_roundw
                      case rel => exact ⟨j + 1, _, by omega, by go_num, rfl, Lib.hid (HX2.out _)⟩
                      case measure => simp [intOf]; omega
                  · obtain rfl : j = l.length := by omega
                    have HK8 : Hid (GW9 v9 (basesB l a) wC wr) := Lib.hid (by have := HK9.out; rw [List.take_length] at this; exact this)
                    have hbl := bases_len l a
                    have hsq : (formL (basesB l a)).length ≤ 1000000 := by
                      have h1 := form_sq (bases_ok HOK.out a)
                      have h2 := Nat.mul_le_mul (show (basesB l a).length ≤ 200 by omega) (show (basesB l a).length ≤ 200 by omega)
                      omega
                    obtain ⟨A9, c9, hv9, hr9, _⟩ := own_rects HK8.out.own
                    subst hv9
                    have HSR : Hid (SW v L wB wr) := Lib.hid (HS.out.go HK8.out.bel)
                    obtain ⟨C, hC⟩ : ∃ C, C = formL (basesB l a) := ⟨_, rfl⟩
                    obtain ⟨nb, hnb⟩ : ∃ nb, nb = (basesB l a).length := ⟨_, rfl⟩
                    obtain ⟨nc, hnc⟩ : ∃ nc, nc = C.length := ⟨_, rfl⟩
                    have HF : Hid (∀ w', Below wr.heap.size wr w' → Calls Tryz.prog 42 #[.slice A9 nb c9, .slice none 0 0, .int .i64 0] w' (FormIs C nc wr w')) := Lib.hid (fun w' hb => by
                      have := vform_one A9 c9 (basesB l a) w' (hr9.below hb) (by omega) (bases_ok HOK.out a)
                      rw [hnb]
                      refine this.mono fun e w2 hk => ?_
                      obtain ⟨v2, rfl, ho, hb2⟩ := hk
                      rw [← hC, ← hnc] at ho
                      obtain ⟨A', c', e1, _⟩ := own_parts ho
                      subst e1
                      exact ⟨A', c', rfl, ⟨own_base ho hb.size, hb.trans (hb2.mono hb.size)⟩, hb2⟩)
                    have HA : Hid (∀ w' A' c', Own9 C nc wr w' A' c' → Calls Tryz.prog 41 #[v, .int .i64 a, .int .i64 b, .slice A' nc c'] w' (JoinIs L ⟨⟨a, b, C⟩, A', c'⟩ wB w')) := Lib.hid (fun w' A' c' ho => by
                      have h1 := ho.own
                      rw [hnc] at h1 ⊢
                      exact dadd_any L v ⟨⟨a, b, C⟩, A', c'⟩ wB w' (HSR.out.go ho.bel) (own_base h1 HSR.out.bel.size) (by omega) HLA.out (by rw [hC]; exact hsq))
                    have HNX := Lib.hid (solGo_next (secB l) X k hlt)
                    have E00 : Hid (Zx9 bx (ox + k) (ox + (k + 1)) a b wB wB) := Lib.hid ⟨XA.out, XB.out, hbx, hbx, Lib.hid (Below.refl _ _)⟩
                    have E0 : Hid (Zx9 bx (ox + k) (ox + (k + 1)) a b wB wr) := Lib.hid (E00.out.of HSR.out.bel)
                    have HFIN : Hid (∀ L' : List SlV, svS L' = joinS (svS L) ⟨a, b, C⟩ → (∀ t ∈ L', t.s.ar.length ≤ 1000000) ∧ svS L' = solGo (secB l) [] (X.take (k + 1 + 1)) ∧ L'.length ≤ k + 1) := Lib.hid (fun L' hj => by
                      have hja := join_len (svS L) ⟨a, b, C⟩
                      rw [← hj, svS_len, svS_len] at hja
                      refine ⟨fun t ht => ?_, ?_, by omega⟩
                      · have hm : t.s ∈ joinS (svS L) ⟨a, b, C⟩ := by rw [← hj]; exact List.mem_map_of_mem ht
                        rcases join_mem hm with e | ⟨u, hu, e⟩
                        · rw [e]; show C.length ≤ _; rw [hC]; exact hsq
                        · obtain ⟨q, hq, rfl⟩ := List.mem_map.1 hu
                          rw [← e]; exact HLA.out q hq
                      · rw [hj, HNX.out, ← HT3.out, ← HAB.out.1, ← HAB.out.2, hC]; rfl)
                    obtain ⟨x0, x1, _, xg, _⟩ := E0.out
                    rw [← hnb]
                    clear HK8 HK9 hbl hsq hr9 HSR hC hnb hnc HNX HLA HT3 HS
                    go_wp2_with fail
                    go_region_held3 (fun w' => w'.cell? ⟨bx, ox + k, none⟩ = some (.int .i64 a) ∧ w'.cell? ⟨bx, ox + (k + 1), none⟩ = some (.int .i64 b) ∧ bx < wB.heap.size ∧ bx < w'.heap.size ∧ Hid (Below wB.heap.size wB w'))
                      (first | exact E0.out | exact Zx9.drewN E0.out 1 | exact Zx9.of E00.out (SW.bel ‹_›) | exact Zx9.go ‹_› ‹_› | assumption)
                      (first
                        | (go_at_call 42; (with_reducible refine Calls.mono (HF.out _ ?_) ?_); (exact (Below.refl _ _).drew); rintro e w' ⟨A8, c8, rfl, ho8, hb⟩)
                        | (go_at_call 41; (with_reducible refine Calls.mono (HA.out _ _ _ ?_) ?_); (first | assumption | exact Own9.go ‹_› (below_drewN (Below.refl _ _) _)); rintro e w' ⟨v', L', rfl, hj, hsw⟩)
                        | fail)
                    obtain ⟨hla2, ht2, hl2⟩ := HFIN.out L' hj
                    have HT2 := Lib.hid ht2; have HLA2 := Lib.hid hla2; have HSW := Lib.hid hsw
                    clear hj hsw hla2 ht2 HFIN HF HA E00 E0
                    go_wp2_with fail
                    go_roundw
                    case rel => exact ⟨k + 1, L', _, Or.inl (by omega), by go_num, rfl, HT2, HSW, hl2, HLA2⟩
                    case measure => simp [intOf]; omega
              · have hXle : X.length ≤ k + 1 := by omega
                have r1 : IntKind.i64.wrap ((k : Int) + 1) = (k : Int) + 1 := IntWalk.i64_in _ (by omega)
                have m2 : ¬ (k : Int) + 1 < (X.length : Int) := by omega
                have HTE : Hid (svS L = solB l) := Lib.hid (by rw [HT3.out, List.take_of_length_le hXle, HSX.out])
                have hLl : L.length ≤ 1099511627776 := by omega
                obtain ⟨A5, c5, hv5, hs5⟩ := HS.out.sin hLl (fun t ht => by have := HLA.out t ht; omega)
                rw [HTE.out] at hv5 hs5
                subst hv5
                have HEN := Lib.hid (dend_any A5 c5 (solB l) wr hs5)
                have HS5 := Lib.hid hs5
                have HB5 := Lib.hid (HX.out.1.trans (HS.out.bel.mono HX.out.1.size))
                clear hs5 HT3 HS HLA HTE HSX
                generalize solB l = S at *
                generalize capS S = x at *
                go_wp2_with fail
                refine HEN.out.mono ?_
                rintro e w5 ⟨⟨h1, h2, rfl⟩ | ⟨h1, h2, rfl⟩, hb5⟩
                · have HFN : Hid (SolRes x w (.returned (.tuple #[.slice A5 S.length c5, .int .i64 0])) w5) := Lib.hid ⟨A5, c5, by rw [h1, h2], by rw [h2]; exact HS5.out.below hb5, HB5.out.trans (hb5.mono HB5.out.size)⟩
                  clear h1 h2 hb5
                  go_wp2_with fail
                  go_ret2
                  rw [HOX.out]
                  exact HFN.out
                · have HFN : Hid (SolRes x w (.returned (.tuple #[.slice none 0 0, .int .i64 6])) w5) := Lib.hid ⟨none, 0, by rw [h1, h2]; rfl, by rw [h2]; exact SIn.nil _, HB5.out.trans (hb5.mono HB5.out.size)⟩
                  clear h1 h2 hb5
                  go_wp2_with fail
                  go_ret2
                  rw [HOX.out]
                  exact HFN.out
end Go.Proofs.YtdnoadngfkiabaaGreat
