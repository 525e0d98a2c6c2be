/-
  Contracts of the reference of layer 9, 9: combine, Union, Common, Minus.
-/
import Derived.Test.YtdnoadngfkiabaaGreatS930
import Derived.Test.YtdnoadngfkiabaaGreatS938
import Derived.Test.YtdnoadngfkiabaaGreatS939
import Derived.Test.YtdnoadngfkiabaaGreatS940
set_option linter.unusedVariables false
set_option maxRecDepth 100000
namespace Go.Proofs.YtdnoadngfkiabaaGreat
open Go.RowKit

theorem comb9_and : CombOk 1 and := vcombine_and
theorem comb9_sub : CombOk 2 andnot := vcombine_sub
theorem srtS_next (P : List Int) (S : List Sl) (k : Nat) (h : k < S.length) : sortS (P ++ htS (S.take (k + 1))) = insS S[k].z1 (insS S[k].z0 (sortS (P ++ htS (S.take k)))) := by
  rw [htS_next S k h, show P ++ (htS (S.take k) ++ [S[k].z0, S[k].z1]) = (P ++ htS (S.take k)) ++ [S[k].z0] ++ [S[k].z1] by simp, sortS_snoc, sortS_snoc]
theorem srtS_len (P : List Int) (S : List Sl) (k : Nat) (hP : P.length ≤ 160) (hS : S.length ≤ 80) : (sortS (P ++ htS (S.take k))).length ≤ 320 := by
  have := sortS_len (P ++ htS (S.take k)) (P ++ htS (S.take k)).length (Nat.le_refl _)
  rw [List.take_length, List.length_append, htS_len, List.length_take] at this
  omega
theorem secS_len {S : List Sl} (h : SolP S) (z : Int) : (secS S z).length ≤ 200 := by
  by_cases e : secS S z = []
  · rw [e]; simp
  · obtain ⟨s, hs, _, _, e2⟩ := sec_mem e
    rw [← e2]; exact h.rects s hs
/-- two own rows of rectangles. -/
structure Two9 (C1 : List Rc) (n1 : Nat) (A1 : Option Addr) (c1 : Nat) (C2 : List Rc) (n2 : Nat) (A2 : Option Addr) (c2 : Nat) (wr w : World) : Prop where
  o1 : Own9 C1 n1 wr w A1 c1
  o2 : Own9 C2 n2 wr w A2 c2
theorem Two9.go {C1 : List Rc} {n1 : Nat} {A1 : Option Addr} {c1 : Nat} {C2 : List Rc} {n2 : Nat} {A2 : Option Addr} {c2 : Nat} {wr w w' : World} (h : Two9 C1 n1 A1 c1 C2 n2 A2 c2 wr w) (hb : Below w.heap.size w w') : Two9 C1 n1 A1 c1 C2 n2 A2 c2 wr w' := ⟨h.o1.go hb, h.o2.go hb⟩
def Sec2Is (C1 : List Rc) (n1 : Nat) (A1 : Option Addr) (c1 : Nat) (C2 : List Rc) (n2 : Nat) (wr w : World) (e : Ending) (w' : World) : Prop := ∃ A2 c2, e = .returned (.slice A2 n2 c2) ∧ Two9 C1 n1 A1 c1 C2 n2 A2 c2 wr w' ∧ Below w.heap.size w w'
theorem sec_is {A : Option Addr} {cap n nc : Nat} {S : List Sl} {C : List Rc} {z : Int} {wr w : World} (h : SIn wr A cap S) (hs : SolP S) (hn : n = S.length) (hC : C = secS S z) (hnc : nc = C.length) (hb : Below wr.heap.size wr w) : Calls Tryz.prog 60 #[.slice A n cap, .int .i64 z] w (FormIs C nc wr w) := by
  subst hn; subst hC; subst hnc
  refine (dsec_any A cap S z w (h.below hb) (fun s hs' => (hs.form.each s hs').ne) (fun s hs' => by have := hs.rects s hs'; omega)).mono fun e w2 hk => ?_
  obtain ⟨v2, rfl, ho, hb2⟩ := hk
  obtain ⟨A', c', e1, _⟩ := own_parts ho
  subst e1
  exact ⟨A', c', rfl, ⟨own_base ho hb.size, hb.trans (hb2.mono hb.size)⟩, hb2⟩

set_option maxHeartbeats 40000000 in
theorem dcomb_yes (n : Int) (op : Bool → Bool → Bool) (h0 : op false false = false) (hop : CombOk n op) (Aa : Option Addr) (ca : Nat) (Sa : List Sl) (Ab : Option Addr) (cb : Nat) (Sb : List Sl) (w : World) (ha : SIn w Aa ca Sa) (hb : SIn w Ab cb Sb) (hsa : SolP Sa) (hsb : SolP Sb) :
    Calls Tryz.prog 58 #[.slice Aa Sa.length ca, .slice Ab Sb.length cb, .int .i64 n] w (SolRes (opS op Sa Sb) w) := by
  have HRA := Lib.hid (fun w' (hb : Below w.heap.size w w') => dright_yes (ha.below hb) hsa)
  have HRB := Lib.hid (fun w' (hh : Below w.heap.size w w') => dright_yes (hb.below hh) hsb)
  have HA1 := Lib.hid ha.row
  have HB1 := Lib.hid hb.row
  have HIA := Lib.hid ha; have HIB := Lib.hid hb
  have HSA := Lib.hid hsa; have HSB := Lib.hid hsb
  have la80 := hsa.len
  have lb80 := hsb.len
  have HOX : Hid (opS op Sa Sb = capS (solO op Sa Sb)) := Lib.hid (opS_cap hsa hsb)
  clear ha hb hsa hsb
  go_enter Tryz.func58, Tryz.ntmps58
  go_wp2_with fail
  with_reducible refine Calls.mono (HRA.out _ (Below.refl _ _)) ?_
  rintro e v1 ⟨rfl, hb1⟩
  go_wp2_with fail
  with_reducible refine Calls.mono (HRB.out _ hb1) ?_
  rintro e v2 ⟨rfl, hb2⟩
  have HBV := Lib.hid (hb1.trans (hb2.mono hb1.size))
  clear hb1 hb2 HRA HRB
  have KA0 : Hid (Below w.heap.size w v2 ∧ IIn v2 none 0 (sortS (htS (Sa.take 0)))) := Lib.hid ⟨HBV.out, ⟨IRow.nil _ _, trivial, by simp [htS, sortS], by simp [htS, sortS], by omega, fun _ => ⟨rfl, rfl⟩⟩⟩
  clear HBV
  go_wp2_with fail
  go_loopw [8, 9] (fun z i wr => ∃ (k : Nat) (A1 : Option Addr) (c1 nz : Nat), k ≤ Sa.length ∧ i = .int .i64 k ∧ z = .slice A1 nz c1 ∧ Hid (nz = (sortS (htS (Sa.take k))).length) ∧ Hid (Below w.heap.size w wr ∧ IIn wr A1 c1 (sortS (htS (Sa.take k))))) (fun _ i _ => Sa.length - (intOf i).toNat)
  case atStart => exact ⟨0, none, 0, 0, Nat.zero_le _, rfl, rfl, Lib.hid (by simp [htS, sortS]), KA0⟩
  case round =>
    clear KA0
    obtain ⟨k, A1, cA, nz, hk, rfl, rfl, HNL, HK⟩ := hrel
    by_cases hlt : k < Sa.length
    · obtain ⟨b1, o1, rfl, hb1, hv1⟩ := HA1.out (by omega)
      obtain ⟨x4, x5, _⟩ := hv1 k hlt
      have wc := fun o => HK.out.1.cell (p := ⟨b1, o, none⟩) hb1
      have x4 := (wc _).trans x4; have x5 := (wc _).trans x5
      have hbw : b1 < wr.heap.size := Nat.lt_of_lt_of_le hb1 HK.out.1.size
      have n0 : (0 : Int) ≤ (k : Int) := by omega
      have n1 : (k : Int) < (Sa.length : Int) := by omega
      have HSN : Hid (sortS (htS (Sa.take (k + 1))) = insS Sa[k].z1 (insS Sa[k].z0 (sortS (htS (Sa.take k))))) := Lib.hid (srtS_next [] Sa k hlt)
      have hsl : (sortS (htS (Sa.take k))).length ≤ 320 := srtS_len [] Sa k (by first | (rw [htS_len]; omega) | simp) (by omega)
      clear hv1 wc
      obtain ⟨u, hu⟩ : ∃ u, u = Sa[k] := ⟨_, rfl⟩
      rw [← hu] at x4 x5 HSN
      clear hu
      obtain ⟨t, ht⟩ : ∃ t, t = sortS (htS (Sa.take k)) := ⟨_, rfl⟩
      rw [← ht] at HNL HK HSN hsl
      clear ht
      have hi1 := insS_len u.z0 t
      obtain ⟨T1, hT1⟩ : ∃ T1, T1 = insS u.z0 t := ⟨_, rfl⟩
      obtain ⟨T2, hT2⟩ : ∃ T2, T2 = insS u.z1 T1 := ⟨_, rfl⟩
      obtain ⟨m1, hm1⟩ : ∃ m1, m1 = T1.length := ⟨_, rfl⟩
      obtain ⟨m2, hm2⟩ : ∃ m2, m2 = T2.length := ⟨_, rfl⟩
      have HI1 : Hid (∀ w', IIn w' A1 cA t → Calls Tryz.prog 40 #[.slice A1 nz cA, .int .i64 u.z0] w' (Ins9 T1 m1 w')) := Lib.hid (fun w' h => by
        have := dins_at A1 cA t u.z0 w' h (by omega)
        rw [← HNL.out, ← hT1] at this
        rw [hm1]; exact this)
      have HI2 : Hid (∀ w' A2 c2, IIn w' A2 c2 T1 → Calls Tryz.prog 40 #[.slice A2 m1 c2, .int .i64 u.z1] w' (Ins9 T2 m2 w')) := Lib.hid (fun w' A2 c2 h => by
        have := dins_at A2 c2 T1 u.z1 w' h (by rw [hT1]; omega)
        rw [← hm1, ← hT2] at this
        rw [hm2]; exact this)
      rw [← hT1, ← hT2] at HSN
      have HM2 := Lib.hid hm2
      clear hT1 hT2 hm1 hm2
      have EJ : Hid (Zw9 b1 (o1 + k * 3) (o1 + k * 3 + 1) u.z0 u.z1 A1 cA t w wr) := Lib.hid ⟨x4, x5, hbw, HK⟩
      clear hsl hi1
      go_wp2_with fail
      go_region_held3 (fun w' => w'.cell? ⟨b1, o1 + k * 3, none⟩ = some (.int .i64 u.z0) ∧ w'.cell? ⟨b1, o1 + k * 3 + 1, none⟩ = some (.int .i64 u.z1) ∧ b1 < w'.heap.size ∧ Hid (Below w.heap.size w w' ∧ IIn w' A1 cA t))
        (first | exact EJ.out | exact Zw9.drewN EJ.out 1 | exact Zw9.go ‹_› ‹_› | assumption)
        (first
          | (go_at_call 40; (with_reducible refine Calls.mono (HI1.out _ ?_) ?_); (exact (Zw9.drewN EJ.out 1).2.2.2.out.2); rintro e w' ⟨A2, c2, rfl, hi2, hb⟩)
          | (go_at_call 40; (with_reducible refine Calls.mono (HI2.out _ _ _ ?_) ?_); (first | assumption | exact IIn.below ‹_› (below_drewN (Below.refl _ _) _)); rintro e w' ⟨A3, c3, rfl, hi3, hb⟩)
          | fail)
      have E2 : Zw9 b1 (o1 + k * 3) (o1 + k * 3 + 1) u.z0 u.z1 A1 cA t w w' := by assumption
      have HK2 : Hid (Below w.heap.size w w' ∧ IIn w' A3 c3 T2) := Lib.hid ⟨E2.2.2.2.out.1, hi3⟩
      clear E2 EJ HI1 HI2 hi3 hi2 hb
      go_wp2_with fail
      go_roundw
      case rel => exact ⟨k + 1, A3, c3, m2, by omega, by go_num, rfl, Lib.hid (by rw [HSN.out, HM2.out]), Lib.hid (by rw [HSN.out]; exact HK2.out)⟩
      case measure => simp [intOf]; omega
    · obtain rfl : k = Sa.length := by omega
      rw [List.take_length] at HNL HK
      clear HA1
      have KB0 : Hid (Below w.heap.size w wr ∧ IIn wr A1 cA (sortS (htS Sa ++ htS (Sb.take 0)))) := Lib.hid (by have := HK.out; rw [show htS Sa ++ htS (Sb.take 0) = htS Sa from by simp [htS]]; exact this)
      have HNB : Hid (nz = (sortS (htS Sa ++ htS (Sb.take 0))).length) := Lib.hid (by have := HNL.out; rw [show htS Sa ++ htS (Sb.take 0) = htS Sa from by simp [htS]]; exact this)
      clear HK HNL
      go_wp2_with fail
      go_loopw [8, 10] (fun z i wr => ∃ (k : Nat) (A1 : Option Addr) (c1 nz : Nat), k ≤ Sb.length ∧ i = .int .i64 k ∧ z = .slice A1 nz c1 ∧ Hid (nz = (sortS (htS Sa ++ htS (Sb.take k))).length) ∧ Hid (Below w.heap.size w wr ∧ IIn wr A1 c1 (sortS (htS Sa ++ htS (Sb.take k))))) (fun _ i _ => Sb.length - (intOf i).toNat)
      case atStart => exact ⟨0, _, _, nz, Nat.zero_le _, rfl, rfl, HNB, KB0⟩
      case round =>
        clear KB0
        obtain ⟨k, A1, cA, ny, hk, rfl, rfl, HNL, HK⟩ := hrel
        by_cases hlt : k < Sb.length
        · obtain ⟨b1, o1, rfl, hb1, hv1⟩ := HB1.out (by omega)
          obtain ⟨x4, x5, _⟩ := hv1 k hlt
          have wc := fun o => HK.out.1.cell (p := ⟨b1, o, none⟩) hb1
          have x4 := (wc _).trans x4; have x5 := (wc _).trans x5
          have hbw : b1 < wr.heap.size := Nat.lt_of_lt_of_le hb1 HK.out.1.size
          have n0 : (0 : Int) ≤ (k : Int) := by omega
          have n1 : (k : Int) < (Sb.length : Int) := by omega
          have HSN : Hid (sortS (htS Sa ++ htS (Sb.take (k + 1))) = insS Sb[k].z1 (insS Sb[k].z0 (sortS (htS Sa ++ htS (Sb.take k))))) := Lib.hid (srtS_next (htS Sa) Sb k hlt)
          have hsl : (sortS (htS Sa ++ htS (Sb.take k))).length ≤ 320 := srtS_len (htS Sa) Sb k (by first | (rw [htS_len]; omega) | simp) (by omega)
          clear hv1 wc
          obtain ⟨u, hu⟩ : ∃ u, u = Sb[k] := ⟨_, rfl⟩
          rw [← hu] at x4 x5 HSN
          clear hu
          obtain ⟨t, ht⟩ : ∃ t, t = sortS (htS Sa ++ htS (Sb.take k)) := ⟨_, rfl⟩
          rw [← ht] at HNL HK HSN hsl
          clear ht
          have hi1 := insS_len u.z0 t
          obtain ⟨T1, hT1⟩ : ∃ T1, T1 = insS u.z0 t := ⟨_, rfl⟩
          obtain ⟨T2, hT2⟩ : ∃ T2, T2 = insS u.z1 T1 := ⟨_, rfl⟩
          obtain ⟨m1, hm1⟩ : ∃ m1, m1 = T1.length := ⟨_, rfl⟩
          obtain ⟨m2, hm2⟩ : ∃ m2, m2 = T2.length := ⟨_, rfl⟩
          have HI1 : Hid (∀ w', IIn w' A1 cA t → Calls Tryz.prog 40 #[.slice A1 ny cA, .int .i64 u.z0] w' (Ins9 T1 m1 w')) := Lib.hid (fun w' h => by
            have := dins_at A1 cA t u.z0 w' h (by omega)
            rw [← HNL.out, ← hT1] at this
            rw [hm1]; exact this)
          have HI2 : Hid (∀ w' A2 c2, IIn w' A2 c2 T1 → Calls Tryz.prog 40 #[.slice A2 m1 c2, .int .i64 u.z1] w' (Ins9 T2 m2 w')) := Lib.hid (fun w' A2 c2 h => by
            have := dins_at A2 c2 T1 u.z1 w' h (by rw [hT1]; omega)
            rw [← hm1, ← hT2] at this
            rw [hm2]; exact this)
          rw [← hT1, ← hT2] at HSN
          have HM2 := Lib.hid hm2
          clear hT1 hT2 hm1 hm2
          have EJ : Hid (Zw9 b1 (o1 + k * 3) (o1 + k * 3 + 1) u.z0 u.z1 A1 cA t w wr) := Lib.hid ⟨x4, x5, hbw, HK⟩
          clear hsl hi1
          go_wp2_with fail
          go_region_held3 (fun w' => w'.cell? ⟨b1, o1 + k * 3, none⟩ = some (.int .i64 u.z0) ∧ w'.cell? ⟨b1, o1 + k * 3 + 1, none⟩ = some (.int .i64 u.z1) ∧ b1 < w'.heap.size ∧ Hid (Below w.heap.size w w' ∧ IIn w' A1 cA t))
            (first | exact EJ.out | exact Zw9.drewN EJ.out 1 | exact Zw9.go ‹_› ‹_› | assumption)
            (first
              | (go_at_call 40; (with_reducible refine Calls.mono (HI1.out _ ?_) ?_); (exact (Zw9.drewN EJ.out 1).2.2.2.out.2); rintro e w' ⟨A2, c2, rfl, hi2, hb⟩)
              | (go_at_call 40; (with_reducible refine Calls.mono (HI2.out _ _ _ ?_) ?_); (first | assumption | exact IIn.below ‹_› (below_drewN (Below.refl _ _) _)); rintro e w' ⟨A3, c3, rfl, hi3, hb⟩)
              | fail)
          have E2 : Zw9 b1 (o1 + k * 3) (o1 + k * 3 + 1) u.z0 u.z1 A1 cA t w w' := by assumption
          have HK2 : Hid (Below w.heap.size w w' ∧ IIn w' A3 c3 T2) := Lib.hid ⟨E2.2.2.2.out.1, hi3⟩
          clear E2 EJ HI1 HI2 hi3 hi2 hb
          go_wp2_with fail
          go_roundw
          case rel => exact ⟨k + 1, A3, c3, m2, by omega, by go_num, rfl, Lib.hid (by rw [HSN.out, HM2.out]), Lib.hid (by rw [HSN.out]; exact HK2.out)⟩
          case measure => simp [intOf]; omega
        · obtain rfl : k = Sb.length := by omega
          rw [List.take_length] at HNL HK
          clear HB1
          obtain ⟨X, hX⟩ : ∃ X, X = sortS (htS Sa ++ htS Sb) := ⟨_, rfl⟩
          have hXl : X.length ≤ 320 := by
            have := srtS_len (htS Sa) Sb Sb.length (by rw [htS_len]; omega) (by omega)
            rw [List.take_length, ← hX] at this; exact this
          have HX : Hid (Below w.heap.size w wr ∧ IIn wr A1 cA X) := Lib.hid (by rw [hX]; exact HK.out)
          have HXN : Hid (ny = X.length) := Lib.hid (by rw [hX]; exact HNL.out)
          have HSX : Hid (solO op Sa Sb = solGo (secO op Sa Sb) [] X) := Lib.hid (by rw [hX]; rfl)
          clear hX HK HNL
          obtain rfl := HXN.out
          clear HXN
          obtain ⟨wB, hwB⟩ : ∃ x, x = wr := ⟨_, rfl⟩
          subst hwB
          have K1 : Hid (SW (.slice none 0 0) [] wB wB) := Lib.hid (SW.nil wB)
          have T1 : Hid (svS [] = solGo (secO op Sa Sb) [] (X.take (0 + 1))) := Lib.hid (by cases X <;> rfl)
          go_wp2_with fail
          go_loopw [11, 12] (fun v i wr => ∃ (k : Nat) (L : List SlV) (v0 : Value), (k + 1 ≤ X.length ∨ k = 0) ∧ i = .int .i64 k ∧ v0 = v ∧ Hid (svS L = solGo (secO op Sa Sb) [] (X.take (k + 1))) ∧ Hid (SW v0 L wB wr) ∧ L.length ≤ k ∧ Hid (∀ t ∈ L, t.s.ar.length ≤ 1000000)) (fun _ i _ => X.length - (intOf i).toNat)
          case atStart => exact ⟨0, [], _, Or.inr rfl, rfl, rfl, T1, K1, Nat.le_refl _, Lib.hid (fun t ht => by cases ht)⟩
          case round =>
            clear K1 T1
            obtain ⟨k, L, v, hk1, rfl, rfl, HT3, HS, hL, HLA⟩ := hrel
            by_cases hlt : k + 1 < X.length
            · obtain ⟨bx, ox, rfl, hbx, hcx⟩ := HX.out.2.row (by omega)
              have XA := Lib.hid (hcx k (by omega)); have XB := Lib.hid (hcx (k + 1) hlt)
              have r1 : IntKind.i64.wrap ((k : Int) + 1) = (k : Int) + 1 := IntWalk.i64_in _ (by omega)
              have m0 : (0 : Int) ≤ (k : Int) := by omega
              have m1 : (k : Int) < (X.length : Int) := by omega
              have m2 : (k : Int) + 1 < (X.length : Int) := by omega
              have m3 : (0 : Int) ≤ (k : Int) + 1 := by omega
              obtain ⟨a, ha⟩ : ∃ a, a = X[k]'(by omega) := ⟨_, rfl⟩
              obtain ⟨b, hb⟩ : ∃ b, b = X[k + 1] := ⟨_, rfl⟩
              rw [← ha] at XA; rw [← hb] at XB
              clear hcx
              have HAB := Lib.hid (And.intro ha hb); clear ha hb
              have hsq : (formO op (secS Sa a) (secS Sb a)).length ≤ 1000000 := by
                have h1 := formO_sq op (sec_ok HSA.out.form a) (sec_ok HSB.out.form a)
                have h2 := secS_len HSA.out a
                have h3 := secS_len HSB.out a
                have h4 := Nat.mul_le_mul (show (secS Sa a).length + (secS Sb a).length ≤ 400 by omega) (show (secS Sa a).length + (secS Sb a).length ≤ 400 by omega)
                omega
              obtain ⟨C1, hC1⟩ : ∃ C1, C1 = secS Sa a := ⟨_, rfl⟩
              obtain ⟨C2, hC2⟩ : ∃ C2, C2 = secS Sb a := ⟨_, rfl⟩
              obtain ⟨q1, hq1⟩ : ∃ q1, q1 = C1.length := ⟨_, rfl⟩
              obtain ⟨q2, hq2⟩ : ∃ q2, q2 = C2.length := ⟨_, rfl⟩
              obtain ⟨C, hC⟩ : ∃ C, C = formO op (secS Sa a) (secS Sb a) := ⟨_, rfl⟩
              obtain ⟨nc, hnc⟩ : ∃ nc, nc = C.length := ⟨_, rfl⟩
              have BWR : Below w.heap.size w wr := HX.out.1.trans (HS.out.bel.mono HX.out.1.size)
              have HC1 : Hid (∀ w', Below wr.heap.size wr w' → Calls Tryz.prog 60 #[.slice Aa Sa.length ca, .int .i64 a] w' (FormIs C1 q1 wr w')) := Lib.hid (fun w' hb => sec_is (HIA.out.below BWR) HSA.out rfl hC1 hq1 hb)
              have HC2 : Hid (∀ w' A8 c8, Own9 C1 q1 wr w' A8 c8 → Calls Tryz.prog 60 #[.slice Ab Sb.length cb, .int .i64 a] w' (Sec2Is C1 q1 A8 c8 C2 q2 wr w')) := Lib.hid (fun w' A8 c8 ho => (sec_is (HIB.out.below BWR) HSB.out rfl hC2 hq2 ho.bel).mono (fun e w2 hk => by
                obtain ⟨A9, c9, rfl, ho9, hb9⟩ := hk
                exact ⟨A9, c9, rfl, ⟨ho.go hb9, ho9⟩, hb9⟩))
              have HF : Hid (∀ w' A8 c8 A9 c9, Two9 C1 q1 A8 c8 C2 q2 A9 c9 wr w' → Calls Tryz.prog 42 #[.slice A8 q1 c8, .slice A9 q2 c9, .int .i64 n] w' (FormIs C nc wr w')) := Lib.hid (fun w' A8 c8 A9 c9 ht => by
                have p1 := ht.o1.own; have p2 := ht.o2.own
                have l1 := secS_len HSA.out a; have l2 := secS_len HSB.out a
                have k1 := sec_ok HSA.out.form a; have k2 := sec_ok HSB.out.form a
                rw [← hC1] at l1 k1; rw [← hC2] at l2 k2
                rw [hq1] at p1; rw [hq2] at p2
                obtain ⟨A8', c8', e8, r8, _⟩ := own_rects p1
                obtain ⟨A9', c9', e9, r9, _⟩ := own_rects p2
                injection e8 with e8 _ _
                injection e9 with e9 _ _
                subst e8; subst e9
                have := vForm_any n op h0 hop A8 c8 A9 c9 C1 C2 w' r8 r9 (by omega) (by omega) k1 k2
                rw [hq1, hq2]
                refine this.mono fun e w2 hk => ?_
                obtain ⟨v2, rfl, ho, hb2⟩ := hk
                rw [hC1, hC2, ← hC, ← hnc] at ho
                obtain ⟨A', c', e1, _⟩ := own_parts ho
                subst e1
                exact ⟨A', c', rfl, ⟨own_base ho ht.o1.bel.size, ht.o1.bel.trans (hb2.mono ht.o1.bel.size)⟩, hb2⟩)
              have HA : Hid (∀ w' A' c', Own9 C nc wr w' A' c' → Calls Tryz.prog 41 #[v, .int .i64 a, .int .i64 b, .slice A' nc c'] w' (JoinIs L ⟨⟨a, b, C⟩, A', c'⟩ wB w')) := Lib.hid (fun w' A' c' ho => by
                have h1 := ho.own
                rw [hnc] at h1 ⊢
                exact dadd_any L v ⟨⟨a, b, C⟩, A', c'⟩ wB w' (HS.out.go ho.bel) (own_base h1 HS.out.bel.size) (by omega) HLA.out (by rw [hC]; exact hsq))
              have HNX := Lib.hid (solGo_next (secO op Sa Sb) X k hlt)
              have E00 : Hid (Zx9 bx (ox + k) (ox + (k + 1)) a b wB wB) := Lib.hid ⟨XA.out, XB.out, hbx, hbx, Lib.hid (Below.refl _ _)⟩
              have E0 : Hid (Zx9 bx (ox + k) (ox + (k + 1)) a b wB wr) := Lib.hid (E00.out.of HS.out.bel)
              have HFIN : Hid (∀ L' : List SlV, svS L' = joinS (svS L) ⟨a, b, C⟩ → (∀ t ∈ L', t.s.ar.length ≤ 1000000) ∧ svS L' = solGo (secO op Sa Sb) [] (X.take (k + 1 + 1)) ∧ L'.length ≤ k + 1) := Lib.hid (fun L' hj => by
                have hja := join_len (svS L) ⟨a, b, C⟩
                rw [← hj, svS_len, svS_len] at hja
                refine ⟨fun t ht => ?_, ?_, by omega⟩
                · have hm : t.s ∈ joinS (svS L) ⟨a, b, C⟩ := by rw [← hj]; exact List.mem_map_of_mem ht
                  rcases join_mem hm with e | ⟨u, hu, e⟩
                  · rw [e]; show C.length ≤ _; rw [hC]; exact hsq
                  · obtain ⟨q, hq, rfl⟩ := List.mem_map.1 hu
                    rw [← e]; exact HLA.out q hq
                · rw [hj, HNX.out, ← HT3.out, ← HAB.out.1, ← HAB.out.2, hC]; rfl)
              obtain ⟨x0, x1, _, xg, _⟩ := E0.out
              clear hsq hC hnc hC1 hC2 hq1 hq2 HNX HLA HT3 HS BWR la80 lb80
              go_wp2_with fail
              go_region_held3 (fun w' => w'.cell? ⟨bx, ox + k, none⟩ = some (.int .i64 a) ∧ w'.cell? ⟨bx, ox + (k + 1), none⟩ = some (.int .i64 b) ∧ bx < wB.heap.size ∧ bx < w'.heap.size ∧ Hid (Below wB.heap.size wB w'))
                (first | exact E0.out | exact Zx9.drewN E0.out 1 | exact Zx9.of E00.out (SW.bel ‹_›) | exact Zx9.go ‹_› ‹_› | assumption)
                (first
                  | (go_at_call 60; (with_reducible refine Calls.mono (HC1.out _ ?_) ?_); (exact (Below.refl _ _).drew); rintro e w' ⟨A8, c8, rfl, ho8, hb⟩)
                  | (go_at_call 60; (with_reducible refine Calls.mono (HC2.out _ A8 c8 ?_) ?_); (first | assumption | exact Own9.go ‹_› (below_drewN (Below.refl _ _) _)); rintro e w' ⟨A9, c9, rfl, ht9, hb⟩)
                  | (go_at_call 42; (with_reducible refine Calls.mono (HF.out _ A8 c8 A9 c9 ?_) ?_); (first | assumption | exact Two9.go ‹_› (below_drewN (Below.refl _ _) _)); rintro e w' ⟨A7, c7, rfl, ho7, hb⟩)
                  | (go_at_call 41; (with_reducible refine Calls.mono (HA.out _ A7 c7 ?_) ?_); (first | assumption | exact Own9.go ‹Own9 C nc wr _ _ _› (below_drewN (Below.refl _ _) _)); rintro e w' ⟨v', L', rfl, hj, hsw⟩)
                  | fail)
              obtain ⟨hla2, ht2, hl2⟩ := HFIN.out L' hj
              have HT2 := Lib.hid ht2; have HLA2 := Lib.hid hla2; have HSW := Lib.hid hsw
              clear hj hsw hla2 ht2 HFIN HF HA HC1 HC2 E00 E0
              go_wp2_with fail
              go_roundw
              case rel => exact ⟨k + 1, L', _, Or.inl (by omega), by go_num, rfl, HT2, HSW, hl2, HLA2⟩
              case measure => simp [intOf]; omega
            · have hXle : X.length ≤ k + 1 := by omega
              have r1 : IntKind.i64.wrap ((k : Int) + 1) = (k : Int) + 1 := IntWalk.i64_in _ (by omega)
              have m2 : ¬ (k : Int) + 1 < (X.length : Int) := by omega
              have HTE : Hid (svS L = solO op Sa Sb) := Lib.hid (by rw [HT3.out, List.take_of_length_le hXle, HSX.out])
              have hLl : L.length ≤ 1099511627776 := by omega
              obtain ⟨A5, c5, hv5, hs5⟩ := HS.out.sin hLl (fun t ht => by have := HLA.out t ht; omega)
              rw [HTE.out] at hv5 hs5
              subst hv5
              have HEN := Lib.hid (dend_any A5 c5 (solO op Sa Sb) wr hs5)
              have HS5 := Lib.hid hs5
              have HB5 := Lib.hid (HX.out.1.trans (HS.out.bel.mono HX.out.1.size))
              clear hs5 HT3 HS HLA HTE HSX HSA HSB HIA HIB
              generalize solO op Sa Sb = S at *
              generalize capS S = x at *
              go_wp2_with fail
              refine HEN.out.mono ?_
              rintro e w5 ⟨⟨h1, h2, rfl⟩ | ⟨h1, h2, rfl⟩, hb5⟩
              · have HFN : Hid (SolRes x w (.returned (.tuple #[.slice A5 S.length c5, .int .i64 0])) w5) := Lib.hid ⟨A5, c5, by rw [h1, h2], by rw [h2]; exact HS5.out.below hb5, HB5.out.trans (hb5.mono HB5.out.size)⟩
                clear h1 h2 hb5
                go_wp2_with fail
                go_ret2
                rw [HOX.out]
                exact HFN.out
              · have HFN : Hid (SolRes x w (.returned (.tuple #[.slice none 0 0, .int .i64 6])) w5) := Lib.hid ⟨none, 0, by rw [h1, h2]; rfl, by rw [h2]; exact SIn.nil _, HB5.out.trans (hb5.mono HB5.out.size)⟩
                clear h1 h2 hb5
                go_wp2_with fail
                go_ret2
                rw [HOX.out]
                exact HFN.out

set_option maxHeartbeats 16000000 in
theorem dcomb_no (n : Int) (op : Bool → Bool → Bool) (Aa : Option Addr) (ca : Nat) (Sa : List Sl) (Ab : Option Addr) (cb : Nat) (Sb : List Sl) (w : World) (ha : SIn w Aa ca Sa) (hb : SIn w Ab cb Sb) (hs : ¬ (SolP Sa ∧ SolP Sb)) :
    Calls Tryz.prog 58 #[.slice Aa Sa.length ca, .slice Ab Sb.length cb, .int .i64 n] w (SolRes (opS op Sa Sb) w) := by
  rw [opS_arg hs]
  by_cases hsa : SolP Sa
  · have hsb : ¬ SolP Sb := fun h => hs ⟨hsa, h⟩
    have HRA := Lib.hid (fun w' (hb : Below w.heap.size w w') => dright_yes (ha.below hb) hsa)
    have HRB := Lib.hid (fun w' (hh : Below w.heap.size w w') => dright_no (hb.below hh) hsb)
    clear ha hb hsa hsb hs
    go_enter Tryz.func58, Tryz.ntmps58
    go_wp2_with fail
    with_reducible refine Calls.mono (HRA.out _ (Below.refl _ _)) ?_
    rintro e v1 ⟨rfl, hb1⟩
    go_wp2_with fail
    with_reducible refine Calls.mono (HRB.out _ hb1) ?_
    rintro e v2 ⟨rfl, hb2⟩
    have HBV := Lib.hid (hb1.trans (hb2.mono hb1.size))
    clear hb1 hb2 HRA HRB
    go_wp2_with fail
    go_ret2
    exact ⟨_, _, rfl, SIn.nil _, HBV.out⟩
  · have HRA := Lib.hid (fun w' (hb : Below w.heap.size w w') => dright_no (ha.below hb) hsa)
    clear ha hb hsa hs
    go_enter Tryz.func58, Tryz.ntmps58
    go_wp2_with fail
    with_reducible refine Calls.mono (HRA.out _ (Below.refl _ _)) ?_
    rintro e v1 ⟨rfl, hb1⟩
    have HBV := Lib.hid hb1
    clear hb1 HRA
    go_wp2_with fail
    go_ret2
    exact ⟨_, _, rfl, SIn.nil _, HBV.out⟩
theorem dcomb_any (n : Int) (op : Bool → Bool → Bool) (h0 : op false false = false) (hop : CombOk n op) (Aa : Option Addr) (ca : Nat) (Sa : List Sl) (Ab : Option Addr) (cb : Nat) (Sb : List Sl) (w : World) (ha : SIn w Aa ca Sa) (hb : SIn w Ab cb Sb) :
    Calls Tryz.prog 58 #[.slice Aa Sa.length ca, .slice Ab Sb.length cb, .int .i64 n] w (SolRes (opS op Sa Sb) w) := by
  by_cases h : SolP Sa ∧ SolP Sb
  · exact dcomb_yes n op h0 hop Aa ca Sa Ab cb Sb w ha hb h.1 h.2
  · exact dcomb_no n op Aa ca Sa Ab cb Sb w ha hb h

set_option maxHeartbeats 4000000 in
theorem dunion_any (Aa : Option Addr) (ca : Nat) (Sa : List Sl) (Ab : Option Addr) (cb : Nat) (Sb : List Sl) (w : World) (ha : SIn w Aa ca Sa) (hb : SIn w Ab cb Sb) :
    Calls Tryz.prog 21 #[.slice Aa Sa.length ca, .slice Ab Sb.length cb] w (SolRes (opS or Sa Sb) w) := by
  have H := Lib.hid (dcomb_any 0 or rfl comb_or Aa ca Sa Ab cb Sb w ha hb)
  clear ha hb
  obtain ⟨x1, x2, hx⟩ : ∃ x1 x2, opS or Sa Sb = (x1, x2) := ⟨_, _, rfl⟩
  rw [hx] at H ⊢
  clear hx
  go_enter Tryz.func21, Tryz.ntmps21
  go_wp2_with fail
  with_reducible refine Calls.mono H.out ?_
  rintro e w1 ⟨A, c, rfl, hs, hb⟩
  have HS := Lib.hid hs; have HB := Lib.hid hb
  clear hs hb H
  go_wp2_with fail
  go_ret2
  exact ⟨_, _, rfl, HS.out, HB.out⟩

set_option maxHeartbeats 4000000 in
theorem dcommon_any (Aa : Option Addr) (ca : Nat) (Sa : List Sl) (Ab : Option Addr) (cb : Nat) (Sb : List Sl) (w : World) (ha : SIn w Aa ca Sa) (hb : SIn w Ab cb Sb) :
    Calls Tryz.prog 23 #[.slice Aa Sa.length ca, .slice Ab Sb.length cb] w (SolRes (opS and Sa Sb) w) := by
  have H := Lib.hid (dcomb_any 1 and rfl comb9_and Aa ca Sa Ab cb Sb w ha hb)
  clear ha hb
  obtain ⟨x1, x2, hx⟩ : ∃ x1 x2, opS and Sa Sb = (x1, x2) := ⟨_, _, rfl⟩
  rw [hx] at H ⊢
  clear hx
  go_enter Tryz.func23, Tryz.ntmps23
  go_wp2_with fail
  with_reducible refine Calls.mono H.out ?_
  rintro e w1 ⟨A, c, rfl, hs, hb⟩
  have HS := Lib.hid hs; have HB := Lib.hid hb
  clear hs hb H
  go_wp2_with fail
  go_ret2
  exact ⟨_, _, rfl, HS.out, HB.out⟩

set_option maxHeartbeats 4000000 in
theorem dminus_any (Aa : Option Addr) (ca : Nat) (Sa : List Sl) (Ab : Option Addr) (cb : Nat) (Sb : List Sl) (w : World) (ha : SIn w Aa ca Sa) (hb : SIn w Ab cb Sb) :
    Calls Tryz.prog 24 #[.slice Aa Sa.length ca, .slice Ab Sb.length cb] w (SolRes (opS andnot Sa Sb) w) := by
  have H := Lib.hid (dcomb_any 2 andnot rfl comb9_sub Aa ca Sa Ab cb Sb w ha hb)
  clear ha hb
  obtain ⟨x1, x2, hx⟩ : ∃ x1 x2, opS andnot Sa Sb = (x1, x2) := ⟨_, _, rfl⟩
  rw [hx] at H ⊢
  clear hx
  go_enter Tryz.func24, Tryz.ntmps24
  go_wp2_with fail
  with_reducible refine Calls.mono H.out ?_
  rintro e w1 ⟨A, c, rfl, hs, hb⟩
  have HS := Lib.hid hs; have HB := Lib.hid hb
  clear hs hb H
  go_wp2_with fail
  go_ret2
  exact ⟨_, _, rfl, HS.out, HB.out⟩

end Go.Proofs.YtdnoadngfkiabaaGreat
