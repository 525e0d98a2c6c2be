/-
  OffsetGaps: the law's walk.
-/
import Derived.Test.YtcnojedijimheaaUa
import Derived.Test.YtcnojedijimheaaGi
set_option linter.unusedVariables false
set_option maxRecDepth 100000
namespace Go.Proofs.Ytcnojedijimheaa
open Go.RowKit

theorem comb_and : CombOk 1 and := vcombine_and
set_option maxHeartbeats 40000000 in
theorem zgaps_core (A : Option Addr) (c : Nat) (A2 : Option Addr) (c2 na nb : Nat) (ng nf : Nat) (d e n : Int) (ok : Bool) (w : World) (hd : 0 ≤ d) (hm : d < 1048576)
    (hF1 : ∀ w', Calls Try.prog 16 #[.slice A na c] w' (BlIs true w')) (hF2 : ∀ w', Calls Try.prog 16 #[.slice A2 nb c2] w' (BlIs true w'))
    (hR1 : ∀ w', Below w.heap.size w w' → Calls Try.prog 26 #[.slice A na c] w' (BlIs true w')) (hR2 : ∀ w', Below w.heap.size w w' → Calls Try.prog 26 #[.slice A2 nb c2] w' (BlIs true w'))
    (hG1 : ∀ w', Below w.heap.size w w' → Calls Try.prog 21 #[.slice A na c, .slice A2 nb c2] w' (fun e w2 => e = .returned (.tuple #[.int .i64 n, .bool ok]) ∧ Below w'.heap.size w' w2))
    (hG2 : ∀ w', Below w.heap.size w w' → Calls Try.prog 21 #[.slice A2 nb c2, .slice A na c] w' (fun e w2 => e = .returned (.tuple #[.int .i64 n, .bool ok]) ∧ Below w'.heap.size w' w2))
    (hG : ∀ w', Below w.heap.size w w' → Calls Try.prog 17 #[.slice A na c, .int .i64 (d + 1)] w' (fun x w2 => ∃ A3 c3, x = .returned (.tuple #[.slice A3 ng c3, .int .i64 e]) ∧ Below w'.heap.size w' w2 ∧ (e = 0 → ok = true → Calls Try.prog 29 #[.slice A3 ng c3, .slice A2 nb c2, .int .i64 1] w2 (fun x w4 => ∃ A5 c5, x = .returned (.slice A5 nf c5) ∧ Below w2.heap.size w2 w4))))
    (hn : 0 ≤ n) (hok : ok = (decide (0 < na) && decide (0 < nb))) (he : e = 0 ∨ e = 6) (hfin : e = 0 → ok = true → (n ≤ d ↔ 0 < nf)) :
    Calls Try.prog 8 #[.slice A na c, .slice A2 nb c2, .int .i64 d] w (BlIs true w) := by
  have HF1 := Lib.hid hF1; have HF2 := Lib.hid hF2; have HR1 := Lib.hid hR1; have HR2 := Lib.hid hR2; have G1 := Lib.hid hG1; have G2 := Lib.hid hG2; have GG := Lib.hid hG; have FIN := Lib.hid hfin
  have s0 : ¬ d < 0 := by omega
  have s2 : ¬ (1048576 : Int) ≤ d := by omega
  have s3 : ¬ n < 0 := by omega
  have q3 : IntKind.i64.wrap (d + 1) = d + 1 := IntWalk.i64_in _ (by omega)
  clear hF1 hF2 hR1 hR2 hG1 hG2 hG hfin hd hm hn
  by_cases ha : na = 0
  · subst ha
    obtain rfl : ok = false := by rw [hok]; simp
    clear hok
    by_cases hb : nb = 0
    · subst hb
      clear FIN
      rcases he with rfl | rfl
      · go_enter Try.func8, Try.ntmps8
        go_wp2_with fail
        refine (zsmall_any _).mono ?_
        rintro e1 w1 ⟨rfl, hb1⟩
        have HB1 := Lib.hid hb1; clear hb1
        go_wp2_with fail
        refine (HF1.out _).mono ?_
        rintro e2 w2 ⟨rfl, hb2⟩
        have HB2 := Lib.hid (HB1.out.trans (hb2.mono HB1.out.size)); clear hb2 HB1
        go_wp2_with fail
        refine (HF2.out _).mono ?_
        rintro e3 w3 ⟨rfl, hb3⟩
        have HB3 := Lib.hid (HB2.out.trans (hb3.mono HB2.out.size)); clear hb3 HB2
        go_wp2_with fail
        refine (HR1.out _ HB3.out).mono ?_
        rintro e4 w4 ⟨rfl, hb4⟩
        have HB4 := Lib.hid (HB3.out.trans (hb4.mono HB3.out.size)); clear hb4 HB3
        go_wp2_with fail
        refine (HR2.out _ HB4.out).mono ?_
        rintro e5 w5 ⟨rfl, hb5⟩
        have HB5 := Lib.hid (HB4.out.trans (hb5.mono HB4.out.size)); clear hb5 HB4
        go_wp2_with fail
        refine (G1.out _ HB5.out).mono ?_
        rintro e6 w6 ⟨rfl, hb6⟩
        have HB6 := Lib.hid (HB5.out.trans (hb6.mono HB5.out.size)); clear hb6 HB5
        go_wp2_with fail
        refine (G2.out _ HB6.out).mono ?_
        rintro e7 w7 ⟨rfl, hb7⟩
        have HB7 := Lib.hid (HB6.out.trans (hb7.mono HB6.out.size)); clear hb7 HB6
        go_wp2_with fail
        refine (GG.out _ HB7.out).mono ?_
        rintro e8 w8 ⟨A3, c3, rfl, hb8, hf⟩
        have HB8 := Lib.hid (HB7.out.trans (hb8.mono HB7.out.size)); clear hb8 HB7
        have FF := Lib.hid hf; clear hf
        go_wp2_with fail
        go_ret
        exact ⟨rfl, HB8.out⟩
      · go_enter Try.func8, Try.ntmps8
        go_wp2_with fail
        refine (zsmall_any _).mono ?_
        rintro e1 w1 ⟨rfl, hb1⟩
        have HB1 := Lib.hid hb1; clear hb1
        go_wp2_with fail
        refine (HF1.out _).mono ?_
        rintro e2 w2 ⟨rfl, hb2⟩
        have HB2 := Lib.hid (HB1.out.trans (hb2.mono HB1.out.size)); clear hb2 HB1
        go_wp2_with fail
        refine (HF2.out _).mono ?_
        rintro e3 w3 ⟨rfl, hb3⟩
        have HB3 := Lib.hid (HB2.out.trans (hb3.mono HB2.out.size)); clear hb3 HB2
        go_wp2_with fail
        refine (HR1.out _ HB3.out).mono ?_
        rintro e4 w4 ⟨rfl, hb4⟩
        have HB4 := Lib.hid (HB3.out.trans (hb4.mono HB3.out.size)); clear hb4 HB3
        go_wp2_with fail
        refine (HR2.out _ HB4.out).mono ?_
        rintro e5 w5 ⟨rfl, hb5⟩
        have HB5 := Lib.hid (HB4.out.trans (hb5.mono HB4.out.size)); clear hb5 HB4
        go_wp2_with fail
        refine (G1.out _ HB5.out).mono ?_
        rintro e6 w6 ⟨rfl, hb6⟩
        have HB6 := Lib.hid (HB5.out.trans (hb6.mono HB5.out.size)); clear hb6 HB5
        go_wp2_with fail
        refine (G2.out _ HB6.out).mono ?_
        rintro e7 w7 ⟨rfl, hb7⟩
        have HB7 := Lib.hid (HB6.out.trans (hb7.mono HB6.out.size)); clear hb7 HB6
        go_wp2_with fail
        refine (GG.out _ HB7.out).mono ?_
        rintro e8 w8 ⟨A3, c3, rfl, hb8, hf⟩
        have HB8 := Lib.hid (HB7.out.trans (hb8.mono HB7.out.size)); clear hb8 HB7
        have FF := Lib.hid hf; clear hf
        go_wp2_with fail
        go_ret
        exact ⟨rfl, HB8.out⟩
    · have b0 : 0 < nb := by omega
      have b1 : (0 : Int) < (nb : Int) := by omega
      have b2 : decide (0 < nb) = true := decide_eq_true b0
      have b3 : decide ((0 : Int) < (nb : Int)) = true := decide_eq_true b1
      clear hb
      clear FIN
      rcases he with rfl | rfl
      · go_enter Try.func8, Try.ntmps8
        go_wp2_with fail
        refine (zsmall_any _).mono ?_
        rintro e1 w1 ⟨rfl, hb1⟩
        have HB1 := Lib.hid hb1; clear hb1
        go_wp2_with fail
        refine (HF1.out _).mono ?_
        rintro e2 w2 ⟨rfl, hb2⟩
        have HB2 := Lib.hid (HB1.out.trans (hb2.mono HB1.out.size)); clear hb2 HB1
        go_wp2_with fail
        refine (HF2.out _).mono ?_
        rintro e3 w3 ⟨rfl, hb3⟩
        have HB3 := Lib.hid (HB2.out.trans (hb3.mono HB2.out.size)); clear hb3 HB2
        go_wp2_with fail
        refine (HR1.out _ HB3.out).mono ?_
        rintro e4 w4 ⟨rfl, hb4⟩
        have HB4 := Lib.hid (HB3.out.trans (hb4.mono HB3.out.size)); clear hb4 HB3
        go_wp2_with fail
        refine (HR2.out _ HB4.out).mono ?_
        rintro e5 w5 ⟨rfl, hb5⟩
        have HB5 := Lib.hid (HB4.out.trans (hb5.mono HB4.out.size)); clear hb5 HB4
        go_wp2_with fail
        refine (G1.out _ HB5.out).mono ?_
        rintro e6 w6 ⟨rfl, hb6⟩
        have HB6 := Lib.hid (HB5.out.trans (hb6.mono HB5.out.size)); clear hb6 HB5
        go_wp2_with fail
        refine (G2.out _ HB6.out).mono ?_
        rintro e7 w7 ⟨rfl, hb7⟩
        have HB7 := Lib.hid (HB6.out.trans (hb7.mono HB6.out.size)); clear hb7 HB6
        go_wp2_with fail
        refine (GG.out _ HB7.out).mono ?_
        rintro e8 w8 ⟨A3, c3, rfl, hb8, hf⟩
        have HB8 := Lib.hid (HB7.out.trans (hb8.mono HB7.out.size)); clear hb8 HB7
        have FF := Lib.hid hf; clear hf
        go_wp2_with fail
        go_ret
        exact ⟨rfl, HB8.out⟩
      · go_enter Try.func8, Try.ntmps8
        go_wp2_with fail
        refine (zsmall_any _).mono ?_
        rintro e1 w1 ⟨rfl, hb1⟩
        have HB1 := Lib.hid hb1; clear hb1
        go_wp2_with fail
        refine (HF1.out _).mono ?_
        rintro e2 w2 ⟨rfl, hb2⟩
        have HB2 := Lib.hid (HB1.out.trans (hb2.mono HB1.out.size)); clear hb2 HB1
        go_wp2_with fail
        refine (HF2.out _).mono ?_
        rintro e3 w3 ⟨rfl, hb3⟩
        have HB3 := Lib.hid (HB2.out.trans (hb3.mono HB2.out.size)); clear hb3 HB2
        go_wp2_with fail
        refine (HR1.out _ HB3.out).mono ?_
        rintro e4 w4 ⟨rfl, hb4⟩
        have HB4 := Lib.hid (HB3.out.trans (hb4.mono HB3.out.size)); clear hb4 HB3
        go_wp2_with fail
        refine (HR2.out _ HB4.out).mono ?_
        rintro e5 w5 ⟨rfl, hb5⟩
        have HB5 := Lib.hid (HB4.out.trans (hb5.mono HB4.out.size)); clear hb5 HB4
        go_wp2_with fail
        refine (G1.out _ HB5.out).mono ?_
        rintro e6 w6 ⟨rfl, hb6⟩
        have HB6 := Lib.hid (HB5.out.trans (hb6.mono HB5.out.size)); clear hb6 HB5
        go_wp2_with fail
        refine (G2.out _ HB6.out).mono ?_
        rintro e7 w7 ⟨rfl, hb7⟩
        have HB7 := Lib.hid (HB6.out.trans (hb7.mono HB6.out.size)); clear hb7 HB6
        go_wp2_with fail
        refine (GG.out _ HB7.out).mono ?_
        rintro e8 w8 ⟨A3, c3, rfl, hb8, hf⟩
        have HB8 := Lib.hid (HB7.out.trans (hb8.mono HB7.out.size)); clear hb8 HB7
        have FF := Lib.hid hf; clear hf
        go_wp2_with fail
        go_ret
        exact ⟨rfl, HB8.out⟩
  · have a0 : 0 < na := by omega
    have a1 : (0 : Int) < (na : Int) := by omega
    have a2 : decide (0 < na) = true := decide_eq_true a0
    have a3 : decide ((0 : Int) < (na : Int)) = true := decide_eq_true a1
    clear ha
    by_cases hb : nb = 0
    · subst hb
      obtain rfl : ok = false := by rw [hok]; simp
      clear hok
      clear FIN
      rcases he with rfl | rfl
      · go_enter Try.func8, Try.ntmps8
        go_wp2_with fail
        refine (zsmall_any _).mono ?_
        rintro e1 w1 ⟨rfl, hb1⟩
        have HB1 := Lib.hid hb1; clear hb1
        go_wp2_with fail
        refine (HF1.out _).mono ?_
        rintro e2 w2 ⟨rfl, hb2⟩
        have HB2 := Lib.hid (HB1.out.trans (hb2.mono HB1.out.size)); clear hb2 HB1
        go_wp2_with fail
        refine (HF2.out _).mono ?_
        rintro e3 w3 ⟨rfl, hb3⟩
        have HB3 := Lib.hid (HB2.out.trans (hb3.mono HB2.out.size)); clear hb3 HB2
        go_wp2_with fail
        refine (HR1.out _ HB3.out).mono ?_
        rintro e4 w4 ⟨rfl, hb4⟩
        have HB4 := Lib.hid (HB3.out.trans (hb4.mono HB3.out.size)); clear hb4 HB3
        go_wp2_with fail
        refine (HR2.out _ HB4.out).mono ?_
        rintro e5 w5 ⟨rfl, hb5⟩
        have HB5 := Lib.hid (HB4.out.trans (hb5.mono HB4.out.size)); clear hb5 HB4
        go_wp2_with fail
        refine (G1.out _ HB5.out).mono ?_
        rintro e6 w6 ⟨rfl, hb6⟩
        have HB6 := Lib.hid (HB5.out.trans (hb6.mono HB5.out.size)); clear hb6 HB5
        go_wp2_with fail
        refine (G2.out _ HB6.out).mono ?_
        rintro e7 w7 ⟨rfl, hb7⟩
        have HB7 := Lib.hid (HB6.out.trans (hb7.mono HB6.out.size)); clear hb7 HB6
        go_wp2_with fail
        refine (GG.out _ HB7.out).mono ?_
        rintro e8 w8 ⟨A3, c3, rfl, hb8, hf⟩
        have HB8 := Lib.hid (HB7.out.trans (hb8.mono HB7.out.size)); clear hb8 HB7
        have FF := Lib.hid hf; clear hf
        go_wp2_with fail
        go_ret
        exact ⟨rfl, HB8.out⟩
      · go_enter Try.func8, Try.ntmps8
        go_wp2_with fail
        refine (zsmall_any _).mono ?_
        rintro e1 w1 ⟨rfl, hb1⟩
        have HB1 := Lib.hid hb1; clear hb1
        go_wp2_with fail
        refine (HF1.out _).mono ?_
        rintro e2 w2 ⟨rfl, hb2⟩
        have HB2 := Lib.hid (HB1.out.trans (hb2.mono HB1.out.size)); clear hb2 HB1
        go_wp2_with fail
        refine (HF2.out _).mono ?_
        rintro e3 w3 ⟨rfl, hb3⟩
        have HB3 := Lib.hid (HB2.out.trans (hb3.mono HB2.out.size)); clear hb3 HB2
        go_wp2_with fail
        refine (HR1.out _ HB3.out).mono ?_
        rintro e4 w4 ⟨rfl, hb4⟩
        have HB4 := Lib.hid (HB3.out.trans (hb4.mono HB3.out.size)); clear hb4 HB3
        go_wp2_with fail
        refine (HR2.out _ HB4.out).mono ?_
        rintro e5 w5 ⟨rfl, hb5⟩
        have HB5 := Lib.hid (HB4.out.trans (hb5.mono HB4.out.size)); clear hb5 HB4
        go_wp2_with fail
        refine (G1.out _ HB5.out).mono ?_
        rintro e6 w6 ⟨rfl, hb6⟩
        have HB6 := Lib.hid (HB5.out.trans (hb6.mono HB5.out.size)); clear hb6 HB5
        go_wp2_with fail
        refine (G2.out _ HB6.out).mono ?_
        rintro e7 w7 ⟨rfl, hb7⟩
        have HB7 := Lib.hid (HB6.out.trans (hb7.mono HB6.out.size)); clear hb7 HB6
        go_wp2_with fail
        refine (GG.out _ HB7.out).mono ?_
        rintro e8 w8 ⟨A3, c3, rfl, hb8, hf⟩
        have HB8 := Lib.hid (HB7.out.trans (hb8.mono HB7.out.size)); clear hb8 HB7
        have FF := Lib.hid hf; clear hf
        go_wp2_with fail
        go_ret
        exact ⟨rfl, HB8.out⟩
    · have b0 : 0 < nb := by omega
      have b1 : (0 : Int) < (nb : Int) := by omega
      have b2 : decide (0 < nb) = true := decide_eq_true b0
      have b3 : decide ((0 : Int) < (nb : Int)) = true := decide_eq_true b1
      obtain rfl : ok = true := by rw [hok, a2, b2]; rfl
      clear hb hok
      rcases he with rfl | rfl
      · have FIN2 := Lib.hid (FIN.out rfl rfl)
        clear FIN
        by_cases hnd : n ≤ d
        · have f0 : 0 < nf := FIN2.out.1 hnd
          have f1 : (0 : Int) < (nf : Int) := by omega
          have f2 : decide (0 < nf) = true := decide_eq_true f0
          have f3 : decide ((0 : Int) < (nf : Int)) = true := decide_eq_true f1
          have d1 : decide (n ≤ d) = true := decide_eq_true hnd
          clear FIN2
          go_enter Try.func8, Try.ntmps8
          go_wp2_with fail
          refine (zsmall_any _).mono ?_
          rintro e1 w1 ⟨rfl, hb1⟩
          have HB1 := Lib.hid hb1; clear hb1
          go_wp2_with fail
          refine (HF1.out _).mono ?_
          rintro e2 w2 ⟨rfl, hb2⟩
          have HB2 := Lib.hid (HB1.out.trans (hb2.mono HB1.out.size)); clear hb2 HB1
          go_wp2_with fail
          refine (HF2.out _).mono ?_
          rintro e3 w3 ⟨rfl, hb3⟩
          have HB3 := Lib.hid (HB2.out.trans (hb3.mono HB2.out.size)); clear hb3 HB2
          go_wp2_with fail
          refine (HR1.out _ HB3.out).mono ?_
          rintro e4 w4 ⟨rfl, hb4⟩
          have HB4 := Lib.hid (HB3.out.trans (hb4.mono HB3.out.size)); clear hb4 HB3
          go_wp2_with fail
          refine (HR2.out _ HB4.out).mono ?_
          rintro e5 w5 ⟨rfl, hb5⟩
          have HB5 := Lib.hid (HB4.out.trans (hb5.mono HB4.out.size)); clear hb5 HB4
          go_wp2_with fail
          refine (G1.out _ HB5.out).mono ?_
          rintro e6 w6 ⟨rfl, hb6⟩
          have HB6 := Lib.hid (HB5.out.trans (hb6.mono HB5.out.size)); clear hb6 HB5
          go_wp2_with fail
          refine (G2.out _ HB6.out).mono ?_
          rintro e7 w7 ⟨rfl, hb7⟩
          have HB7 := Lib.hid (HB6.out.trans (hb7.mono HB6.out.size)); clear hb7 HB6
          go_wp2_with fail
          refine (GG.out _ HB7.out).mono ?_
          rintro e8 w8 ⟨A3, c3, rfl, hb8, hf⟩
          have HB8 := Lib.hid (HB7.out.trans (hb8.mono HB7.out.size)); clear hb8 HB7
          have FF := Lib.hid hf; clear hf
          go_wp2_with fail
          refine (FF.out (by first | exact trivial | rfl) (by first | exact trivial | rfl)).mono ?_
          rintro e9 w9 ⟨A5, c5, rfl, hb9⟩
          have HB9 := Lib.hid (HB8.out.trans (hb9.mono HB8.out.size)); clear hb9 HB8
          go_wp2_with fail
          go_ret
          exact ⟨rfl, HB9.out⟩
        · have f0 : nf = 0 := by
            rcases Nat.eq_zero_or_pos nf with h | h
            · exact h
            · exact absurd (FIN2.out.2 h) hnd
          subst f0
          have d1 : decide (n ≤ d) = false := decide_eq_false hnd
          clear FIN2
          go_enter Try.func8, Try.ntmps8
          go_wp2_with fail
          refine (zsmall_any _).mono ?_
          rintro e1 w1 ⟨rfl, hb1⟩
          have HB1 := Lib.hid hb1; clear hb1
          go_wp2_with fail
          refine (HF1.out _).mono ?_
          rintro e2 w2 ⟨rfl, hb2⟩
          have HB2 := Lib.hid (HB1.out.trans (hb2.mono HB1.out.size)); clear hb2 HB1
          go_wp2_with fail
          refine (HF2.out _).mono ?_
          rintro e3 w3 ⟨rfl, hb3⟩
          have HB3 := Lib.hid (HB2.out.trans (hb3.mono HB2.out.size)); clear hb3 HB2
          go_wp2_with fail
          refine (HR1.out _ HB3.out).mono ?_
          rintro e4 w4 ⟨rfl, hb4⟩
          have HB4 := Lib.hid (HB3.out.trans (hb4.mono HB3.out.size)); clear hb4 HB3
          go_wp2_with fail
          refine (HR2.out _ HB4.out).mono ?_
          rintro e5 w5 ⟨rfl, hb5⟩
          have HB5 := Lib.hid (HB4.out.trans (hb5.mono HB4.out.size)); clear hb5 HB4
          go_wp2_with fail
          refine (G1.out _ HB5.out).mono ?_
          rintro e6 w6 ⟨rfl, hb6⟩
          have HB6 := Lib.hid (HB5.out.trans (hb6.mono HB5.out.size)); clear hb6 HB5
          go_wp2_with fail
          refine (G2.out _ HB6.out).mono ?_
          rintro e7 w7 ⟨rfl, hb7⟩
          have HB7 := Lib.hid (HB6.out.trans (hb7.mono HB6.out.size)); clear hb7 HB6
          go_wp2_with fail
          refine (GG.out _ HB7.out).mono ?_
          rintro e8 w8 ⟨A3, c3, rfl, hb8, hf⟩
          have HB8 := Lib.hid (HB7.out.trans (hb8.mono HB7.out.size)); clear hb8 HB7
          have FF := Lib.hid hf; clear hf
          go_wp2_with fail
          refine (FF.out (by first | exact trivial | rfl) (by first | exact trivial | rfl)).mono ?_
          rintro e9 w9 ⟨A5, c5, rfl, hb9⟩
          have HB9 := Lib.hid (HB8.out.trans (hb9.mono HB8.out.size)); clear hb9 HB8
          go_wp2_with fail
          go_ret
          exact ⟨rfl, HB9.out⟩
      · clear FIN
        go_enter Try.func8, Try.ntmps8
        go_wp2_with fail
        refine (zsmall_any _).mono ?_
        rintro e1 w1 ⟨rfl, hb1⟩
        have HB1 := Lib.hid hb1; clear hb1
        go_wp2_with fail
        refine (HF1.out _).mono ?_
        rintro e2 w2 ⟨rfl, hb2⟩
        have HB2 := Lib.hid (HB1.out.trans (hb2.mono HB1.out.size)); clear hb2 HB1
        go_wp2_with fail
        refine (HF2.out _).mono ?_
        rintro e3 w3 ⟨rfl, hb3⟩
        have HB3 := Lib.hid (HB2.out.trans (hb3.mono HB2.out.size)); clear hb3 HB2
        go_wp2_with fail
        refine (HR1.out _ HB3.out).mono ?_
        rintro e4 w4 ⟨rfl, hb4⟩
        have HB4 := Lib.hid (HB3.out.trans (hb4.mono HB3.out.size)); clear hb4 HB3
        go_wp2_with fail
        refine (HR2.out _ HB4.out).mono ?_
        rintro e5 w5 ⟨rfl, hb5⟩
        have HB5 := Lib.hid (HB4.out.trans (hb5.mono HB4.out.size)); clear hb5 HB4
        go_wp2_with fail
        refine (G1.out _ HB5.out).mono ?_
        rintro e6 w6 ⟨rfl, hb6⟩
        have HB6 := Lib.hid (HB5.out.trans (hb6.mono HB5.out.size)); clear hb6 HB5
        go_wp2_with fail
        refine (G2.out _ HB6.out).mono ?_
        rintro e7 w7 ⟨rfl, hb7⟩
        have HB7 := Lib.hid (HB6.out.trans (hb7.mono HB6.out.size)); clear hb7 HB6
        go_wp2_with fail
        refine (GG.out _ HB7.out).mono ?_
        rintro e8 w8 ⟨A3, c3, rfl, hb8, hf⟩
        have HB8 := Lib.hid (HB7.out.trans (hb8.mono HB7.out.size)); clear hb8 HB7
        have FF := Lib.hid hf; clear hf
        go_wp2_with fail
        go_ret
        exact ⟨rfl, HB8.out⟩
set_option maxHeartbeats 40000000 in
theorem zgaps_any (A : Option Addr) (c : Nat) (A2 : Option Addr) (c2 : Nat) (a b : List Rc) (d : Int) (w : World) (hra : RRow w A a) (hca : a.length ≤ c) (hcb : c ≤ 9223372036854775807) (hrb : RRow w A2 b) (hca2 : b.length ≤ c2) (hcb2 : c2 ≤ 9223372036854775807) (hd : -9223372036854775808 ≤ d ∧ d ≤ 9223372036854775807) :
    Calls Try.prog 8 #[.slice A a.length c, .slice A2 b.length c2, .int .i64 d] w (BlIs true w) := by
  by_cases h24 : a.length ≤ 24
  · have HF1 : Hid (decide (a.length ≤ 24) = true) := Lib.hid (decide_eq_true h24)
    have hA : RIn w A c a := ⟨hra, by omega, hca, hcb⟩
    by_cases h24b : b.length ≤ 24
    · have HF2 : Hid (decide (b.length ≤ 24) = true) := Lib.hid (decide_eq_true h24b)
      have hB : RIn w A2 c2 b := ⟨hrb, by omega, hca2, hcb2⟩
      by_cases hr : RegP a
      · have HR1 := Lib.hid (fun w' (hb : Below w.heap.size w w') => vRight_rin (hA.below hb) hr)
        by_cases hr2 : RegP b
        · have HR2 := Lib.hid (fun w' (hx : Below w.heap.size w w') => vRight_rin (hB.below hx) hr2)
          by_cases c0 : d < 0
          · clear hA hB h24 h24b hr hr2 hra hca hcb hrb hca2 hcb2 hd
            go_enter Try.func8, Try.ntmps8
            go_wp2_with fail
            refine (zsmall_any _).mono ?_
            rintro e1 w1 ⟨rfl, hb1⟩
            have HB1 := Lib.hid hb1; clear hb1
            go_wp2_with fail
            refine (zfew_any A c a _).mono ?_
            rw [HF1.out]
            rintro e2 w2 ⟨rfl, hb2⟩
            have HB2 := Lib.hid (HB1.out.trans (hb2.mono HB1.out.size)); clear hb2 HB1
            go_wp2_with fail
            refine (zfew_any A2 c2 b _).mono ?_
            rw [HF2.out]
            rintro e3 w3 ⟨rfl, hb3⟩
            have HB3 := Lib.hid (HB2.out.trans (hb3.mono HB2.out.size)); clear hb3 HB2
            go_wp2_with fail
            refine (HR1.out _ HB3.out).mono ?_
            rintro e4 w4 ⟨rfl, hb4⟩
            have HB4 := Lib.hid (HB3.out.trans (hb4.mono HB3.out.size)); clear hb4 HB3
            go_wp2_with fail
            refine (HR2.out _ HB4.out).mono ?_
            rintro e5 w5 ⟨rfl, hb5⟩
            have HB5 := Lib.hid (HB4.out.trans (hb5.mono HB4.out.size)); clear hb5 HB4
            go_wp2_with fail
            go_ret
            exact ⟨rfl, HB5.out⟩
          · by_cases c1 : 1048576 ≤ d
            · clear hA hB h24 h24b hr hr2 hra hca hcb hrb hca2 hcb2 hd
              go_enter Try.func8, Try.ntmps8
              go_wp2_with fail
              refine (zsmall_any _).mono ?_
              rintro e1 w1 ⟨rfl, hb1⟩
              have HB1 := Lib.hid hb1; clear hb1
              go_wp2_with fail
              refine (zfew_any A c a _).mono ?_
              rw [HF1.out]
              rintro e2 w2 ⟨rfl, hb2⟩
              have HB2 := Lib.hid (HB1.out.trans (hb2.mono HB1.out.size)); clear hb2 HB1
              go_wp2_with fail
              refine (zfew_any A2 c2 b _).mono ?_
              rw [HF2.out]
              rintro e3 w3 ⟨rfl, hb3⟩
              have HB3 := Lib.hid (HB2.out.trans (hb3.mono HB2.out.size)); clear hb3 HB2
              go_wp2_with fail
              refine (HR1.out _ HB3.out).mono ?_
              rintro e4 w4 ⟨rfl, hb4⟩
              have HB4 := Lib.hid (HB3.out.trans (hb4.mono HB3.out.size)); clear hb4 HB3
              go_wp2_with fail
              refine (HR2.out _ HB4.out).mono ?_
              rintro e5 w5 ⟨rfl, hb5⟩
              have HB5 := Lib.hid (HB4.out.trans (hb5.mono HB4.out.size)); clear hb5 HB4
              go_wp2_with fail
              go_ret
              exact ⟨rfl, HB5.out⟩
            · have g0 : 0 ≤ d := by omega
              have g1 : d < 1048576 := by omega
              have oa := form_ok hr.1
              have ob := form_ok hr2.1
              have gc : gapM b a = gapM a b := by
                by_cases hne : a ≠ [] ∧ b ≠ []
                · unfold gapM
                  rw [if_pos ⟨hr2, hr, hne.2, hne.1⟩, if_pos ⟨hr, hr2, hne.1, hne.2⟩, gapL_comm]
                · rw [gapM_no (fun h => hne ⟨h.2.2.2, h.2.2.1⟩), gapM_no (fun h => hne ⟨h.2.2.1, h.2.2.2⟩)]
              have pos : ∀ l : List Rc, (0 < l.length) = (l ≠ []) := fun l => by cases l <;> simp
              refine zgaps_core A c A2 c2 a.length b.length (growM a (d + 1)).1.length (formO and (groF a (d + 1)) b).length d (growM a (d + 1)).2 (gapM a b).1 (gapM a b).2 w g0 g1
                (fun w' => by have k := zfew_any A c a w'; rw [HF1.out] at k; exact k) (fun w' => by have k := zfew_any A2 c2 b w'; rw [HF2.out] at k; exact k) HR1.out HR2.out
                (fun w' hb => ygap_any A c A2 c2 a b w' (hA.below hb) (hB.below hb)) (fun w' hb => by have k := ygap_any A2 c2 A c b a w' (hB.below hb) (hA.below hb); rw [gc] at k; exact k) (fun w' hb => ?_) ?_ ?_ ?_ ?_
              · refine (ygrow_rg A c a (d + 1) w' (hA.below hb)).mono ?_
                rintro x w2 ⟨A3, c3, rfl, h3, hb2⟩
                refine ⟨A3, c3, rfl, hb2, fun he hok => ?_⟩
                obtain ⟨e1, e2⟩ := growM_reg hr (by omega) (by omega) he
                rw [e1] at h3 ⊢
                have := e2.2
                refine (vForm_any 1 and rfl comb_and A3 c3 A2 c2 (groF a (d + 1)) b w2 h3.row (hB.below (hb.trans (hb2.mono hb.size))).row (by omega) (by omega) (form_ok e2.1) ob).mono ?_
                rintro y w4 ⟨v, rfl, k1, k2⟩
                obtain ⟨A5, c5, rfl, _⟩ := own_rects k1
                exact ⟨A5, c5, rfl, k2⟩
              · by_cases hne : a ≠ [] ∧ b ≠ []
                · unfold gapM
                  rw [if_pos ⟨hr, hr2, hne.1, hne.2⟩]
                  exact gapL_nn oa ob (by omega)
                · rw [gapM_no (fun h => hne ⟨h.2.2.1, h.2.2.2⟩)]
                  exact Int.le_refl 0
              · by_cases hne : a ≠ [] ∧ b ≠ []
                · unfold gapM
                  rw [if_pos ⟨hr, hr2, hne.1, hne.2⟩]
                  simp [pos, hne.1, hne.2]
                · rw [gapM_no (fun h => hne ⟨h.2.2.1, h.2.2.2⟩)]
                  by_cases p1 : a ≠ []
                  · have p2 : ¬ b ≠ [] := fun h => hne ⟨p1, h⟩
                    simp [pos, p1, p2]
                  · simp [pos, p1]
              · rw [growM_yes hr (by omega) (by omega)]; exact capR_err _
              · intro he hok
                have hne : a ≠ [] ∧ b ≠ [] := Classical.byContradiction fun hne => by
                  rw [gapM_no (fun h => hne ⟨h.2.2.1, h.2.2.2⟩)] at hok; cases hok
                have k := gap_grow oa ob g0 g1
                rw [pos]
                unfold gapM
                rw [if_pos ⟨hr, hr2, hne.1, hne.2⟩]
                exact k
        · have HR2 := Lib.hid (fun w' (hx : Below w.heap.size w w') => vRight_rin_no (hB.below hx) hr2)
          clear hA hB h24 h24b hr hr2 hra hca hcb hrb hca2 hcb2 hd
          go_enter Try.func8, Try.ntmps8
          go_wp2_with fail
          refine (zsmall_any _).mono ?_
          rintro e1 w1 ⟨rfl, hb1⟩
          have HB1 := Lib.hid hb1; clear hb1
          go_wp2_with fail
          refine (zfew_any A c a _).mono ?_
          rw [HF1.out]
          rintro e2 w2 ⟨rfl, hb2⟩
          have HB2 := Lib.hid (HB1.out.trans (hb2.mono HB1.out.size)); clear hb2 HB1
          go_wp2_with fail
          refine (zfew_any A2 c2 b _).mono ?_
          rw [HF2.out]
          rintro e3 w3 ⟨rfl, hb3⟩
          have HB3 := Lib.hid (HB2.out.trans (hb3.mono HB2.out.size)); clear hb3 HB2
          go_wp2_with fail
          refine (HR1.out _ HB3.out).mono ?_
          rintro e4 w4 ⟨rfl, hb4⟩
          have HB4 := Lib.hid (HB3.out.trans (hb4.mono HB3.out.size)); clear hb4 HB3
          go_wp2_with fail
          refine (HR2.out _ HB4.out).mono ?_
          rintro e5 w5 ⟨rfl, hb5⟩
          have HB5 := Lib.hid (HB4.out.trans (hb5.mono HB4.out.size)); clear hb5 HB4
          go_wp2_with fail
          go_ret
          exact ⟨rfl, HB5.out⟩
      · have HR1 := Lib.hid (fun w' (hb : Below w.heap.size w w') => vRight_rin_no (hA.below hb) hr)
        clear hA hB h24 h24b hr hra hca hcb hrb hca2 hcb2 hd
        go_enter Try.func8, Try.ntmps8
        go_wp2_with fail
        refine (zsmall_any _).mono ?_
        rintro e1 w1 ⟨rfl, hb1⟩
        have HB1 := Lib.hid hb1; clear hb1
        go_wp2_with fail
        refine (zfew_any A c a _).mono ?_
        rw [HF1.out]
        rintro e2 w2 ⟨rfl, hb2⟩
        have HB2 := Lib.hid (HB1.out.trans (hb2.mono HB1.out.size)); clear hb2 HB1
        go_wp2_with fail
        refine (zfew_any A2 c2 b _).mono ?_
        rw [HF2.out]
        rintro e3 w3 ⟨rfl, hb3⟩
        have HB3 := Lib.hid (HB2.out.trans (hb3.mono HB2.out.size)); clear hb3 HB2
        go_wp2_with fail
        refine (HR1.out _ HB3.out).mono ?_
        rintro e4 w4 ⟨rfl, hb4⟩
        have HB4 := Lib.hid (HB3.out.trans (hb4.mono HB3.out.size)); clear hb4 HB3
        go_wp2_with fail
        go_ret
        exact ⟨rfl, HB4.out⟩
    · have HF2 : Hid (decide (b.length ≤ 24) = false) := Lib.hid (decide_eq_false h24b)
      clear hA h24 h24b hra hca hcb hrb hca2 hcb2 hd
      go_enter Try.func8, Try.ntmps8
      go_wp2_with fail
      refine (zsmall_any _).mono ?_
      rintro e1 w1 ⟨rfl, hb1⟩
      have HB1 := Lib.hid hb1; clear hb1
      go_wp2_with fail
      refine (zfew_any A c a _).mono ?_
      rw [HF1.out]
      rintro e2 w2 ⟨rfl, hb2⟩
      have HB2 := Lib.hid (HB1.out.trans (hb2.mono HB1.out.size)); clear hb2 HB1
      go_wp2_with fail
      refine (zfew_any A2 c2 b _).mono ?_
      rw [HF2.out]
      rintro e3 w3 ⟨rfl, hb3⟩
      have HB3 := Lib.hid (HB2.out.trans (hb3.mono HB2.out.size)); clear hb3 HB2
      go_wp2_with fail
      go_ret
      exact ⟨rfl, HB3.out⟩
  · have HF1 : Hid (decide (a.length ≤ 24) = false) := Lib.hid (decide_eq_false h24)
    clear h24 hra hca hcb hrb hca2 hcb2 hd
    go_enter Try.func8, Try.ntmps8
    go_wp2_with fail
    refine (zsmall_any _).mono ?_
    rintro e1 w1 ⟨rfl, hb1⟩
    have HB1 := Lib.hid hb1; clear hb1
    go_wp2_with fail
    refine (zfew_any A c a _).mono ?_
    rw [HF1.out]
    rintro e2 w2 ⟨rfl, hb2⟩
    have HB2 := Lib.hid (HB1.out.trans (hb2.mono HB1.out.size)); clear hb2 HB1
    go_wp2_with fail
    go_ret
    exact ⟨rfl, HB2.out⟩
end Go.Proofs.Ytcnojedijimheaa
