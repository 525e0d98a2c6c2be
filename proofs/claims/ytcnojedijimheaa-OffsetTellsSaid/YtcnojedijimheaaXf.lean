/-
  OffsetTells: the law's walk.
-/
import Derived.Test.YtcnojedijimheaaXc
import Derived.Test.YtcnojedijimheaaXe
import Derived.Test.YtcnojedijimheaaTa
set_option linter.unusedVariables false
set_option maxRecDepth 100000
namespace Go.Proofs.Ytcnojedijimheaa
open Go.RowKit

theorem xgrow_rg (A : Option Addr) (cap : Nat) (l : List Rc) (d : Int) (w : World) (hl : RIn w A cap l) : Calls Try.prog 18 #[.slice A l.length cap, .int .i64 d] w (RG (growM l d).1 (growM l d).1.length (growM l d).2 w) :=
  (xgrow_any A cap l d w hl).mono fun e w2 h2 => h2.rg (by have := growM_len l d; omega)
theorem xshrink_rg (A : Option Addr) (cap : Nat) (l : List Rc) (d : Int) (w : World) (hl : RIn w A cap l) (h24 : l.length ≤ 24) : Calls Try.prog 20 #[.slice A l.length cap, .int .i64 d] w (RG (shrinkM l d).1 (shrinkM l d).1.length (shrinkM l d).2 w) :=
  (xshrink_any A cap l d w hl h24).mono fun e w2 h2 => h2.rg (by have := shrinkM_len l d; omega)
set_option maxHeartbeats 40000000 in
theorem ztells_core (A : Option Addr) (c : Nat) (A2 : Option Addr) (c2 : Nat) (A3 : Option Addr) (c3 : Nat) (a b : List Rc) (LL : List (List Rc)) (d : Int) (G S : List Rc) (ge se gn : Int) (gb : Bool) (X : List Int) (w : World)
    (h24 : a.length ≤ 24) (h24b : b.length ≤ 24) (h8 : LL.length ≤ 8) (hL : LIn0 w A3 LL) (hX : X.length ≤ 1099511627776)
    (hG : ∀ w', Below w.heap.size w w' → Calls Try.prog 17 #[.slice A a.length c, .int .i64 d] w' (RG G G.length ge w'))
    (hG2 : ∀ w', Below w.heap.size w w' → Calls Try.prog 18 #[.slice A a.length c, .int .i64 d] w' (RG G G.length ge w'))
    (hS : ∀ w', Below w.heap.size w w' → Calls Try.prog 19 #[.slice A a.length c, .int .i64 d] w' (RG S S.length se w'))
    (hS2 : ∀ w', Below w.heap.size w w' → Calls Try.prog 20 #[.slice A a.length c, .int .i64 d] w' (RG S S.length se w'))
    (hP : ∀ w', Below w.heap.size w w' → Calls Try.prog 21 #[.slice A a.length c, .slice A2 b.length c2] w' (GapIs (gn, gb) w'))
    (hP2 : ∀ w', Below w.heap.size w w' → Calls Try.prog 22 #[.slice A a.length c, .slice A2 b.length c2] w' (GapIs (gn, gb) w'))
    (hW : (∀ j (h : j < LL.length), LL[j].length ≤ 24) → ∀ w', Below w.heap.size w w' → Calls Try.prog 24 #[.slice A a.length c, .slice A3 LL.length c3, .int .i64 d] w' (WinIs X w'))
    (hW2 : (∀ j (h : j < LL.length), LL[j].length ≤ 24) → ∀ w', Below w.heap.size w w' → Calls Try.prog 25 #[.slice A a.length c, .slice A3 LL.length c3, .int .i64 d] w' (WinIs X w')) :
    Calls Try.prog 4 #[.slice A a.length c, .slice A2 b.length c2, .slice A3 LL.length c3, .int .i64 d] w (BlIs true w) := by
  have G1 := Lib.hid hG; have G2 := Lib.hid hG2; have S1 := Lib.hid hS; have S2 := Lib.hid hS2; have P1 := Lib.hid hP; have P2 := Lib.hid hP2; have W1 := Lib.hid hW; have W2 := Lib.hid hW2
  have HL0 := Lib.hid hL; have HXL := Lib.hid hX
  have HF1 : Hid (decide (a.length ≤ 24) = true) := Lib.hid (decide_eq_true h24)
  have HF2 : Hid (decide (b.length ≤ 24) = true) := Lib.hid (decide_eq_true h24b)
  have s8 : ¬ (8 : Int) < (LL.length : Int) := by omega
  clear hG hG2 hS hS2 hP hP2 hW hW2 hL h24 h24b hX
  go_enter Try.func4, Try.ntmps4
  go_wp2_with fail
  refine (zsmall_any _).mono ?_
  rintro e1 w1 ⟨rfl, hb1⟩
  have HB1 := Lib.hid hb1; clear hb1
  go_wp2_with fail
  refine (zfew_any A c a _).mono ?_
  rw [HF1.out]
  rintro e2 w2 ⟨rfl, hb2⟩
  have HB2 := Lib.hid (HB1.out.trans (hb2.mono HB1.out.size)); clear hb2 HB1
  go_wp2_with fail
  refine (zfew_any A2 c2 b _).mono ?_
  rw [HF2.out]
  rintro e3 w3 ⟨rfl, hb3⟩
  have HB3 := Lib.hid (HB2.out.trans (hb3.mono HB2.out.size)); clear hb3 HB2
  go_wp2_with fail
  go_loopw [10] (fun i wr => ∃ (k : Nat), k ≤ LL.length ∧ i = .int .i64 k ∧ Hid (Below w.heap.size w wr) ∧ Hid (∀ j (h : j < LL.length), j < k → LL[j].length ≤ 24)) (fun i _ => LL.length - (intOf i).toNat)
  case atStart => exact ⟨0, Nat.zero_le _, rfl, HB3, Lib.hid (fun j h h1 => absurd h1 (Nat.not_lt_zero _))⟩
  case round =>
    clear HB3
    obtain ⟨k, hk, rfl, HB, HF⟩ := hrel
    by_cases hlt : k < LL.length
    · obtain ⟨b1, o1, rfl, hb1, hv1⟩ := HL0.out (by omega)
      obtain ⟨Aj, cj, x0, _⟩ := hv1 k hlt
      have HFN : Hid (LL[k].length ≤ 24 → ∀ j (h : j < LL.length), j < k + 1 → LL[j].length ≤ 24) := Lib.hid (fun h24 j h h1 => by
        by_cases e : j < k
        · exact HF.out j h e
        · obtain rfl : j = k := by omega
          exact h24)
      clear HF
      have x0 := (HB.out.cell (p := ⟨b1, o1 + k, none⟩) hb1).trans x0
      have j0 : (0 : Int) ≤ (k : Int) := by omega
      have j1 : (k : Int) < (LL.length : Int) := by omega
      clear hv1
      obtain ⟨q, hq⟩ : ∃ q, q = LL[k] := ⟨_, rfl⟩
      rw [← hq] at x0 HFN
      clear hq
      go_wp2_with fail
      refine (zfew_any Aj cj q _).mono ?_
      by_cases hfb : q.length ≤ 24
      · rw [decide_eq_true hfb]
        have HF3 := Lib.hid (HFN.out hfb)
        rintro e4 w4 ⟨rfl, hb4⟩
        have HB4 := Lib.hid (HB.out.trans (hb4.mono HB.out.size))
        clear hb4 HB x0 hfb HFN
        go_wp2_with fail
        go_roundw
        case rel => exact ⟨k + 1, by omega, by go_num, HB4, HF3⟩
        case measure => simp [intOf]; omega
      · rw [decide_eq_false hfb]
        rintro e4 w4 ⟨rfl, hb4⟩
        have HB4 := Lib.hid (HB.out.trans (hb4.mono HB.out.size))
        clear hb4 HB x0 hfb HFN
        go_wp2_with fail
        go_ret
        exact ⟨rfl, HB4.out⟩
    · obtain rfl : k = LL.length := by omega
      have W3 := Lib.hid (W1.out (fun j h => HF.out j h h))
      have W4 := Lib.hid (W2.out (fun j h => HF.out j h h))
      clear W1 W2 HF
      go_wp2_with fail
      refine (G1.out _ HB.out).mono ?_
      rintro e5 w5 ⟨A5, c5, rfl, h5, hb5⟩
      have HB5 := Lib.hid (HB.out.trans (hb5.mono HB.out.size))
      have R5 := Lib.hid h5; clear h5 hb5 HB
      go_wp2_with fail
      refine (G2.out _ HB5.out).mono ?_
      rintro e6 w6 ⟨A6, c6, rfl, h6, hb6⟩
      have HB6 := Lib.hid (HB5.out.trans (hb6.mono HB5.out.size))
      have R5 := Lib.hid (R5.out.below hb6)
      have R6 := Lib.hid h6; clear h6 hb6 HB5
      go_wp2_with fail
      refine (S1.out _ HB6.out).mono ?_
      rintro e7 w7 ⟨A7, c7, rfl, h7, hb7⟩
      have HB7 := Lib.hid (HB6.out.trans (hb7.mono HB6.out.size))
      have R5 := Lib.hid (R5.out.below hb7); have R6 := Lib.hid (R6.out.below hb7)
      have R7 := Lib.hid h7; clear h7 hb7 HB6
      go_wp2_with fail
      refine (S2.out _ HB7.out).mono ?_
      rintro e8 w8 ⟨A8, c8, rfl, h8, hb8⟩
      have HB8 := Lib.hid (HB7.out.trans (hb8.mono HB7.out.size))
      have R5 := Lib.hid (R5.out.below hb8); have R6 := Lib.hid (R6.out.below hb8); have R7 := Lib.hid (R7.out.below hb8)
      have R8 := Lib.hid h8; clear h8 hb8 HB7
      go_wp2_with fail
      refine (P1.out _ HB8.out).mono ?_
      rintro e9 w9 ⟨rfl, hb9⟩
      have HB9 := Lib.hid (HB8.out.trans (hb9.mono HB8.out.size))
      have R5 := Lib.hid (R5.out.below hb9); have R6 := Lib.hid (R6.out.below hb9); have R7 := Lib.hid (R7.out.below hb9); have R8 := Lib.hid (R8.out.below hb9)
      clear hb9 HB8
      simp only []
      go_wp2_with fail
      refine (P2.out _ HB9.out).mono ?_
      rintro e10 w10 ⟨rfl, hb10⟩
      have HB10 := Lib.hid (HB9.out.trans (hb10.mono HB9.out.size))
      have R5 := Lib.hid (R5.out.below hb10); have R6 := Lib.hid (R6.out.below hb10); have R7 := Lib.hid (R7.out.below hb10); have R8 := Lib.hid (R8.out.below hb10)
      clear hb10 HB9
      simp only []
      have SM1 := Lib.hid (vsame_rin A5 c5 A6 c6 G G w10 R5.out R6.out)
      rw [decide_eq_true rfl] at SM1
      go_wp2_with fail
      refine SM1.out.mono ?_
      rintro e11 w11 ⟨rfl, hb11⟩
      have HB11 := Lib.hid (HB10.out.trans (hb11.mono HB10.out.size))
      have R7 := Lib.hid (R7.out.below hb11); have R8 := Lib.hid (R8.out.below hb11)
      clear hb11 HB10 SM1 R5 R6
      have SM2 := Lib.hid (vsame_rin A7 c7 A8 c8 S S w11 R7.out R8.out)
      rw [decide_eq_true rfl] at SM2
      go_wp2_with fail
      refine SM2.out.mono ?_
      rintro e12 w12 ⟨rfl, hb12⟩
      have HB12 := Lib.hid (HB11.out.trans (hb12.mono HB11.out.size))
      clear hb12 HB11 SM2 R7 R8
      go_wp2_with fail
      refine (W3.out _ HB12.out).mono ?_
      rintro e13 w13 ⟨A13, c13, rfl, hr13, hb13⟩
      have HB13 := Lib.hid (HB12.out.trans (hb13.mono HB12.out.size))
      have R13 := Lib.hid hr13
      clear hb13 HB12 hr13
      go_wp2_with fail
      refine (W4.out _ HB13.out).mono ?_
      rintro e14 w14 ⟨A14, c14, rfl, hr14, hb14⟩
      have HB14 := Lib.hid (HB13.out.trans (hb14.mono HB13.out.size))
      have IN := Lib.hid (zints_any A13 c13 A14 c14 X X w14 (R13.out.below hb14) hr14 HXL.out HXL.out)
      rw [decide_eq_true rfl] at IN
      clear hb14 HB13 hr14 R13
      go_wp2_with fail
      refine IN.out.mono ?_
      rintro e15 w15 ⟨rfl, hb15⟩
      have HB15 := Lib.hid (HB14.out.trans (hb15.mono HB14.out.size))
      clear hb15 HB14 IN
      go_wp2_with fail
      go_ret
      exact ⟨rfl, HB15.out⟩
set_option maxHeartbeats 40000000 in
theorem ztells_any (A : Option Addr) (c : Nat) (A2 : Option Addr) (c2 : Nat) (A3 : Option Addr) (c3 : Nat) (a b : List Rc) (LL : List (List Rc)) (d : Int) (w : World) (hra : RRow w A a) (hca : a.length ≤ c) (hcb : c ≤ 9223372036854775807) (hrb : RRow w A2 b) (hca2 : b.length ≤ c2) (hcb2 : c2 ≤ 9223372036854775807) (hL : LIn0 w A3 LL) (hlen : LL.length ≤ 9223372036854775807) :
    Calls Try.prog 4 #[.slice A a.length c, .slice A2 b.length c2, .slice A3 LL.length c3, .int .i64 d] w (BlIs true w) := by
  by_cases h24 : a.length ≤ 24
  · by_cases h24b : b.length ≤ 24
    · by_cases h8 : LL.length ≤ 8
      · have hA : RIn w A c a := ⟨hra, by omega, hca, hcb⟩
        have hB : RIn w A2 c2 b := ⟨hrb, by omega, hca2, hcb2⟩
        have hLI : (∀ j (h : j < LL.length), LL[j].length ≤ 24) → LIn w A3 LL := fun hf h0 => by
          obtain ⟨b, off, e, hl, hc⟩ := hL h0
          refine ⟨b, off, e, hl, fun j hj => ?_⟩
          obtain ⟨Aj, cj, q1, q2, q3, q4⟩ := hc j hj
          exact ⟨Aj, cj, q1, q2, by have := hf j hj; omega, q3, q4⟩
        have hwl := winK_len a d LL LL.length
        exact ztells_core A c A2 c2 A3 c3 a b LL d (growM a d).1 (shrinkM a d).1 (growM a d).2 (shrinkM a d).2 (gapM a b).1 (gapM a b).2 (winK a d LL LL.length) w h24 h24b h8 hL (by omega)
          (fun w' h => ygrow_rg A c a d w' (hA.below h)) (fun w' h => xgrow_rg A c a d w' (hA.below h))
          (fun w' h => yshrink_rg A c a d w' (hA.below h)) (fun w' h => xshrink_rg A c a d w' (hA.below h) h24)
          (fun w' h => ygap_any A c A2 c2 a b w' (hA.below h) (hB.below h)) (fun w' h => xgap_any A c A2 c2 a b w' (hA.below h) (hB.below h))
          (fun hf w' h => ywithin_any A c A3 c3 a LL d w' (hA.below h) ((hLI hf).below h) (by omega)) (fun hf w' h => xwithin_any A c A3 c3 a LL d w' (hA.below h) ((hLI hf).below h) (by omega))
      · have HF1 : Hid (decide (a.length ≤ 24) = true) := Lib.hid (decide_eq_true h24)
        have HF2 : Hid (decide (b.length ≤ 24) = true) := Lib.hid (decide_eq_true h24b)
        have s8 : (8 : Int) < (LL.length : Int) := by omega
        clear h24 h24b h8 hra hca hcb hrb hca2 hcb2 hL hlen
        go_enter Try.func4, Try.ntmps4
        go_wp2_with fail
        refine (zsmall_any _).mono ?_
        rintro e1 w1 ⟨rfl, hb1⟩
        have HB1 := Lib.hid hb1; clear hb1
        go_wp2_with fail
        refine (zfew_any A c a _).mono ?_
        rw [HF1.out]
        rintro e2 w2 ⟨rfl, hb2⟩
        have HB2 := Lib.hid (HB1.out.trans (hb2.mono HB1.out.size)); clear hb2 HB1
        go_wp2_with fail
        refine (zfew_any A2 c2 b _).mono ?_
        rw [HF2.out]
        rintro e3 w3 ⟨rfl, hb3⟩
        have HB3 := Lib.hid (HB2.out.trans (hb3.mono HB2.out.size)); clear hb3 HB2
        go_wp2_with fail
        go_ret
        exact ⟨rfl, HB3.out⟩
    · have HF1 : Hid (decide (a.length ≤ 24) = true) := Lib.hid (decide_eq_true h24)
      have HF2 : Hid (decide (b.length ≤ 24) = false) := Lib.hid (decide_eq_false h24b)
      clear h24 h24b hra hca hcb hrb hca2 hcb2 hL hlen
      go_enter Try.func4, Try.ntmps4
      go_wp2_with fail
      refine (zsmall_any _).mono ?_
      rintro e1 w1 ⟨rfl, hb1⟩
      have HB1 := Lib.hid hb1; clear hb1
      go_wp2_with fail
      refine (zfew_any A c a _).mono ?_
      rw [HF1.out]
      rintro e2 w2 ⟨rfl, hb2⟩
      have HB2 := Lib.hid (HB1.out.trans (hb2.mono HB1.out.size)); clear hb2 HB1
      go_wp2_with fail
      refine (zfew_any A2 c2 b _).mono ?_
      rw [HF2.out]
      rintro e3 w3 ⟨rfl, hb3⟩
      have HB3 := Lib.hid (HB2.out.trans (hb3.mono HB2.out.size)); clear hb3 HB2
      go_wp2_with fail
      go_ret
      exact ⟨rfl, HB3.out⟩
  · have HF1 : Hid (decide (a.length ≤ 24) = false) := Lib.hid (decide_eq_false h24)
    clear h24 hra hca hcb hrb hca2 hcb2 hL hlen
    go_enter Try.func4, Try.ntmps4
    go_wp2_with fail
    refine (zsmall_any _).mono ?_
    rintro e1 w1 ⟨rfl, hb1⟩
    have HB1 := Lib.hid hb1; clear hb1
    go_wp2_with fail
    refine (zfew_any A c a _).mono ?_
    rw [HF1.out]
    rintro e2 w2 ⟨rfl, hb2⟩
    have HB2 := Lib.hid (HB1.out.trans (hb2.mono HB1.out.size)); clear hb2 HB1
    go_wp2_with fail
    go_ret
    exact ⟨rfl, HB2.out⟩
end Go.Proofs.Ytcnojedijimheaa
