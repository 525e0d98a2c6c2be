/-
  SolidSections: the whole.
-/
import Derived.Test.YteecfgdicckplaaBb
set_option linter.unusedVariables false
set_option maxRecDepth 100000
namespace Go.Proofs.Yteecfgdicckplaa
open Go.RowKit

set_option maxHeartbeats 8000000 in
theorem sections_big (A : Option Addr) (c : Nat) (l : List Bx) (x y z : Int) (w : World) (h : ¬ l.length ≤ 8) : Calls Try.prog 5 #[.slice A l.length c, .int .i64 x, .int .i64 y, .int .i64 z] w (BlIs true w) := by
  have HSM := Lib.hid (csmall_any w)
  have m1 : (8 : Int) < (l.length : Int) := by omega
  go_enter Try.func5, Try.ntmps5
  go_wp2_with fail
  refine HSM.out.mono ?_
  rintro e0 w0 ⟨rfl, hb0⟩
  have B0 := Lib.hid hb0
  clear hb0
  go_wp2_with fail
  go_ret
  exact ⟨rfl, B0.out⟩
set_option maxHeartbeats 8000000 in
theorem sections_err (A : Option Addr) (c : Nat) (l : List Bx) (x y z : Int) (w : World) (h : BIn w A c l) (hn : l.length ≤ 8) (HO : Hid (Of9 l l.length [] 0 1)) : Calls Try.prog 5 #[.slice A l.length c, .int .i64 x, .int .i64 y, .int .i64 z] w (BlIs true w) := by
  have HSM := Lib.hid (csmall_any w)
  have KA := Lib.hid h; clear h
  have m1 : ¬ (8 : Int) < (l.length : Int) := by omega
  go_enter Try.func5, Try.ntmps5
  go_wp2_with fail
  refine HSM.out.mono ?_
  rintro e0 w0 ⟨rfl, hb0⟩
  have B0 := Lib.hid hb0
  clear hb0
  go_wp2_with fail
  refine (HO.out _ _ _ (KA.out.below B0.out).row).mono ?_
  rintro e1 w1 ⟨A2, c2, rfl, _, hb1⟩
  have B1 := Lib.hid (B0.out.trans (hb1.mono B0.out.size))
  clear hb1
  go_wp2_with fail
  go_ret
  exact ⟨rfl, B1.out⟩
theorem sections_walk (A : Option Addr) (c : Nat) (l : List Bx) (x y z : Int) (w : World) (h : BIn w A c l) : Calls Try.prog 5 #[.slice A l.length c, .int .i64 x, .int .i64 y, .int .i64 z] w (BlIs true w) := by
  by_cases hn : l.length ≤ 8
  · by_cases hok : ∀ b ∈ l, BOk b
    · have hs := solB_small hok (by omega)
      have hsec : ∀ z, secS (solB l) z = formL (basesB l z) := (solB_is hok).2
      have hreg : RegP (formL (basesB l z)) := by rw [← hsec]; exact sol_reg hs z
      have hof : ofR (basesB l z) = (formL (basesB l z), 0) := by
        have hbl := bases_len l z
        have h2 := hreg.2
        unfold ofR
        rw [if_pos (bases_ok hok z), if_pos (by omega)]
        unfold capR
        rw [if_pos h2]
      refine sections_core A c l (solB l) (formL (basesB l z)) _ x y z (hasB (secS (solB l) z) x y) w h hn hs (Lib.hid (csmall_any w)) (Lib.hid (of9_of (by omega) (ofS_small hok (by omega)))) (Lib.hid fun w' A1 c1 h1 => ?_)
        (Lib.hid (sec9_of hs z (hsec z))) (Lib.hid (rcs9_of _ _ (by simp))) (Lib.hid fun w' A1 c1 h1 => ?_) (Lib.hid fun w' A1 c1 h1 => ?_) (Lib.hid fun w' A1 c1 h1 => ?_) (Lib.hid (vol9_of hs))
      · have := gof_any A1 c1 (basesB l z) w' h1 (by have := bases_len l z; omega)
        rw [hof] at this
        exact this.mono fun e w2 k => k.rr (by have := hreg.2; show (formL (basesB l z)).length ≤ _; omega)
      · have := btop_yes h1 hs x y
        rw [top_sol hok] at this
        exact this
      · have := bhas_any A1 c1 (solB l) x y z w' h1
        rw [hasGS_yes hs] at this
        exact this
      · have := ghas_any A1 c1 (formL (basesB l z)) x y w' h1
        rw [show hasRg (formL (basesB l z)) x y = hasB (secS (solB l) z) x y by unfold hasRg; rw [decide_eq_true hreg, Bool.true_and, hsec]] at this
        exact this
    · exact sections_err A c l x y z w h hn (Lib.hid (of9_of (by omega) (ofS_bad hok)))
  · exact sections_big A c l x y z w hn
end Go.Proofs.Yteecfgdicckplaa
