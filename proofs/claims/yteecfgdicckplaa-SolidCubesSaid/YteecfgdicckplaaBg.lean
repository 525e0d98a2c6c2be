/-
  SolidCubes: the whole.
-/
import Derived.Test.YteecfgdicckplaaAw
import Derived.Test.YteecfgdicckplaaBd
set_option linter.unusedVariables false
set_option maxRecDepth 100000
namespace Go.Proofs.Yteecfgdicckplaa
open Go.RowKit

theorem has9_of {P : List Sl} {f : F3} (h : SolP P) (hf : ∀ x y z, f x y z = true ↔ HasL (secS P z) x y) : Has9 P P.length f := fun w' A1 c1 x y z h1 => by
  have := bhas_any A1 c1 P x y z w' h1
  rw [hasGS_yes h, show hasB (secS P z) x y = f x y z by rw [Bool.eq_iff_iff, hasB_iff, hf]] at this
  exact this
theorem same9_of (P Q : List Sl) (b : Bool) (hb : b = true ↔ P = Q) : Same9 P P.length Q Q.length b := fun w' A1 c1 A2 c2 h1 h2 =>
  (bsame_any A1 c1 A2 c2 P Q w' h1 h2).mono fun e w2 k => by
    obtain ⟨b', hb', k⟩ := k
    have : b' = b := by rw [Bool.eq_iff_iff, hb', hb]
    subst this
    exact k
set_option maxHeartbeats 8000000 in
theorem cubes_ok (Aa Ab : Option Addr) (ca cb : Nat) (a b : List Bx) (w : World) (ha : BIn w Aa ca a) (hb : BIn w Ab cb b) (na : a.length ≤ 6 ∧ Near8 a) (nb : b.length ≤ 6 ∧ Near8 b) :
    Calls Try.prog 3 #[.slice Aa a.length ca, .slice Ab b.length cb] w (BlIs true w) := by
  have oka := near8_ok na.2; have okb := near8_ok nb.2
  have la := na.1; have lb := nb.1
  have pC := solB_small oka (by omega)
  have pD := solB_small okb (by omega)
  have sC := cs_b oka; have sD := cs_b okb
  have sU := cs_or sC sD; have sI := cs_and sC sD; have sM := cs_not sC sD
  have pU := solO_small (op := or) rfl oka okb (by omega)
  have pI := solO_small (op := and) rfl oka okb (by omega)
  have pM := solO_small (op := andnot) rfl oka okb (by omega)
  have wa := near8_win na.2; have wb := near8_win nb.2
  have fC : ∀ x y z, covB a x y z = true ↔ HasL (secS (solB a) z) x y := fun x y z => by rw [covB_iff, sC.cubes]
  have fD : ∀ x y z, covB b x y z = true ↔ HasL (secS (solB b) z) x y := fun x y z => by rw [covB_iff, sD.cubes]
  have fU : ∀ x y z, fOr9 (covB a) (covB b) x y z = true ↔ HasL (secS (solO or (solB a) (solB b)) z) x y := fun x y z => by
    unfold fOr9; rw [Bool.or_eq_true, covB_iff, covB_iff, sU.cubes]
  have fI : ∀ x y z, fAnd9 (covB a) (covB b) x y z = true ↔ HasL (secS (solO and (solB a) (solB b)) z) x y := fun x y z => by
    unfold fAnd9; rw [Bool.and_eq_true, covB_iff, covB_iff, sI.cubes]
  have fM : ∀ x y z, fNot9 (covB a) (covB b) x y z = true ↔ HasL (secS (solO andnot (solB a) (solB b)) z) x y := fun x y z => by
    unfold fNot9; rw [Bool.and_eq_true, Bool.not_eq_true', ← Bool.not_eq_true, covB_iff, covB_iff, sM.cubes]
  have wU : Win9 (fOr9 (covB a) (covB b)) := fun x y z h => by
    unfold fOr9 at h
    rcases (Bool.or_eq_true _ _).mp h with h | h
    · exact wa x y z h
    · exact wb x y z h
  have wI : Win9 (fAnd9 (covB a) (covB b)) := fun x y z h => by
    unfold fAnd9 at h
    rw [Bool.and_eq_true] at h
    exact wa x y z h.1
  have vC := vol_cnt9 pC.form wa fC
  have vD := vol_cnt9 pD.form wb fD
  have vU := vol_cnt9 pU.form wU fU
  have vI := vol_cnt9 pI.form wI fI
  have vM := vol_cnt9 pM.form (win9_not (q := covB b) wa) fM
  have k1 := cub9_and_not (covB a) (covB b)
  have k2 := cub9_or_and (covB a) (covB b)
  have vU2 : volS (solO or (solB a) (solB b)) = cnt9 (covB a) 8 0 0 + cnt9 (covB b) 8 0 0 - cnt9 (fAnd9 (covB a) (covB b)) 8 0 0 := by
    rw [vU, cnt9_end, cnt9_end, cnt9_end, cnt9_end]; omega
  have vM2 : volS (solO andnot (solB a) (solB b)) = cnt9 (covB a) 8 0 0 - cnt9 (fAnd9 (covB a) (covB b)) 8 0 0 := by
    rw [vM, cnt9_end, cnt9_end, cnt9_end]; omega
  have ns : ∀ x y z, ¬ ((0 ≤ x ∧ x < 8) ∧ (0 ≤ y ∧ y < 8) ∧ 0 ≤ z ∧ z < 8) → covB a x y z = false := fun x y z h => by
    rw [← Bool.not_eq_true]; exact fun hh => h (wa x y z hh)
  have near : ∀ (l : List Bx), l.length ≤ 6 ∧ Near8 l → Near9 l l.length true := fun l hl w' A1 c1 h => by
    have := cnear_any A1 c1 l w' h.row
    rw [(near8_iff l 6).2 hl] at this
    exact this
  refine cubes_core Aa Ab ca cb a.length b.length _ _ _ _ _ a b (solB a) (solB b) (solO or (solB a) (solB b)) (solO and (solB a) (solB b)) (solO andnot (solB a) (solB b)) (covB a) (covB b) w ha hb
    (Lib.hid (csmall_any w)) (Lib.hid (near a na)) (Lib.hid (near b nb))
    (Lib.hid (of9_of (by omega) (ofS_small oka (by omega)))) (Lib.hid (of9_of (by omega) (ofS_small okb (by omega))))
    (Lib.hid (op9_of bunion_any (opS_small rfl oka okb (by omega)))) (Lib.hid (op9_of bcommon_any (opS_small rfl oka okb (by omega)))) (Lib.hid (op9_of bminus_any (opS_small rfl oka okb (by omega))))
    (Lib.hid fun w' A1 c1 h => bright_yes h pC) (Lib.hid fun w' A1 c1 h => bright_yes h pU) (Lib.hid fun w' A1 c1 h => bright_yes h pI) (Lib.hid fun w' A1 c1 h => bright_yes h pM)
    (Lib.hid fun w' A1 c1 x y z h => ccovered_any A1 c1 a x y z w' h oka) (Lib.hid fun w' A1 c1 x y z h => ccovered_any A1 c1 b x y z w' h okb)
    (Lib.hid (has9_of pC fC)) (Lib.hid (has9_of pU fU)) (Lib.hid (has9_of pI fI)) (Lib.hid (has9_of pM fM))
    (Lib.hid (by rw [← vC]; exact vol9_of pC)) (Lib.hid (by rw [← vD]; exact vol9_of pD)) (Lib.hid (by rw [← vI]; exact vol9_of pI)) (Lib.hid (by rw [← vU2]; exact vol9_of pU)) (Lib.hid (by rw [← vM2]; exact vol9_of pM))
    (Lib.hid (same9_of _ _ _ ?_)) (Lib.hid (ns _ _ _ (by omega))) (Lib.hid (ns _ _ _ (by omega)))
  rw [decide_eq_true_iff, ← same9 wa wb]
  constructor
  · exact fun h => sC.eq sD (fun x y z => by rw [← covB_iff, ← covB_iff, h])
  · intro h x y z
    rw [Bool.eq_iff_iff, fC, fD, h]
set_option maxHeartbeats 8000000 in
theorem cubes_far (Aa Ab : Option Addr) (ca cb : Nat) (a b : List Bx) (w : World) (ha : BIn w Aa ca a) (hb : BIn w Ab cb b) (hn : ¬ ((a.length ≤ 6 ∧ Near8 a) ∧ b.length ≤ 6 ∧ Near8 b)) :
    Calls Try.prog 3 #[.slice Aa a.length ca, .slice Ab b.length cb] w (BlIs true w) := by
  have HS := Lib.hid (csmall_any w)
  have HA := Lib.hid ha; have HB := Lib.hid hb
  clear ha hb
  by_cases na : a.length ≤ 6 ∧ Near8 a
  · have nb : near8 b 6 = false := by rw [← Bool.not_eq_true, near8_iff]; exact fun h => hn ⟨na, h⟩
    have na1 : near8 a 6 = true := (near8_iff a 6).2 na
    have HNA := Lib.hid (fun (w' : World) (h : Below w.heap.size w w') => cnear_any Aa ca a w' (HA.out.row.below h))
    have HNB := Lib.hid (fun (w' : World) (h : Below w.heap.size w w') => cnear_any Ab cb b w' (HB.out.row.below h))
    rw [na1] at HNA; rw [nb] at HNB
    clear na hn na1 nb
    go_enter Try.func3, Try.ntmps3
    go_wp2_with fail
    refine HS.out.mono ?_
    rintro e w1 ⟨rfl, hb1⟩
    have HB1 := Lib.hid hb1; clear hb1
    go_wp2_with fail
    refine (HNA.out _ HB1.out).mono ?_
    rintro e w2 ⟨rfl, hb2⟩
    have HB2 := Lib.hid (HB1.out.trans (hb2.mono HB1.out.size)); clear hb2 HB1
    go_wp2_with fail
    refine (HNB.out _ HB2.out).mono ?_
    rintro e w3 ⟨rfl, hb3⟩
    have HB3 := Lib.hid (HB2.out.trans (hb3.mono HB2.out.size)); clear hb3 HB2
    go_wp2_with fail
    go_ret
    exact ⟨rfl, HB3.out⟩
  · have na1 : near8 a 6 = false := by rw [← Bool.not_eq_true, near8_iff]; exact na
    have HNA := Lib.hid (fun (w' : World) (h : Below w.heap.size w w') => cnear_any Aa ca a w' (HA.out.row.below h))
    rw [na1] at HNA
    clear na hn na1
    go_enter Try.func3, Try.ntmps3
    go_wp2_with fail
    refine HS.out.mono ?_
    rintro e w1 ⟨rfl, hb1⟩
    have HB1 := Lib.hid hb1; clear hb1
    go_wp2_with fail
    refine (HNA.out _ HB1.out).mono ?_
    rintro e w2 ⟨rfl, hb2⟩
    have HB2 := Lib.hid (HB1.out.trans (hb2.mono HB1.out.size)); clear hb2 HB1
    go_wp2_with fail
    go_ret
    exact ⟨rfl, HB2.out⟩
theorem cubes_walk (Aa : Option Addr) (ca : Nat) (a : List Bx) (Ab : Option Addr) (cb : Nat) (b : List Bx) (w : World) (ha : BIn w Aa ca a) (hb : BIn w Ab cb b) :
    Calls Try.prog 3 #[.slice Aa a.length ca, .slice Ab b.length cb] w (BlIs true w) := by
  by_cases h : (a.length ≤ 6 ∧ Near8 a) ∧ b.length ≤ 6 ∧ Near8 b
  · exact cubes_ok Aa Ab ca cb a b w ha hb h.1 h.2
  · exact cubes_far Aa Ab ca cb a b w ha hb h
end Go.Proofs.Yteecfgdicckplaa
