/-
  SolidAlgebra: the branch with an error; the whole.
-/
import Derived.Test.YteecfgdicckplaaAu
set_option linter.unusedVariables false
set_option maxRecDepth 100000
namespace Go.Proofs.Yteecfgdicckplaa
open Go.RowKit

theorem of9_err (l : List Bx) (hl : l.length ≤ 14) : ∃ S er, ofS l = (S, er) ∧ (er = 0 ∧ (∀ b ∈ l, BOk b) ∧ S = solB l ∨ er = 1 ∧ ¬ ∀ b ∈ l, BOk b) := by
  by_cases h : ∀ b ∈ l, BOk b
  · exact ⟨_, _, ofS_small h hl, Or.inl ⟨rfl, h, rfl⟩⟩
  · exact ⟨_, _, ofS_bad h, Or.inr ⟨rfl, h⟩⟩
set_option maxHeartbeats 16000000 in
theorem algebra9_err0 (Aa Ab Ac : Option Addr) (ca cb cc na nb nc : Nat) (a b c : List Bx) (X Y Z : List Sl) (nX nY nZ : Nat) (eb ec : Int) (w : World)
    (ha : BIn w Aa ca a) (hb : BIn w Ab cb b) (hc : BIn w Ac cc c) (ma : na ≤ 4) (mb : nb ≤ 4) (mc : nc ≤ 4)
    (HX : Hid (Of9 a na X nX 1))
    (HY : Hid (Of9 b nb Y nY eb))
    (HZ : Hid (Of9 c nc Z nZ ec))
    (HSM : Hid (Calls Try.prog 8 #[] w (BlIs true w))) :
    Calls Try.prog 4 #[.slice Aa na ca, .slice Ab nb cb, .slice Ac nc cc] w (BlIs true w) := by
  have KA := Lib.hid ha; have KB := Lib.hid hb; have KC := Lib.hid hc
  clear ha hb hc
  have m1 : ¬ (4 : Int) < (na : Int) := by omega
  have m2 : ¬ (4 : Int) < (nb : Int) := by omega
  have m3 : ¬ (4 : Int) < (nc : Int) := by omega
  go_enter Try.func4, Try.ntmps4
  go_wp2_with fail
  refine HSM.out.mono ?_
  rintro e0 w0 ⟨rfl, hb0⟩
  have B0 := Lib.hid hb0
  clear hb0
  go_wp2_with fail
  refine (HX.out _ _ _ (KA.out.below B0.out).row).mono ?_
  rintro q1 w1 ⟨A1, c1, rfl, _, hb1⟩
  have B1 := Lib.hid (B0.out.trans (hb1.mono B0.out.size))
  clear hb1
  go_wp2_with fail
  refine (HY.out _ _ _ (KB.out.below B1.out).row).mono ?_
  rintro q2 w2 ⟨A2, c2, rfl, _, hb2⟩
  have B2 := Lib.hid (B1.out.trans (hb2.mono B1.out.size))
  clear hb2
  go_wp2_with fail
  refine (HZ.out _ _ _ (KC.out.below B2.out).row).mono ?_
  rintro q3 w3 ⟨A3, c3, rfl, _, hb3⟩
  have B3 := Lib.hid (B2.out.trans (hb3.mono B2.out.size))
  clear hb3
  go_wp2_with fail
  go_ret
  exact ⟨rfl, B3.out⟩
set_option maxHeartbeats 16000000 in
theorem algebra9_err1 (Aa Ab Ac : Option Addr) (ca cb cc na nb nc : Nat) (a b c : List Bx) (X Y Z : List Sl) (nX nY nZ : Nat) (ec : Int) (w : World)
    (ha : BIn w Aa ca a) (hb : BIn w Ab cb b) (hc : BIn w Ac cc c) (ma : na ≤ 4) (mb : nb ≤ 4) (mc : nc ≤ 4)
    (HX : Hid (Of9 a na X nX 0))
    (HY : Hid (Of9 b nb Y nY 1))
    (HZ : Hid (Of9 c nc Z nZ ec))
    (HSM : Hid (Calls Try.prog 8 #[] w (BlIs true w))) :
    Calls Try.prog 4 #[.slice Aa na ca, .slice Ab nb cb, .slice Ac nc cc] w (BlIs true w) := by
  have KA := Lib.hid ha; have KB := Lib.hid hb; have KC := Lib.hid hc
  clear ha hb hc
  have m1 : ¬ (4 : Int) < (na : Int) := by omega
  have m2 : ¬ (4 : Int) < (nb : Int) := by omega
  have m3 : ¬ (4 : Int) < (nc : Int) := by omega
  go_enter Try.func4, Try.ntmps4
  go_wp2_with fail
  refine HSM.out.mono ?_
  rintro e0 w0 ⟨rfl, hb0⟩
  have B0 := Lib.hid hb0
  clear hb0
  go_wp2_with fail
  refine (HX.out _ _ _ (KA.out.below B0.out).row).mono ?_
  rintro q1 w1 ⟨A1, c1, rfl, _, hb1⟩
  have B1 := Lib.hid (B0.out.trans (hb1.mono B0.out.size))
  clear hb1
  go_wp2_with fail
  refine (HY.out _ _ _ (KB.out.below B1.out).row).mono ?_
  rintro q2 w2 ⟨A2, c2, rfl, _, hb2⟩
  have B2 := Lib.hid (B1.out.trans (hb2.mono B1.out.size))
  clear hb2
  go_wp2_with fail
  refine (HZ.out _ _ _ (KC.out.below B2.out).row).mono ?_
  rintro q3 w3 ⟨A3, c3, rfl, _, hb3⟩
  have B3 := Lib.hid (B2.out.trans (hb3.mono B2.out.size))
  clear hb3
  go_wp2_with fail
  go_ret
  exact ⟨rfl, B3.out⟩
set_option maxHeartbeats 16000000 in
theorem algebra9_err2 (Aa Ab Ac : Option Addr) (ca cb cc na nb nc : Nat) (a b c : List Bx) (X Y Z : List Sl) (nX nY nZ : Nat) (w : World)
    (ha : BIn w Aa ca a) (hb : BIn w Ab cb b) (hc : BIn w Ac cc c) (ma : na ≤ 4) (mb : nb ≤ 4) (mc : nc ≤ 4)
    (HX : Hid (Of9 a na X nX 0))
    (HY : Hid (Of9 b nb Y nY 0))
    (HZ : Hid (Of9 c nc Z nZ 1))
    (HSM : Hid (Calls Try.prog 8 #[] w (BlIs true w))) :
    Calls Try.prog 4 #[.slice Aa na ca, .slice Ab nb cb, .slice Ac nc cc] w (BlIs true w) := by
  have KA := Lib.hid ha; have KB := Lib.hid hb; have KC := Lib.hid hc
  clear ha hb hc
  have m1 : ¬ (4 : Int) < (na : Int) := by omega
  have m2 : ¬ (4 : Int) < (nb : Int) := by omega
  have m3 : ¬ (4 : Int) < (nc : Int) := by omega
  go_enter Try.func4, Try.ntmps4
  go_wp2_with fail
  refine HSM.out.mono ?_
  rintro e0 w0 ⟨rfl, hb0⟩
  have B0 := Lib.hid hb0
  clear hb0
  go_wp2_with fail
  refine (HX.out _ _ _ (KA.out.below B0.out).row).mono ?_
  rintro q1 w1 ⟨A1, c1, rfl, _, hb1⟩
  have B1 := Lib.hid (B0.out.trans (hb1.mono B0.out.size))
  clear hb1
  go_wp2_with fail
  refine (HY.out _ _ _ (KB.out.below B1.out).row).mono ?_
  rintro q2 w2 ⟨A2, c2, rfl, _, hb2⟩
  have B2 := Lib.hid (B1.out.trans (hb2.mono B1.out.size))
  clear hb2
  go_wp2_with fail
  refine (HZ.out _ _ _ (KC.out.below B2.out).row).mono ?_
  rintro q3 w3 ⟨A3, c3, rfl, _, hb3⟩
  have B3 := Lib.hid (B2.out.trans (hb3.mono B2.out.size))
  clear hb3
  go_wp2_with fail
  go_ret
  exact ⟨rfl, B3.out⟩
set_option maxHeartbeats 8000000 in
theorem algebra9_big (Aa Ab Ac : Option Addr) (ca cb cc na nb nc : Nat) (w : World) (h : ¬ (na ≤ 4 ∧ nb ≤ 4 ∧ nc ≤ 4)) (HSM : Hid (Calls Try.prog 8 #[] w (BlIs true w))) :
    Calls Try.prog 4 #[.slice Aa na ca, .slice Ab nb cb, .slice Ac nc cc] w (BlIs true w) := by
  by_cases h1 : (4 : Int) < (na : Int)
  · clear h
    go_enter Try.func4, Try.ntmps4
    go_wp2_with fail
    refine HSM.out.mono ?_
    rintro e0 w0 ⟨rfl, hb0⟩
    have B0 := Lib.hid hb0
    clear hb0
    go_wp2_with fail
    go_ret
    exact ⟨rfl, B0.out⟩
  · by_cases h2 : (4 : Int) < (nb : Int)
    · clear h
      go_enter Try.func4, Try.ntmps4
      go_wp2_with fail
      refine HSM.out.mono ?_
      rintro e0 w0 ⟨rfl, hb0⟩
      have B0 := Lib.hid hb0
      clear hb0
      go_wp2_with fail
      go_ret
      exact ⟨rfl, B0.out⟩
    · have h3 : (4 : Int) < (nc : Int) := by omega
      clear h
      go_enter Try.func4, Try.ntmps4
      go_wp2_with fail
      refine HSM.out.mono ?_
      rintro e0 w0 ⟨rfl, hb0⟩
      have B0 := Lib.hid hb0
      clear hb0
      go_wp2_with fail
      go_ret
      exact ⟨rfl, B0.out⟩
theorem op9_of {op : Bool → Bool → Bool} {f : Nat} (hf : ∀ (A1 : Option Addr) (c1 : Nat) (A2 : Option Addr) (c2 : Nat) (a b : List Sl) (w : World), SIn w A1 c1 a → SIn w A2 c2 b → Calls Try.prog f #[.slice A1 a.length c1, .slice A2 b.length c2] w (SolRes (opS op a b) w))
    {P Q R : List Sl} {er : Int} (e : opS op P Q = (R, er)) : Op9 f P P.length Q Q.length R R.length er := fun w' A1 c1 A2 c2 h1 h2 => by
  have := hf A1 c1 A2 c2 P Q w' h1 h2
  rw [e] at this; exact this
theorem eq9_of (P : List Sl) : Eq9 P P.length := fun w' A1 c1 A2 c2 h1 h2 => (bsame_any A1 c1 A2 c2 P P w' h1 h2).mono fun e w2 k => same_true rfl k
theorem vol9_of {P : List Sl} (h : SolP P) : Vol9 P P.length (volS P) := fun w' A1 c1 h1 => bvolume_yes h1 h
theorem of9_of {l : List Bx} {P : List Sl} {er : Int} (hl : l.length ≤ 14) (e : ofS l = (P, er)) : Of9 l l.length P P.length er := fun w' A1 c1 h1 => of_res h1 (by omega) e rfl
theorem vol_max {P : List Sl} (h : SolP P) : 0 ≤ volS P ∧ volS P ≤ 1000000000000000000 := by
  have h1 := vol_bd h.form
  have h2 := h.len
  omega
/-- the last k boxes. -/
def lastB (l : List Bx) (k : Nat) : List Bx := l.drop (l.length - k)
theorem has_append (l m : List Bx) (x y z : Int) : HasB (l ++ m) x y z ↔ HasB l x y z ∨ HasB m x y z := by
  unfold HasB
  simp only [List.mem_append]
  constructor
  · rintro ⟨b, hb | hb, h⟩
    · exact Or.inl ⟨b, hb, h⟩
    · exact Or.inr ⟨b, hb, h⟩
  · rintro (⟨b, hb, h⟩ | ⟨b, hb, h⟩)
    · exact ⟨b, Or.inl hb, h⟩
    · exact ⟨b, Or.inr hb, h⟩
theorem ok_append {l m : List Bx} (h1 : ∀ b ∈ l, BOk b) (h2 : ∀ b ∈ m, BOk b) : ∀ b ∈ l ++ m, BOk b := fun b hb => (List.mem_append.1 hb).elim (h1 b) (h2 b)
theorem algebra9_walk (Aa : Option Addr) (ca : Nat) (a : List Bx) (Ab : Option Addr) (cb : Nat) (b : List Bx) (Ac : Option Addr) (cc : Nat) (c : List Bx) (w : World) (ha : BIn w Aa ca a) (hb : BIn w Ab cb b) (hc : BIn w Ac cc c) :
    Calls Try.prog 4 #[.slice Aa a.length ca, .slice Ab b.length cb, .slice Ac c.length cc] w (BlIs true w) := by
  have HSM := Lib.hid (csmall_any w)
  by_cases hm : a.length ≤ 4 ∧ b.length ≤ 4 ∧ c.length ≤ 4
  · obtain ⟨ma, mb, mc⟩ := hm
    obtain ⟨X, ea, eX, dX⟩ := of9_err a (by omega)
    obtain ⟨Y, eb, eY, dY⟩ := of9_err b (by omega)
    obtain ⟨Z, ec, eZ, dZ⟩ := of9_err c (by omega)
    have HX := of9_of (by omega) eX
    have HY := of9_of (by omega) eY
    have HZ := of9_of (by omega) eZ
    rcases dX with ⟨rfl, oka, rfl⟩ | ⟨rfl, _⟩
    · rcases dY with ⟨rfl, okb, rfl⟩ | ⟨rfl, _⟩
      · rcases dZ with ⟨rfl, okc, rfl⟩ | ⟨rfl, _⟩
        · have pX := solB_small oka (by omega)
          have pY := solB_small okb (by omega)
          have pZ := solB_small okc (by omega)
          have sX := cs_b oka; have sY := cs_b okb; have sZ := cs_b okc
          have pXY := solO_small (op := or) rfl oka okb (by omega)
          have pYZ := solO_small (op := or) rfl okb okc (by omega)
          have pIN := solO_small (op := and) rfl oka okb (by omega)
          have pXZ := solO_small (op := and) rfl oka okc (by omega)
          have pLE := solO_small (op := andnot) rfl oka okb (by omega)
          have sXY := cs_or sX sY; have sYZ := cs_or sY sZ; have sIN := cs_and sX sY; have sXZ := cs_and sX sZ; have sLE := cs_not sX sY
          have okl : ∀ x ∈ c ++ (a ++ b), BOk x := ok_append okc (ok_append oka okb)
          have hll : (c ++ (a ++ b)).length ≤ 14 := by simp; omega
          have pAL := solB_small okl hll
          have sAL := cs_b okl
          have hal : ∀ x y z, HasB (c ++ (a ++ b)) x y z ↔ HasB c x y z ∨ (HasB a x y z ∨ HasB b x y z) := fun x y z => by rw [has_append, has_append]
          have eYX : solO or (solB b) (solB a) = solO or (solB a) (solB b) := (cs_or sY sX).eq sXY (fun x y z => Or.comm)
          have eONE : solO or (solO or (solB a) (solB b)) (solB c) = solB (c ++ (a ++ b)) := (cs_or sXY sZ).eq sAL (fun x y z => by rw [hal]; exact Or.comm)
          have eTWO : solO or (solB a) (solO or (solB b) (solB c)) = solB (c ++ (a ++ b)) := (cs_or sX sYZ).eq sAL (fun x y z => by rw [hal, ← or_assoc]; exact Or.comm)
          have eBK : solO and (solB b) (solB a) = solO and (solB a) (solB b) := (cs_and sY sX).eq sIN (fun x y z => And.comm)
          have eFO : solO or (solO and (solB a) (solB b)) (solO and (solB a) (solB c)) = solO and (solB a) (solO or (solB b) (solB c)) := (cs_or sIN sXZ).eq (cs_and sX sYZ) (fun x y z => and_or_left.symm)
          have eRE : solO and (solO andnot (solB a) (solB b)) (solB b) = [] := (cs_and sLE sY).eq (⟨trivial, fun x y z => ⟨fun h => no_has x y h, fun h => h.elim⟩⟩ : CS [] (fun _ _ _ => False)) (fun x y z => ⟨fun h => h.1.2 h.2, fun h => h.elim⟩)
          have eWH : solO or (solO andnot (solB a) (solB b)) (solO and (solB a) (solB b)) = solB a := (cs_or sLE sIN).eq sX (fun x y z => ⟨fun h => h.elim (·.1) (·.1), fun h => by by_cases q : HasB b x y z; exact Or.inr ⟨h, q⟩; exact Or.inl ⟨h, q⟩⟩)
          have eSI : solO andnot (solO andnot (solB a) (solB b)) (solB c) = solO andnot (solB a) (solO or (solB b) (solB c)) := (cs_not sLE sZ).eq (cs_not sX sYZ) (fun x y z => by rw [and_assoc, not_or])
          have cAL := pAL.cap
          have vs := vol_adds pX.form pY.form pXY.form pIN.form (fun x y z => by rw [sXY.cubes, sX.cubes, sY.cubes]) (fun x y z => by rw [sIN.cubes, sX.cubes, sY.cubes])
          have okl2 : ∀ k, ∀ x ∈ lastB a k, BOk x := fun k x hx => oka x (List.mem_of_mem_drop hx)
          have hlk : ∀ k, (lastB a k).length ≤ 4 := fun k => by unfold lastB; rw [List.length_drop]; omega
          refine algebra9_core Aa Ab Ac ca cb cc a.length b.length c.length a b c (solB a) (solB b) (solB c) (solO or (solB a) (solB b)) (solO or (solB b) (solB c)) (solB (c ++ (a ++ b))) (solO and (solB a) (solB b)) (solO and (solB a) (solB c)) (capS (solO and (solB a) (solO or (solB b) (solB c)))).1 (solO andnot (solB a) (solB b)) (capS (solO andnot (solB a) (solO or (solB b) (solB c)))).1
            _ _ _ _ _ _ _ _ _ _ _ (volS (solO or (solB a) (solB b))) (volS (solO and (solB a) (solB b))) (volS (solB a)) (volS (solB b)) (capS (solO and (solB a) (solO or (solB b) (solB c)))).2 (capS (solO andnot (solB a) (solO or (solB b) (solB c)))).2
            (fun k => solB (lastB a k)) (fun k => solB ((a.drop (a.length - (k + 1))).take 1)) w ha hb hc (Lib.hid rfl) (Lib.hid rfl) (Lib.hid rfl) ma mb mc (vol_max pXY) (vol_max pIN) (vol_max pX) (vol_max pY) (by rw [vs]; simp)
            (Lib.hid HX) (Lib.hid HY) (Lib.hid HZ)
            (Lib.hid (op9_of bunion_any (opS_small rfl oka okb (by omega)))) (Lib.hid (op9_of bunion_any (by rw [opS_cap pY pX, eYX]; exact pXY.cap))) (Lib.hid (op9_of bunion_any (opS_small rfl okb okc (by omega))))
            (Lib.hid (op9_of bunion_any (by rw [opS_cap pXY pZ, eONE]; exact cAL))) (Lib.hid (op9_of bunion_any (by rw [opS_cap pX pYZ, eTWO]; exact cAL)))
            (Lib.hid (op9_of bcommon_any (opS_small rfl oka okb (by omega)))) (Lib.hid (op9_of bcommon_any (by rw [opS_cap pY pX, eBK]; exact pIN.cap))) (Lib.hid (op9_of bcommon_any (opS_small rfl oka okc (by omega))))
            (Lib.hid (op9_of bcommon_any (by rw [opS_cap pX pYZ]))) (Lib.hid (op9_of bunion_any (by rw [opS_cap pIN pXZ, eFO])))
            (Lib.hid (op9_of bminus_any (opS_small rfl oka okb (by omega)))) (Lib.hid (op9_of (R := []) bcommon_any (by rw [opS_cap pLE pY, eRE]; exact sol_nil.cap))) (Lib.hid (op9_of bunion_any (by rw [opS_cap pLE pIN, eWH]; exact pX.cap)))
            (Lib.hid (op9_of bminus_any (by rw [opS_cap pX pYZ]))) (Lib.hid (op9_of bminus_any (by rw [opS_cap pLE pZ, eSI])))
            (Lib.hid (eq9_of _)) (Lib.hid (eq9_of _)) (Lib.hid (eq9_of _)) (Lib.hid (eq9_of _)) (Lib.hid (eq9_of _)) (Lib.hid (eq9_of _))
            (Lib.hid (vol9_of pXY)) (Lib.hid (vol9_of pIN)) (Lib.hid (vol9_of pX)) (Lib.hid (vol9_of pY)) ?_ ?_ ?_ ?_ ?_ (Lib.hid rfl) HSM
          · refine Lib.hid (fun w' B v ho => ?_)
            have hlen : c.length + a.length + b.length = (c ++ (a ++ b)).length := by simp; omega
            rw [hlen, show bxcells c ++ (bxcells a ++ bxcells b) = bxcells (c ++ (a ++ b)) by rw [bxcells_append, bxcells_append]] at ho
            obtain ⟨A', c', rfl, hr, _, _⟩ := own_boxes ho
            exact of_res hr (by omega) (ofS_small okl hll) rfl
          · refine Lib.hid (fun k j hj hjk w' A1 c1 hr => ?_)
            have e : (a.drop (a.length - (k + 1))).take 1 = [a[j]] := by
              rw [show a.length - (k + 1) = j by omega, List.drop_eq_getElem_cons hj, List.take_succ_cons, List.take_zero]
            show Calls Try.prog 10 #[.slice A1 1 c1] w' (RS9 (solB ((a.drop (a.length - (k + 1))).take 1)) (solB ((a.drop (a.length - (k + 1))).take 1)).length 0 w')
            rw [e]
            exact of_res (l := [a[j]]) hr (by simp) (ofS_small (fun x hx => by rw [List.mem_singleton] at hx; subst hx; exact oka _ (List.getElem_mem hj)) (by simp)) rfl
          · refine Lib.hid (fun k hk => ?_)
            have e1 : lastB a (k + 1) = (a.drop (a.length - (k + 1))).take 1 ++ lastB a k := by
              unfold lastB
              rw [show a.length - k = (a.length - (k + 1)) + 1 by omega, show a.drop ((a.length - (k + 1)) + 1) = (a.drop (a.length - (k + 1))).drop 1 by rw [List.drop_drop]]
              exact (List.take_append_drop 1 _).symm
            have ok1 : ∀ x ∈ (a.drop (a.length - (k + 1))).take 1, BOk x := fun x hx => oka x (List.mem_of_mem_drop (List.mem_of_mem_take hx))
            have l1 : ((a.drop (a.length - (k + 1))).take 1).length ≤ 4 := by rw [List.length_take]; omega
            refine op9_of bunion_any ?_
            rw [opS_cap (solB_small (okl2 k) (by have := hlk k; omega)) (solB_small ok1 (by omega))]
            have e2 : solO or (solB (lastB a k)) (solB ((a.drop (a.length - (k + 1))).take 1)) = solB (lastB a (k + 1)) := (cs_or (cs_b (okl2 k)) (cs_b ok1)).eq (cs_b (okl2 (k + 1))) (fun x y z => by rw [e1, has_append]; exact Or.comm)
            rw [e2]
            exact (solB_small (okl2 (k + 1)) (by have := hlk (k + 1); omega)).cap
          · refine Lib.hid ?_
            show solB (lastB a 0) = []
            unfold lastB
            rw [Nat.sub_zero, List.drop_length]
            decide +kernel
          · refine Lib.hid ?_
            show solB (lastB a a.length) = solB a
            unfold lastB
            rw [Nat.sub_self, List.drop_zero]
        · exact algebra9_err2 Aa Ab Ac ca cb cc a.length b.length c.length a b c _ _ _ _ _ _ w ha hb hc ma mb mc (Lib.hid HX) (Lib.hid HY) (Lib.hid HZ) HSM
      · exact algebra9_err1 Aa Ab Ac ca cb cc a.length b.length c.length a b c _ _ _ _ _ _ _ w ha hb hc ma mb mc (Lib.hid HX) (Lib.hid HY) (Lib.hid HZ) HSM
    · exact algebra9_err0 Aa Ab Ac ca cb cc a.length b.length c.length a b c _ _ _ _ _ _ _ _ w ha hb hc ma mb mc (Lib.hid HX) (Lib.hid HY) (Lib.hid HZ) HSM
  · exact algebra9_big Aa Ab Ac ca cb cc _ _ _ w hm HSM
end Go.Proofs.Yteecfgdicckplaa
