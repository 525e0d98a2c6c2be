/-
  The walk of RegionParts.
-/
import Derived.Test.YtoalfmdjdplbkaaKr
import Derived.Test.YtoalfmdjdplbkaaKs
import Derived.Test.YtoalfmdjdplbkaaIi
set_option linter.unusedVariables false
set_option maxRecDepth 100000
namespace Go.Proofs.Ytoalfmdjdplbkaa
open Go.RowKit

/-- what the law keeps in its loop: all that was there, and the list of all rectangles so far. -/
structure AL (va : Value) (M : List Rc) (w0 w : World) : Prop where
  bel : Below w0.heap.size w0 w
  own : w.ownsRow w0.heap.size 38 4 va M.length (rcells M)
theorem AL.go {va : Value} {M : List Rc} {w0 w w' : World} (h : AL va M w0 w) (hb : Below w.heap.size w w') : AL va M w0 w' := ⟨h.bel.trans (hb.mono h.bel.size), own_go h.own hb⟩
def Ax (gp i j : Nat) (u v : Value) (va : Value) (M : List Rc) (w0 w : World) : Prop := w.cell? ⟨gp, i, none⟩ = some u ∧ w.cell? ⟨gp, j, none⟩ = some v ∧ gp < w.heap.size ∧ Hid (AL va M w0 w)
theorem Ax.go {gp i j : Nat} {u v va : Value} {M : List Rc} {w0 w w' : World} (h : Ax gp i j u v va M w0 w) (hb : Below w.heap.size w w') : Ax gp i j u v va M w0 w' :=
  ⟨(hb.cell (p := ⟨gp, i, none⟩) h.2.2.1).trans h.1, (hb.cell (p := ⟨gp, j, none⟩) h.2.2.1).trans h.2.1, Nat.lt_of_lt_of_le h.2.2.1 hb.size, Lib.hid (h.2.2.2.out.go hb)⟩
theorem Ax.drewN {gp i j : Nat} {u v va : Value} {M : List Rc} {w0 w : World} (h : Ax gp i j u v va M w0 w) (n : Nat) : Ax gp i j u v va M w0 (w.drewN n) := h.go (below_drewN (Below.refl _ _) n)
theorem Ax.bel {gp i j : Nat} {u v va : Value} {M : List Rc} {w0 w : World} (h : Ax gp i j u v va M w0 w) : Below w0.heap.size w0 w := h.2.2.2.out.bel
/-- two cells of two blocks. -/
def Bxx (g1 i1 g2 i2 : Nat) (u v : Value) (va : Value) (M : List Rc) (w0 w : World) : Prop := w.cell? ⟨g1, i1, none⟩ = some u ∧ w.cell? ⟨g2, i2, none⟩ = some v ∧ g1 < w.heap.size ∧ g2 < w.heap.size ∧ Hid (AL va M w0 w)
theorem Bxx.go {g1 i1 g2 i2 : Nat} {u v va : Value} {M : List Rc} {w0 w w' : World} (h : Bxx g1 i1 g2 i2 u v va M w0 w) (hb : Below w.heap.size w w') : Bxx g1 i1 g2 i2 u v va M w0 w' :=
  ⟨(hb.cell (p := ⟨g1, i1, none⟩) h.2.2.1).trans h.1, (hb.cell (p := ⟨g2, i2, none⟩) h.2.2.2.1).trans h.2.1, Nat.lt_of_lt_of_le h.2.2.1 hb.size, Nat.lt_of_lt_of_le h.2.2.2.1 hb.size, Lib.hid (h.2.2.2.2.out.go hb)⟩
theorem Bxx.drewN {g1 i1 g2 i2 : Nat} {u v va : Value} {M : List Rc} {w0 w : World} (h : Bxx g1 i1 g2 i2 u v va M w0 w) (n : Nat) : Bxx g1 i1 g2 i2 u v va M w0 (w.drewN n) := h.go (below_drewN (Below.refl _ _) n)
def Bxy (g1 i1 g2 i2 : Nat) (u v : Value) (va : Value) (M : List Rc) (w0 w1 w : World) : Prop := w.cell? ⟨g1, i1, none⟩ = some u ∧ w.cell? ⟨g2, i2, none⟩ = some v ∧ g1 < w.heap.size ∧ g2 < w.heap.size ∧ Hid (AL va M w0 w) ∧ Hid (Below w1.heap.size w1 w)
theorem Bxy.go {g1 i1 g2 i2 : Nat} {u v va : Value} {M : List Rc} {w0 w1 w w' : World} (h : Bxy g1 i1 g2 i2 u v va M w0 w1 w) (hb : Below w.heap.size w w') : Bxy g1 i1 g2 i2 u v va M w0 w1 w' :=
  ⟨(hb.cell (p := ⟨g1, i1, none⟩) h.2.2.1).trans h.1, (hb.cell (p := ⟨g2, i2, none⟩) h.2.2.2.1).trans h.2.1, Nat.lt_of_lt_of_le h.2.2.1 hb.size, Nat.lt_of_lt_of_le h.2.2.2.1 hb.size, Lib.hid (h.2.2.2.2.1.out.go hb), Lib.hid (h.2.2.2.2.2.out.trans (hb.mono h.2.2.2.2.2.out.size))⟩
theorem Bxy.drewN {g1 i1 g2 i2 : Nat} {u v va : Value} {M : List Rc} {w0 w1 w : World} (h : Bxy g1 i1 g2 i2 u v va M w0 w1 w) (n : Nat) : Bxy g1 i1 g2 i2 u v va M w0 w1 (w.drewN n) := h.go (below_drewN (Below.refl _ _) n)
theorem Bxy.bel {g1 i1 g2 i2 : Nat} {u v va : Value} {M : List Rc} {w0 w1 w : World} (h : Bxy g1 i1 g2 i2 u v va M w0 w1 w) : Below w1.heap.size w1 w := h.2.2.2.2.2.out
theorem con_right2 {P : List Rc} (hP : RegP P) (w' : World) (A1 : Option Addr) (c1 : Nat) (h : RIn w' A1 c1 P) : Calls Try.prog 16 #[.slice A1 P.length c1] w' (BlIs true w') := gright_yes A1 c1 P w' h.row h.len h.room h.room2 hP
theorem row_cells {w : World} {A : Option Addr} {cap g : Nat} {l : List Rc} (h : RIn w A cap l) (hA : A = some ⟨g, 0, none⟩) (t : Nat) (u : Value) (ht : (rcells l)[t]? = some u) : w.cell? ((⟨g, 0, none⟩ : Addr).add t) = some u := by
  have hlt := rcells_back l t u ht
  obtain ⟨b, off, e, hb, hv⟩ := h.row (by omega)
  rw [hA] at e
  injection e with e
  injection e with e1 e2
  subst e1; subst e2
  obtain ⟨x0, x1, x2, x3⟩ := hv (t / 4) hlt
  obtain ⟨y0, y1, y2, y3⟩ := rcells_at l (t / 4) hlt
  have ea : (⟨g, 0, none⟩ : Addr).add t = ⟨g, t, none⟩ := by unfold Addr.add; split <;> simp_all
  rw [ea]
  have hm : t % 4 = 0 ∨ t % 4 = 1 ∨ t % 4 = 2 ∨ t % 4 = 3 := by omega
  rcases hm with hm | hm | hm | hm
  · have et : t = t / 4 * 4 := by omega
    rw [et] at ht ⊢
    rw [y0] at ht
    rw [← ht, ← x0]; simp
  · have et : t = t / 4 * 4 + 1 := by omega
    rw [et] at ht ⊢
    rw [y1] at ht
    rw [← ht, ← x1]; simp
  · have et : t = t / 4 * 4 + 2 := by omega
    rw [et] at ht ⊢
    rw [y2] at ht
    rw [← ht, ← x2]; simp
  · have et : t = t / 4 * 4 + 3 := by omega
    rw [et] at ht ⊢
    rw [y3] at ht
    rw [← ht, ← x3]; simp
theorem rcells_one2 (l : List Rc) : ∀ u ∈ rcells l, u.oneCell' = true := fun u hu => by
  obtain ⟨r, _, h⟩ := List.mem_flatMap.1 hu
  simp at h
  rcases h with rfl | rfl | rfl | rfl <;> rfl
theorem first_cell {w : World} {cap g : Nat} {l : List Rc} (h : RIn w (some ⟨g, 0, none⟩) cap l) (hl : 0 < l.length) : w.cell? ⟨g, 0, none⟩ = some (.int .i64 (l.getD 0 zR).X0) ∧ w.cell? ⟨g, 1, none⟩ = some (.int .i64 (l.getD 0 zR).Y0) ∧ g < w.heap.size := by
  obtain ⟨b, off, e, hb, hv⟩ := h.row hl
  injection e with e
  injection e with e1 e2
  subst e1; subst e2
  obtain ⟨x0, x1, x2, x3⟩ := hv 0 hl
  rw [getD_in _ _ hl]
  exact ⟨by simpa using x0, by simpa using x1, hb⟩
set_option maxHeartbeats 80000000 in
theorem rparts_core (A : Option Addr) (cap na nX : Nat) (a X : List Rc) (L : List (List Rc)) (w : World) (ha : RIn w A cap a) (ma : na ≤ 12) (hX : X.length ≤ 200) (hPF : PF X L)
    (HSM : Hid (Calls Try.prog 7 #[] w (BlIs true w)))
    (Hx : Hid (∀ (w' : World) (A1 : Option Addr) (c1 : Nat), RIn w' A1 c1 a → Calls Try.prog 8 #[.slice A1 na c1] w' (RR X nX 0 w')))
    (HP : Hid (∀ (w' : World) (A1 : Option Addr) (c1 : Nat), RIn w' A1 c1 X → Calls Try.prog 21 #[.slice A1 nX c1] w' (PartsRes L w')))
    (Hz : Hid (∀ (w' : World) (A1 : Option Addr) (c1 : Nat), RIn w' A1 c1 L.flatten → Calls Try.prog 8 #[.slice A1 L.flatten.length c1] w' (RR X nX 0 w')))
    (Sx : Hid (∀ (w' : World) (A1 : Option Addr) (c1 : Nat) (A2 : Option Addr) (c2 : Nat), RIn w' A1 c1 X → RIn w' A2 c2 X → Calls Try.prog 10 #[.slice A1 nX c1, .slice A2 nX c2] w' (BlIs true w')))
    (Ay : Hid (∀ (w' : World) (A1 : Option Addr) (c1 : Nat), RIn w' A1 c1 X → Calls Try.prog 19 #[.slice A1 nX c1] w' (InIs (areaL L.flatten) w'))) :
    Calls Try.prog 5 #[.slice A na cap] w (BlIs true w) := by
  obtain ⟨i0, hi9, hz0, hz1, hz2⟩ := info_parts infoRect
  have KA := Lib.hid ha
  have HREG := Lib.hid hPF.reg; have HLEX := Lib.hid hPF.lex; have HFAR := Lib.hid hPF.far
  have hFL := hPF.len
  clear ha hPF
  have m1 : ¬ (12 : Int) < (na : Int) := by omega
  go_enter Try.func5, Try.ntmps5
  go_wp2_with fail
  refine HSM.out.mono ?_
  rintro e1 w1 ⟨rfl, hb1⟩
  have HB1 := Lib.hid hb1; clear hb1 HSM
  go_wp2_with fail
  refine (Hx.out _ _ _ (KA.out.below HB1.out)).mono ?_
  rintro e2 w2 ⟨A2, c2, rfl, hr2, hb2⟩
  have HB2 := Lib.hid (HB1.out.trans (hb2.mono HB1.out.size))
  have KX := Lib.hid hr2; clear hr2 hb2 HB1 KA Hx
  go_wp2_with fail
  refine (HP.out _ _ _ KX.out).mono ?_
  rintro e3 w3 ⟨vp, Vs, rfl, hown, hrows, hb3⟩
  have HB3 := Lib.hid (HB2.out.trans (hb3.mono HB2.out.size))
  have KX3 := Lib.hid (KX.out.below hb3)
  have HROWS : Hid (∀ j (h : j < L.length), ∃ g c, Vs[j]? = some (.slice (some ⟨g, 0, none⟩) L[j].length c) ∧ RIn w3 (some ⟨g, 0, none⟩) c L[j]) := Lib.hid (fun j hj => by
    obtain ⟨v, h1, h2⟩ := hrows j hj
    obtain ⟨A', c', rfl, r1, r2, r3, r4, _⟩ := own_rects h2
    obtain ⟨hreg, hpos, _⟩ := HREG.out _ (List.getElem_mem hj)
    obtain ⟨g, rfl, _, _⟩ := r4 hpos
    exact ⟨g, c', h1, r1, by have := hreg.2; omega, r2, r3⟩)
  obtain ⟨Ap, cp, rfl, hap⟩ := own_parts hown
  have hLn : L.length ≤ L.flatten.length := by
    have : ∀ M : List (List Rc), (∀ Q ∈ M, 0 < Q.length) → M.length ≤ M.flatten.length := by
      intro M
      induction M with
      | nil => intro _; exact Nat.le_refl _
      | cons Q M ih =>
        intro h
        have h1 := h Q List.mem_cons_self
        have h2 := ih (fun P hP => h P (List.mem_cons_of_mem _ hP))
        rw [List.flatten_cons, List.length_append, List.length_cons]; omega
    exact this L (fun Q hQ => (HREG.out Q hQ).2.1)
  have HAP := Lib.hid hap
  clear hown hrows hb3 HB2 KX HP hap
  have P0 : Hid (AL (.slice none 0 0) (L.take 0).flatten w3 w3) := Lib.hid ⟨Below.refl _ _, World.ownsRow_nil _ _ _ _⟩
  obtain ⟨nL, hnL⟩ : ∃ nL, nL = L.length := ⟨_, rfl⟩
  rw [← hnL]
  have HNL := Lib.hid hnL; clear hnL
  go_wp2_with fail
  go_loopw [7, 8, 9] (fun al ar i wr => ∃ (k : Nat) (va : Value), k ≤ nL ∧ i = .int .i64 k ∧ va = al ∧ ar = .int .i64 (areaL (L.take k).flatten) ∧ Hid (AL va (L.take k).flatten w3 wr)) (fun _ _ i _ => nL - (intOf i).toNat)
  case atStart => exact ⟨0, _, Nat.zero_le _, rfl, rfl, rfl, P0⟩
  case round =>
    clear P0
    obtain ⟨k, va, hk, rfl, rfl, rfl, HB⟩ := hrel
    by_cases hlt : k < nL
    · have hkl : k < L.length := by have := HNL.out; omega
      have hnL1 : nL ≤ 200 := by have := HNL.out; omega
      obtain ⟨M, hM⟩ : ∃ M, M = (L.take k).flatten := ⟨_, rfl⟩
      rw [← hM] at HB ⊢
      obtain ⟨gp, rfl, hgp, hvc⟩ := HAP.out (by have := HNL.out; omega)
      have HVC : Hid (∀ j, j < nL → w3.cell? ⟨gp, j, none⟩ = Vs[j]?) := Lib.hid (fun j hj => hvc j (by have := HNL.out; omega))
      clear hvc
      obtain ⟨g, cc, hqv, hrq⟩ := HROWS.out k hkl
      obtain ⟨Q, hQ⟩ : ∃ Q, Q = L[k] := ⟨_, rfl⟩
      rw [← hQ] at hqv hrq
      have HQ := Lib.hid hQ
      have RQ := Lib.hid hrq
      have RG := Lib.hid (HREG.out Q (hQ ▸ List.getElem_mem hkl))
      have NXT : Hid ((L.take (k + 1)).flatten = M ++ Q) := Lib.hid (by rw [List.take_succ_eq_append_getElem hkl, List.flatten_append, ← hQ, ← hM]; simp)
      have ANX : Hid (areaL (L.take (k + 1)).flatten = areaL M + areaL Q) := Lib.hid (by rw [NXT.out, areaL_append])
      have LEN : Hid (M.length + Q.length ≤ 200) := Lib.hid (by
        have h1 : (L.take (k + 1)).flatten.length ≤ L.flatten.length := by
          conv => rhs; rw [← List.take_append_drop (k + 1) L, List.flatten_append, List.length_append]
          omega
        rw [NXT.out, List.length_append] at h1; omega)
      have hq1 := RG.out.1.2
      have hq0 := RG.out.2.1
      have hne : ((Q.length : Int) == 0) = false := by rw [beq_eq_false_iff_ne]; omega
      have b1 := areaL_bd M
      have b2 := areaL_bd Q
      have hll := LEN.out
      have wr1 : IntKind.i64.wrap (areaL M + areaL Q) = areaL M + areaL Q := IntWalk.i64_in _ (by have := HNL.out; omega)
      have HAR : Hid (∀ w', Below w3.heap.size w3 w' → Calls Try.prog 19 #[.slice (some ⟨g, 0, none⟩) Q.length cc] w' (InIs (areaL Q) w')) := Lib.hid (fun w' hb => garea_yes _ _ Q w' (RQ.out.below hb) RG.out.1)
      have HRI : Hid (∀ w', Below w3.heap.size w3 w' → Calls Try.prog 16 #[.slice (some ⟨g, 0, none⟩) Q.length cc] w' (BlIs true w')) := Lib.hid (fun w' hb => con_right2 RG.out.1 w' _ _ (RQ.out.below hb))
      have HPA : Hid (∀ w', Below w3.heap.size w3 w' → Calls Try.prog 21 #[.slice (some ⟨g, 0, none⟩) Q.length cc] w' (PartsRes [Q] w')) := Lib.hid (fun w' hb => by
        have := gparts_any _ _ Q w' (RQ.out.below hb) RG.out.1
        rw [RG.out.2.2] at this; exact this)
      have k0 : (0 : Int) ≤ (k : Int) := by have := HNL.out; omega
      have k1 : (k : Int) < (nL : Int) := by have := HNL.out; omega
      have kw : IntKind.i64.wrap ((k : Int) + 1) = (k : Int) + 1 := IntWalk.i64_in _ (by have := HNL.out; omega)
      clear hQ b1 b2 hll hM
      generalize areaL Q = aQ at *
      generalize areaL M = aK at *
      have hqw := (HB.out.bel.cell (p := ⟨gp, k, none⟩) hgp).trans ((HVC.out k (by have := HNL.out; omega)).trans hqv)
      have hgw := Nat.lt_of_lt_of_le hgp HB.out.bel.size
      go_wp2_with fail
      refine (HRI.out _ HB.out.bel).mono ?_
      rintro e w4 ⟨rfl, hb⟩
      have HB4 := Lib.hid (HB.out.go hb); clear hb HB hqw hgw HRI
      have hqw := (HB4.out.bel.cell (p := ⟨gp, k, none⟩) hgp).trans ((HVC.out k (by have := HNL.out; omega)).trans hqv)
      have hgw := Nat.lt_of_lt_of_le hgp HB4.out.bel.size
      go_wp2_with fail
      refine (HPA.out _ HB4.out.bel).mono ?_
      rintro e w5 ⟨vo, Vo, rfl, hown, hrows, hb⟩
      have HB5 := Lib.hid (HB4.out.go hb); clear hb HB4 hqw hgw HPA
      obtain ⟨g5, c5, rfl, _, hg5⟩ := hown.form (by simp)
      have hc5 := hown.cellAt 0 (by simp)
      obtain ⟨v5, e5, o5⟩ := hrows 0 (by simp)
      have o5' : w5.ownsRow w4.heap.size 38 4 v5 Q.length (rcells Q) := o5
      obtain ⟨A5, c5', rfl, r51, r52, r53, _⟩ := own_rects o5'
      have R5 : Hid (RIn w5 A5 c5' Q) := Lib.hid ⟨r51, by omega, r52, r53⟩
      have hz5 := hc5.trans e5
      have HSA : Hid (∀ w', Below w5.heap.size w5 w' → Calls Try.prog 10 #[.slice A5 Q.length c5', .slice (some ⟨g, 0, none⟩) Q.length cc] w' (BlIs true w')) := Lib.hid (fun w' hb => by
        have := vsame_any A5 c5' (some ⟨g, 0, none⟩) cc Q Q w' (R5.out.below hb).row ((RQ.out.below HB5.out.bel).below hb).row (by have := HNL.out; omega) (by have := HNL.out; omega)
        rw [decide_eq_true rfl] at this; exact this)
      have S1 : Bxx g5 0 gp k (.slice A5 Q.length c5') (.slice (some ⟨g, 0, none⟩) Q.length cc) va M w3 w5 := ⟨hz5, (HB5.out.bel.cell (p := ⟨gp, k, none⟩) hgp).trans ((HVC.out k (by have := HNL.out; omega)).trans hqv), hg5, Nat.lt_of_lt_of_le hgp HB5.out.bel.size, HB5⟩
      have K : Hid (Bxy g5 0 gp k (.slice A5 Q.length c5') (.slice (some ⟨g, 0, none⟩) Q.length cc) va M w3 w5 w5) := Lib.hid ⟨S1.1, S1.2.1, S1.2.2.1, S1.2.2.2.1, S1.2.2.2.2, Lib.hid (Below.refl _ _)⟩
      clear S1 hown hrows hc5 e5 o5 o5' r51 r52 r53 hz5 R5
      simp only [List.length_singleton]
      go_wp2_with fail
      go_region_held3 (fun w' => w'.cell? ⟨g5, 0, none⟩ = some (.slice A5 Q.length c5') ∧ w'.cell? ⟨gp, k, none⟩ = some (.slice (some ⟨g, 0, none⟩) Q.length cc) ∧ g5 < w'.heap.size ∧ gp < w'.heap.size ∧ Hid (AL va M w3 w') ∧ Hid (Below w5.heap.size w5 w'))
        (first | exact K.out | exact Bxy.drewN K.out 1 | exact Bxy.go ‹_› ‹_›)
        (first | (go_at_call 10; refine (HSA.out _ ?_).mono ?_; exact Bxy.bel (by assumption); rintro e w' ⟨rfl, hb⟩) | fail)
      have KB : Bxy g5 0 gp k (.slice A5 Q.length c5') (.slice (some ⟨g, 0, none⟩) Q.length cc) va M w3 w5 w' := by assumption
      have HB6 := KB.2.2.2.2.1
      clear K KB HSA
      have hqw := (HB6.out.bel.cell (p := ⟨gp, k, none⟩) hgp).trans ((HVC.out k (by have := HNL.out; omega)).trans hqv)
      have hgw := Nat.lt_of_lt_of_le hgp HB6.out.bel.size
      obtain ⟨f0, f1, f2⟩ := first_cell (RQ.out.below HB6.out.bel) hq0
      by_cases hk0 : k = 0
      · have d0 : decide ((0 : Int) < (k : Int)) = false := decide_eq_false (by have := HNL.out; omega)
        have d0n : decide (0 < k) = false := decide_eq_false (by omega)
        have HK0 := Lib.hid hk0; clear hk0
        clear f0 f1 f2
        go_wp2_with fail
        go_quiet (fail)
        generalize hwx : World.drewN _ _ = wx at *
        have HB7 : Hid (AL va M w3 wx) := Lib.hid (by rw [← hwx]; exact HB6.out.go (below_drewN (Below.refl _ _) _))
        clear hwx HB6
        go_wp2_with fail
        go_loopw [11] (fun j wr => ∃ m : Nat, m ≤ k ∧ j = .int .i64 m ∧ Hid (AL va M w3 wr)) (fun j _ => k - (intOf j).toNat)
        case atStart => exact ⟨0, Nat.zero_le _, rfl, HB7⟩
        case round =>
          clear HB7
          obtain ⟨m, hm, rfl, HB7⟩ := hrel
          by_cases hmk : m < k
          · exact absurd hmk (by have := HK0.out; omega)
          · obtain rfl : m = k := by have := HNL.out; omega
            have hqw := (HB7.out.bel.cell (p := ⟨gp, m, none⟩) hgp).trans ((HVC.out m (by have := HNL.out; omega)).trans hqv)
            have hgw := Nat.lt_of_lt_of_le hgp HB7.out.bel.size
            have HO := Lib.hid HB7.out.own
            have NEWS := Lib.hid (fun t u ht => row_cells (RQ.out.below HB7.out.bel) rfl t u ht)
            have hll := LEN.out
            go_wp2_with (at_builtin; refine wpList_append_own _ rfl _ _ 22 rfl w3.heap.size 38 i0 (.agg #[.int .i64 0, .int .i64 0, .int .i64 0, .int .i64 0]) 4 32 Try.underlying22 hi9 hz0 hz1 hz2 rfl (by decide) _ _ _ rfl HO.out ⟨g, 0, none⟩ Q.length cc (rcells Q) rfl (rcells_len Q) ?c1 ?c2 ?c3 ?c4 ?c5 ?_)
            case c1 => exact NEWS.out
            case c2 => exact rcells_one2 Q
            case c3 => unfold maxLen; omega
            case c4 => omega
            case c5 => exact HB7.out.bel.size
            intro v' w7 hown' hgr _
            have HB8 : Hid (AL v' (L.take (m + 1)).flatten w3 w7) := Lib.hid ⟨Below.grown HB7.out.bel hgr HB7.out.bel.size (fun q hq => (HO.out.lt q hq).1), by rw [NXT.out, List.length_append, rcells_append]; exact hown'⟩
            have hqw2 := (HB8.out.bel.cell (p := ⟨gp, m, none⟩) hgp).trans ((HVC.out m (by have := HNL.out; omega)).trans hqv)
            have hgw2 := Nat.lt_of_lt_of_le hgp HB8.out.bel.size
            clear hown' hgr HO NEWS HB7 hqw hgw
            go_wp2_with fail
            refine (HAR.out _ HB8.out.bel).mono ?_
            rintro e w8 ⟨rfl, hb⟩
            have HB9 := Lib.hid (HB8.out.go hb); clear hb HB8 hqw2 hgw2
            go_wp2_with fail
            go_roundw
            case rel => exact ⟨m + 1, v', by omega, by go_num, rfl, by rw [ANX.out], HB9⟩
            case measure => simp [intOf]; omega
      · have d0 : decide ((0 : Int) < (k : Int)) = true := decide_eq_true (by have := HNL.out; omega)
        have d0n : decide (0 < k) = true := decide_eq_true (by omega)
        have d0p : (0 : Int) < (k : Int) := by omega
        have d0q : 0 < k := by omega
        obtain ⟨kp, hkp⟩ : ∃ kp : Nat, kp + 1 = k := ⟨k - 1, by omega⟩
        have kw2 : IntKind.i64.wrap ((k : Int) - 1) = (kp : Int) := by rw [IntWalk.i64_in _ (by have := HNL.out; omega)]; omega
        have kp0 : (0 : Int) ≤ (kp : Int) := by have := HNL.out; omega
        have kp1 : (kp : Int) < (nL : Int) := by have := HNL.out; omega
        obtain ⟨g9, c9, hv9, hr9⟩ := HROWS.out kp (by have := HNL.out; omega)
        have hlx := List.pairwise_iff_getElem.1 HLEX.out kp k (by have := HNL.out; omega) (by have := HNL.out; omega) (by have := HNL.out; omega)
        obtain ⟨Q9, hQ9⟩ : ∃ Q9, Q9 = L[kp]'(by have := HNL.out; omega) := ⟨_, rfl⟩
        rw [← HQ.out, ← hQ9] at hlx
        rw [← hQ9] at hv9 hr9
        have hq9 : 0 < Q9.length := (HREG.out Q9 (hQ9 ▸ List.getElem_mem _)).2.1
        obtain ⟨e0, e1, e2⟩ := first_cell (hr9.below HB6.out.bel) hq9
        have hqw9 := (HB6.out.bel.cell (p := ⟨gp, kp, none⟩) hgp).trans ((HVC.out kp (by have := HNL.out; omega)).trans hv9)
        have hz9 : (0 : Int) < (Q9.length : Int) := by have := HNL.out; omega
        have hz8 : (0 : Int) < (Q.length : Int) := by have := HNL.out; omega
        unfold LexLt at hlx
        clear hv9 hr9 hQ9 hq9 hkp hk0
        generalize (Q9.getD 0 zR).X0 = xa at *
        generalize (Q9.getD 0 zR).Y0 = ya at *
        generalize (Q.getD 0 zR).X0 = xb at *
        generalize (Q.getD 0 zR).Y0 = yb at *
        by_cases hx : xa < xb
        · have d1 : decide (xb < xa) = false := decide_eq_false (by have := HNL.out; omega)
          have d2 : (xb == xa) = false := by simp; omega
          clear hlx hx
          go_wp2_with fail
          go_quiet (fail)
          generalize hwx : World.drewN _ _ = wx at *
          have HB7 : Hid (AL va M w3 wx) := Lib.hid (by rw [← hwx]; exact HB6.out.go (below_drewN (Below.refl _ _) _))
          clear hwx HB6
          go_wp2_with fail
          go_loopw [11] (fun j wr => ∃ m : Nat, m ≤ k ∧ j = .int .i64 m ∧ Hid (AL va M w3 wr)) (fun j _ => k - (intOf j).toNat)
          case atStart => exact ⟨0, Nat.zero_le _, rfl, HB7⟩
          case round =>
            clear HB7
            obtain ⟨m, hm, rfl, HB7⟩ := hrel
            by_cases hmk : m < k
            · obtain ⟨g2, cc2, v2, r2⟩ := HROWS.out m (by have := HNL.out; omega)
              have k2 : (m : Int) < (k : Int) := by have := HNL.out; omega
              have k3 : (0 : Int) ≤ (m : Int) := by have := HNL.out; omega
              have k4 : (m : Int) < (nL : Int) := by have := HNL.out; omega
              have k5 : IntKind.i64.wrap ((m : Int) + 1) = (m : Int) + 1 := IntWalk.i64_in _ (by have := HNL.out; omega)
              obtain ⟨Q2, hQ2⟩ : ∃ Q2, Q2 = L[m]'(by have := HNL.out; omega) := ⟨_, rfl⟩
              rw [← hQ2] at v2 r2
              have HAP : Hid (∀ w', Below w3.heap.size w3 w' → Calls Try.prog 22 #[.slice (some ⟨g, 0, none⟩) Q.length cc, .slice (some ⟨g2, 0, none⟩) Q2.length cc2] w' (BlIs true w')) := Lib.hid (fun w' hb => by
                have hfar := List.pairwise_iff_getElem.1 HFAR.out m k (by have := HNL.out; omega) (by have := HNL.out; omega) hmk
                rw [← HQ.out, ← hQ2] at hfar
                exact wapart_any _ _ _ _ Q Q2 w' (RQ.out.below hb) (r2.below hb) (form_ok RG.out.1.1) (form_ok (HREG.out Q2 (hQ2 ▸ List.getElem_mem _)).1.1) hfar)
              have S1 : Ax gp k m (.slice (some ⟨g, 0, none⟩) Q.length cc) (.slice (some ⟨g2, 0, none⟩) Q2.length cc2) va M w3 wr := ⟨(HB7.out.bel.cell (p := ⟨gp, k, none⟩) hgp).trans ((HVC.out k (by have := HNL.out; omega)).trans hqv), (HB7.out.bel.cell (p := ⟨gp, m, none⟩) hgp).trans ((HVC.out m (by have := HNL.out; omega)).trans v2), Nat.lt_of_lt_of_le hgp HB7.out.bel.size, HB7⟩
              have K := Lib.hid S1; clear S1
              generalize Q2.length = n2 at *
              generalize Q.length = n1 at *
              clear v2 r2 hQ2
              go_wp2_with fail
              go_region_held3 (fun w' => w'.cell? ⟨gp, k, none⟩ = some (.slice (some ⟨g, 0, none⟩) n1 cc) ∧ w'.cell? ⟨gp, m, none⟩ = some (.slice (some ⟨g2, 0, none⟩) n2 cc2) ∧ gp < w'.heap.size ∧ Hid (AL va M w3 w'))
                (first | exact K.out | exact Ax.drewN K.out 1 | exact Ax.go ‹_› ‹_›)
                (first | (go_at_call 22; refine (HAP.out _ ?_).mono ?_; exact Ax.bel (by assumption); rintro e w' ⟨rfl, hb⟩) | fail)
              go_wp2_with fail
              have KB : Ax gp k m (.slice (some ⟨g, 0, none⟩) n1 cc) (.slice (some ⟨g2, 0, none⟩) n2 cc2) va M w3 w' := by assumption
              go_roundw
              case rel => exact ⟨m + 1, by omega, by go_num, KB.2.2.2⟩
              case measure => simp [intOf]; omega
            · obtain rfl : m = k := by have := HNL.out; omega
              have hqw := (HB7.out.bel.cell (p := ⟨gp, m, none⟩) hgp).trans ((HVC.out m (by have := HNL.out; omega)).trans hqv)
              have hgw := Nat.lt_of_lt_of_le hgp HB7.out.bel.size
              have HO := Lib.hid HB7.out.own
              have NEWS := Lib.hid (fun t u ht => row_cells (RQ.out.below HB7.out.bel) rfl t u ht)
              have hll := LEN.out
              go_wp2_with (at_builtin; refine wpList_append_own _ rfl _ _ 22 rfl w3.heap.size 38 i0 (.agg #[.int .i64 0, .int .i64 0, .int .i64 0, .int .i64 0]) 4 32 Try.underlying22 hi9 hz0 hz1 hz2 rfl (by decide) _ _ _ rfl HO.out ⟨g, 0, none⟩ Q.length cc (rcells Q) rfl (rcells_len Q) ?c1 ?c2 ?c3 ?c4 ?c5 ?_)
              case c1 => exact NEWS.out
              case c2 => exact rcells_one2 Q
              case c3 => unfold maxLen; omega
              case c4 => omega
              case c5 => exact HB7.out.bel.size
              intro v' w7 hown' hgr _
              have HB8 : Hid (AL v' (L.take (m + 1)).flatten w3 w7) := Lib.hid ⟨Below.grown HB7.out.bel hgr HB7.out.bel.size (fun q hq => (HO.out.lt q hq).1), by rw [NXT.out, List.length_append, rcells_append]; exact hown'⟩
              have hqw2 := (HB8.out.bel.cell (p := ⟨gp, m, none⟩) hgp).trans ((HVC.out m (by have := HNL.out; omega)).trans hqv)
              have hgw2 := Nat.lt_of_lt_of_le hgp HB8.out.bel.size
              clear hown' hgr HO NEWS HB7 hqw hgw
              go_wp2_with fail
              refine (HAR.out _ HB8.out.bel).mono ?_
              rintro e w8 ⟨rfl, hb⟩
              have HB9 := Lib.hid (HB8.out.go hb); clear hb HB8 hqw2 hgw2
              go_wp2_with fail
              go_roundw
              case rel => exact ⟨m + 1, v', by omega, by go_num, rfl, by rw [ANX.out], HB9⟩
              case measure => simp [intOf]; omega
        · obtain ⟨rfl, hy⟩ : xa = xb ∧ ya < yb := by have := HNL.out; omega
          have d1 : decide (xa < xa) = false := decide_eq_false (by have := HNL.out; omega)
          have d3 : decide (yb ≤ ya) = false := decide_eq_false (by have := HNL.out; omega)
          clear hlx hx hy
          go_wp2_with fail
          go_quiet (fail)
          generalize hwx : World.drewN _ _ = wx at *
          have HB7 : Hid (AL va M w3 wx) := Lib.hid (by rw [← hwx]; exact HB6.out.go (below_drewN (Below.refl _ _) _))
          clear hwx HB6
          go_wp2_with fail
          go_loopw [11] (fun j wr => ∃ m : Nat, m ≤ k ∧ j = .int .i64 m ∧ Hid (AL va M w3 wr)) (fun j _ => k - (intOf j).toNat)
          case atStart => exact ⟨0, Nat.zero_le _, rfl, HB7⟩
          case round =>
            clear HB7
            obtain ⟨m, hm, rfl, HB7⟩ := hrel
            by_cases hmk : m < k
            · obtain ⟨g2, cc2, v2, r2⟩ := HROWS.out m (by have := HNL.out; omega)
              have k2 : (m : Int) < (k : Int) := by have := HNL.out; omega
              have k3 : (0 : Int) ≤ (m : Int) := by have := HNL.out; omega
              have k4 : (m : Int) < (nL : Int) := by have := HNL.out; omega
              have k5 : IntKind.i64.wrap ((m : Int) + 1) = (m : Int) + 1 := IntWalk.i64_in _ (by have := HNL.out; omega)
              obtain ⟨Q2, hQ2⟩ : ∃ Q2, Q2 = L[m]'(by have := HNL.out; omega) := ⟨_, rfl⟩
              rw [← hQ2] at v2 r2
              have HAP : Hid (∀ w', Below w3.heap.size w3 w' → Calls Try.prog 22 #[.slice (some ⟨g, 0, none⟩) Q.length cc, .slice (some ⟨g2, 0, none⟩) Q2.length cc2] w' (BlIs true w')) := Lib.hid (fun w' hb => by
                have hfar := List.pairwise_iff_getElem.1 HFAR.out m k (by have := HNL.out; omega) (by have := HNL.out; omega) hmk
                rw [← HQ.out, ← hQ2] at hfar
                exact wapart_any _ _ _ _ Q Q2 w' (RQ.out.below hb) (r2.below hb) (form_ok RG.out.1.1) (form_ok (HREG.out Q2 (hQ2 ▸ List.getElem_mem _)).1.1) hfar)
              have S1 : Ax gp k m (.slice (some ⟨g, 0, none⟩) Q.length cc) (.slice (some ⟨g2, 0, none⟩) Q2.length cc2) va M w3 wr := ⟨(HB7.out.bel.cell (p := ⟨gp, k, none⟩) hgp).trans ((HVC.out k (by have := HNL.out; omega)).trans hqv), (HB7.out.bel.cell (p := ⟨gp, m, none⟩) hgp).trans ((HVC.out m (by have := HNL.out; omega)).trans v2), Nat.lt_of_lt_of_le hgp HB7.out.bel.size, HB7⟩
              have K := Lib.hid S1; clear S1
              generalize Q2.length = n2 at *
              generalize Q.length = n1 at *
              clear v2 r2 hQ2
              go_wp2_with fail
              go_region_held3 (fun w' => w'.cell? ⟨gp, k, none⟩ = some (.slice (some ⟨g, 0, none⟩) n1 cc) ∧ w'.cell? ⟨gp, m, none⟩ = some (.slice (some ⟨g2, 0, none⟩) n2 cc2) ∧ gp < w'.heap.size ∧ Hid (AL va M w3 w'))
                (first | exact K.out | exact Ax.drewN K.out 1 | exact Ax.go ‹_› ‹_›)
                (first | (go_at_call 22; refine (HAP.out _ ?_).mono ?_; exact Ax.bel (by assumption); rintro e w' ⟨rfl, hb⟩) | fail)
              go_wp2_with fail
              have KB : Ax gp k m (.slice (some ⟨g, 0, none⟩) n1 cc) (.slice (some ⟨g2, 0, none⟩) n2 cc2) va M w3 w' := by assumption
              go_roundw
              case rel => exact ⟨m + 1, by omega, by go_num, KB.2.2.2⟩
              case measure => simp [intOf]; omega
            · obtain rfl : m = k := by have := HNL.out; omega
              have hqw := (HB7.out.bel.cell (p := ⟨gp, m, none⟩) hgp).trans ((HVC.out m (by have := HNL.out; omega)).trans hqv)
              have hgw := Nat.lt_of_lt_of_le hgp HB7.out.bel.size
              have HO := Lib.hid HB7.out.own
              have NEWS := Lib.hid (fun t u ht => row_cells (RQ.out.below HB7.out.bel) rfl t u ht)
              have hll := LEN.out
              go_wp2_with (at_builtin; refine wpList_append_own _ rfl _ _ 22 rfl w3.heap.size 38 i0 (.agg #[.int .i64 0, .int .i64 0, .int .i64 0, .int .i64 0]) 4 32 Try.underlying22 hi9 hz0 hz1 hz2 rfl (by decide) _ _ _ rfl HO.out ⟨g, 0, none⟩ Q.length cc (rcells Q) rfl (rcells_len Q) ?c1 ?c2 ?c3 ?c4 ?c5 ?_)
              case c1 => exact NEWS.out
              case c2 => exact rcells_one2 Q
              case c3 => unfold maxLen; omega
              case c4 => omega
              case c5 => exact HB7.out.bel.size
              intro v' w7 hown' hgr _
              have HB8 : Hid (AL v' (L.take (m + 1)).flatten w3 w7) := Lib.hid ⟨Below.grown HB7.out.bel hgr HB7.out.bel.size (fun q hq => (HO.out.lt q hq).1), by rw [NXT.out, List.length_append, rcells_append]; exact hown'⟩
              have hqw2 := (HB8.out.bel.cell (p := ⟨gp, m, none⟩) hgp).trans ((HVC.out m (by have := HNL.out; omega)).trans hqv)
              have hgw2 := Nat.lt_of_lt_of_le hgp HB8.out.bel.size
              clear hown' hgr HO NEWS HB7 hqw hgw
              go_wp2_with fail
              refine (HAR.out _ HB8.out.bel).mono ?_
              rintro e w8 ⟨rfl, hb⟩
              have HB9 := Lib.hid (HB8.out.go hb); clear hb HB8 hqw2 hgw2
              go_wp2_with fail
              go_roundw
              case rel => exact ⟨m + 1, v', by omega, by go_num, rfl, by rw [ANX.out], HB9⟩
              case measure => simp [intOf]; omega
    · obtain rfl : k = nL := by have := HNL.out; omega
      have hnL := HNL.out; clear HNL; subst hnL
      rw [List.take_length] at HB ⊢
      obtain ⟨A9, c9, hva, r1, r2, r3, _⟩ := own_rects HB.out.own
      subst hva
      have RZ : Hid (RIn wr A9 c9 L.flatten) := Lib.hid ⟨r1, by omega, r2, r3⟩
      have HBW := Lib.hid HB.out.bel
      clear r1 r2 r3 HB
      generalize areaL L.flatten = aX at *
      generalize hfl : L.flatten.length = nF at *
      go_wp2_with fail
      refine (Hz.out _ _ _ RZ.out).mono ?_
      rintro e w4 ⟨A4, c4, rfl, hr4, hb4⟩
      have HB4 := Lib.hid (HBW.out.trans (hb4.mono HBW.out.size))
      have R4 := Lib.hid hr4
      clear hr4 hb4 HBW RZ
      go_wp2_with fail
      refine (Sx.out _ _ _ _ _ R4.out (KX3.out.below HB4.out)).mono ?_
      rintro e w5 ⟨rfl, hb5⟩
      have HB5 := Lib.hid (HB4.out.trans (hb5.mono HB4.out.size)); clear hb5 HB4 R4
      go_wp2_with fail
      refine (Ay.out _ _ _ (KX3.out.below HB5.out)).mono ?_
      rintro e w6 ⟨rfl, hb6⟩
      have HB6 := Lib.hid (HB5.out.trans (hb6.mono HB5.out.size)); clear hb6 HB5
      go_wp2_with fail
      go_ret
      exact ⟨rfl, HB3.out.trans (HB6.out.mono HB3.out.size)⟩
end Go.Proofs.Ytoalfmdjdplbkaa
