/-
  Easements (layer 13): what Respect reports of two cubes and of their union. No program in this text.
-/
import Derived.Test.YtngddecpfhlilaaGreatD41
set_option linter.unusedVariables false
set_option maxRecDepth 100000
namespace Go.Proofs.YtngddecpfhlilaaGreat
open Go.RowKit
theorem esB_iff {S : List Sl} (h : SForm S) (k : Int) (e : Es) : esB k S e = false ↔ (e.lot = k → RegP e.ar → ∀ s ∈ S, e.top < s.z1 → ∀ x y, ¬ (HasL s.ar x y ∧ HasL e.ar x y)) := by
 unfold esB
 constructor
 ·intro hf hk hr s hs ht
  rw [show decide (e.lot = k) = true from decide_eq_true hk, (rgB_iff _).2 hr, Bool.true_and, Bool.true_and, List.any_eq_false] at hf
  have h2 := hf s hs
  unfold risB at h2
  rw [show decide (e.top < s.z1) = true from decide_eq_true ht, Bool.true_and] at h2
  have h3 : mtB s.ar e.ar = false := by simpa using h2
  exact (mtB_iff (form_ok (form_all h s hs).form) (form_ok hr.1)).1 h3
 ·intro hf
  by_cases hk : e.lot = k
  ·by_cases hr : RegP e.ar
   ·rw [show decide (e.lot = k) = true from decide_eq_true hk, (rgB_iff _).2 hr, Bool.true_and, Bool.true_and, List.any_eq_false]
    intro s hs
    unfold risB
    by_cases ht : e.top < s.z1
    ·have h3 := (mtB_iff (form_ok (form_all h s hs).form) (form_ok hr.1)).2 (hf hk hr s hs ht)
     rw [h3, Bool.and_false]; simp
    ·rw [show decide (e.top < s.z1) = false from decide_eq_false ht, Bool.false_and]; simp
   ·have : rgB e.ar = false := by rw [← Bool.not_eq_true, rgB_iff]; exact hr
    rw [this, Bool.and_false, Bool.false_and]
  ·rw [show decide (e.lot = k) = false from decide_eq_false hk, Bool.false_and, Bool.false_and]
theorem resp_is {S : List Sl} (h : SolP S) (l : List Es) (k : Int) : respB l k S = true ↔ RespS RegP l k S := by
 unfold respB
 rw [solB_of h, Bool.true_and, Bool.not_eq_true', List.any_eq_false]
 constructor
 ·intro hf e he hk hr
  exact (esB_iff h.form k e).1 (by simpa using hf e he) hk hr
 ·intro hf e he
  have := (esB_iff h.form k e).2 (fun hk hr => hf e he hk hr)
  rw [this]; simp
noncomputable def wantB (k : Int) (x y z : Int) (e : Es) : Bool := decide (e.lot ≠ k) || decide (z < e.top) || !hasRg e.ar x y
theorem hasRg_iff (l : List Rc) (x y : Int) : hasRg l x y = true ↔ RegP l ∧ HasL l x y := by
 unfold hasRg
 rw [Bool.and_eq_true, has_iff]
 exact and_congr (@decide_eq_true_iff _ (Classical.propDecidable _)) Iff.rfl
theorem want_iff (l : List Es) (k x y z : Int) : l.all (wantB k x y z) = true ↔ ∀ e ∈ l, e.lot = k → RegP e.ar → HasL e.ar x y → z < e.top := by
 rw [List.all_eq_true]
 refine forall_congr' fun e => forall_congr' fun he => ?_
 unfold wantB
 rw [Bool.or_eq_true, Bool.or_eq_true, decide_eq_true_iff, decide_eq_true_iff, Bool.not_eq_true', ← Bool.not_eq_true, hasRg_iff]
 constructor
 ·rintro ((h | h) | h) hk hr ha
  ·exact absurd hk h
  ·exact h
  ·exact absurd ⟨hr, ha⟩ h
 ·intro h
  by_cases hk : e.lot = k
  ·by_cases hr : RegP e.ar ∧ HasL e.ar x y
   ·exact .inl (.inr (h hk hr.1 hr.2))
   ·exact .inr hr
  ·exact .inl (.inl hk)
theorem one_cube {px py pz x1 y1 z1 : Int} (hx : 0 ≤ px ∧ px ≤ 1048576 → x1 = px + 1) (hy : 0 ≤ py ∧ py ≤ 1048576 → y1 = py + 1) (hz : 0 ≤ pz ∧ pz ≤ 1048576 → z1 = pz + 1) {S : List Sl} (h : ofS [⟨⟨px, py, x1, y1⟩, pz, z1⟩] = (S, 0)) : SolP S ∧ CS S (fun x y z => x = px ∧ y = py ∧ z = pz) := by
 obtain ⟨h1, h2, h3, _⟩ := sol_of h
 have hb := h3 _ List.mem_cons_self
 have e1 : x1 = px + 1 := by have h0 := hb.1.1; unfold Span at h0; simp only at h0; exact hx (by omega)
 have e2 : y1 = py + 1 := by have h0 := hb.1.2; unfold Span at h0; simp only at h0; exact hy (by omega)
 have e3 : z1 = pz + 1 := by have h0 := hb.2; unfold HOk at h0; simp only at h0; exact hz (by omega)
 subst e1; subst e2; subst e3
 refine ⟨h1, h1.form, fun x y z => ?_⟩
 subst h2
 rw [(solB_is h3).2]
 show HasL (formL (basesB [⟨⟨px, py, px + 1, py + 1⟩, pz, pz + 1⟩] z)) x y ↔ _
 rw [(formL_is (bases_ok h3 z)).2]
 unfold basesB
 by_cases c : pz ≤ z ∧ z < pz + 1
 ·rw [if_pos (show (⟨⟨px, py, px + 1, py + 1⟩, pz, pz + 1⟩ : Bx).z0 ≤ z ∧ z < (⟨⟨px, py, px + 1, py + 1⟩, pz, pz + 1⟩ : Bx).z1 from c)]
  unfold basesB
  rw [one_has hb.1]
  simp only
  omega
 ·rw [if_neg (show ¬ ((⟨⟨px, py, px + 1, py + 1⟩, pz, pz + 1⟩ : Bx).z0 ≤ z ∧ z < (⟨⟨px, py, px + 1, py + 1⟩, pz, pz + 1⟩ : Bx).z1) from c)]
  unfold basesB
  constructor
  ·intro hh; exact absurd hh (no_has x y)
  ·rintro ⟨_, _, rfl⟩
   exact absurd ⟨Int.le_refl _, by omega⟩ c
theorem union_cs {S T U : List Sl} {P Q : Int → Int → Int → Prop} (hS : SolP S) (hT : SolP T) (hP : CS S P) (hQ : CS T Q) (h : opS or S T = (U, 0)) : SolP U ∧ CS U (fun x y z => P x y z ∨ Q x y z) := by
 rw [opS_cap hS hT] at h
 unfold capS at h
 by_cases q : (solO or S T).length ≤ 80 ∧ ∀ s ∈ solO or S T, s.ar.length ≤ 200
 ·rw [if_pos q] at h
  injection h with h _
  subst h
  obtain ⟨f1, f2⟩ := solO_is (op := or) rfl hS.form hT.form
  refine ⟨⟨f1, q.1, q.2⟩, f1, fun x y z => ?_⟩
  rw [f2]
  unfold secO
  rw [(formO_is (op := or) rfl (sec_ok hS.form z) (sec_ok hT.form z)).2, Bool.or_eq_true, has_iff, has_iff, hP.cubes, hQ.cubes]
 ·rw [if_neg q] at h
  injection h with _ h
  cases h
theorem solP_nil : SolP [] := ⟨trivial, by simp, fun s hs => by cases hs⟩
theorem ease_law {l : List Es} {k px py pz qx qy qz : Int} {S T U : List Sl} (hS : SolP S) (hT : SolP T) (hU : SolP U) (hP : CS S (fun x y z => x = px ∧ y = py ∧ z = pz)) (hQ : CS T (fun x y z => x = qx ∧ y = qy ∧ z = qz)) (hO : CS U (fun x y z => (x = px ∧ y = py ∧ z = pz) ∨ (x = qx ∧ y = qy ∧ z = qz))) :
  respB l k S = l.all (wantB k px py pz) ∧ respB l k U = (respB l k S && respB l k T) ∧ respB l k [] = true := by
 refine ⟨?_, ?_, (resp_is solP_nil l k).2 (resp_nil _ _ _)⟩
 ·rw [Bool.eq_iff_iff, resp_is hS, want_iff, resp_one hP]
 ·rw [Bool.eq_iff_iff, Bool.and_eq_true, resp_is hU, resp_is hS, resp_is hT]
  exact resp_or hP hQ hO
theorem wrap_one (n : Int) : 0 ≤ n ∧ n ≤ 1048576 → Go.RowKit.wrap64 (n + 1) = n + 1 := fun h => by
 unfold Go.RowKit.wrap64
 omega
def bxW (x y z : Int) : Bx := ⟨⟨x, y, Go.RowKit.wrap64 (x + 1), Go.RowKit.wrap64 (y + 1)⟩, z, Go.RowKit.wrap64 (z + 1)⟩
theorem all_take {l : List Es} {p : Es → Bool} {j : Nat} (hj : j < l.length) : (l.take (j + 1)).all p = ((l.take j).all p && p l[j]) := by
 rw [List.take_succ_eq_append_getElem hj, List.all_append]
 simp
theorem ease_all {l : List Es} {k px py pz qx qy qz : Int} {S T U : List Sl} (h1 : ofS [bxW px py pz] = (S, 0)) (h2 : ofS [bxW qx qy qz] = (T, 0)) (h3 : opS or S T = (U, 0)) :
  respB l k S = l.all (wantB k px py pz) ∧ respB l k U = (respB l k S && respB l k T) ∧ respB l k [] = true := by
 obtain ⟨s1, s2⟩ := one_cube (wrap_one px) (wrap_one py) (wrap_one pz) h1
 obtain ⟨t1, t2⟩ := one_cube (wrap_one qx) (wrap_one qy) (wrap_one qz) h2
 obtain ⟨u1, u2⟩ := union_cs s1 t1 s2 t2 h3
 exact ease_law s1 t1 u1 s2 t2 u2
end Go.Proofs.YtngddecpfhlilaaGreat
