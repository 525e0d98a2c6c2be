/-
  What holds of the lists that Parts returns.
-/
import Derived.Test.YtcnojedijimheaaKq
import Derived.Test.YtcnojedijimheaaKk
import Derived.Test.YtcnojedijimheaaKg
set_option linter.unusedVariables false
set_option maxRecDepth 100000
namespace Go.Proofs.Ytcnojedijimheaa
open Go.RowKit

theorem ofR_yes {P : List Rc} (ho : ∀ r ∈ P, ROk r) (h1 : P.length ≤ 400) (h2 : (formL P).length ≤ 200) : ofR P = (formL P, 0) := by
  unfold ofR
  rw [if_pos ho, if_pos h1, cap_le h2]
/-- all that the law asks of the parts. -/
structure PF (X : List Rc) (L : List (List Rc)) : Prop where
  eq : partsR X = L
  reg : ∀ Q ∈ L, RegP Q ∧ 0 < Q.length ∧ partsR Q = [Q]
  lex : L.Pairwise fun P Q => LexLt (P.getD 0 zR) (Q.getD 0 zR)
  far : L.Pairwise fun P Q => ∀ q ∈ Q, ∀ p ∈ P, ¬ NearP q p
  whole : ofR L.flatten = (X, 0)
  len : L.flatten.length ≤ X.length
  area : areaL L.flatten = areaL X
theorem flat_form_len : ∀ {L : List (List Rc)}, (∀ P ∈ L, (formL P).length ≤ P.length) → (L.map formL).flatten.length ≤ L.flatten.length := by
  intro L
  induction L with
  | nil => intro _; exact Nat.le_refl _
  | cons P L ih =>
    intro h
    have h1 := h P List.mem_cons_self
    have h2 := ih (fun Q hQ => h Q (List.mem_cons_of_mem _ hQ))
    rw [List.map_cons, List.flatten_cons, List.flatten_cons, List.length_append, List.length_append]
    omega
theorem flat_form_area : ∀ {L : List (List Rc)}, (∀ P ∈ L, areaL (formL P) = areaL P) → areaL (L.map formL).flatten = areaL L.flatten := by
  intro L
  induction L with
  | nil => intro _; rfl
  | cons P L ih =>
    intro h
    have h1 := h P List.mem_cons_self
    have h2 := ih (fun Q hQ => h Q (List.mem_cons_of_mem _ hQ))
    rw [List.map_cons, List.flatten_cons, List.flatten_cons, areaL_append, areaL_append, h1, h2]
theorem flat_len_mem : ∀ {L : List (List Rc)} {P : List Rc}, P ∈ L → P.length ≤ L.flatten.length := by
  intro L
  induction L with
  | nil => intro P h; cases h
  | cons Q L ih =>
    intro P h
    rw [List.flatten_cons, List.length_append]
    rcases List.mem_cons.1 h with rfl | h
    · omega
    · have := ih h; omega
set_option maxHeartbeats 4000000 in
theorem parts_facts {X : List Rc} (h : RegP X) : PF X ((partsM X).map formL) := by
  have hokX := form_ok h.1
  have hp := parts_perm X
  have hpd := parted X X.length
  have hord := form_order h.1
  have D : ((partsM X).flatten).Pairwise Off := disj_pair.1 (disj_perm hp.symm (form_disj h.1))
  obtain ⟨D1, D2⟩ := List.pairwise_flatten.1 D
  have hin : ∀ P ∈ partsM X, ∀ p ∈ P, p ∈ X := fun P hP p hpp => hp.subset (List.mem_flatten.2 ⟨P, hP, hpp⟩)
  have hok : ∀ P ∈ partsM X, ∀ p ∈ P, ROk p := fun P hP p hpp => hokX p (hin P hP p hpp)
  have hfl : ∀ P ∈ partsM X, Flush P := fun P hP r hr q hq => form_flush h.1 r (hin P hP r hr) q (hin P hP q hq)
  have hle : ∀ P ∈ partsM X, (formL P).length ≤ P.length := fun P hP => form_le (hok P hP) (hfl P hP)
  have hlX : ∀ P ∈ partsM X, P.length ≤ X.length := fun P hP => by have := flat_len_mem hP; rw [hp.length_eq] at this; exact this
  have hX := h.2
  have hof : ∀ P ∈ partsM X, ofR P = (formL P, 0) := fun P hP => by
    have h1 := hle P hP; have h2 := hlX P hP
    exact ofR_yes (hok P hP) (by omega) (by omega)
  have hfs : ∀ P ∈ partsM X, FS (formL P) (HasL P) := fun P hP => fs_l (hok P hP)
  have hlow : ∀ P ∈ partsM X, ∀ r ∈ P, LexLe (P.getD 0 zR) r := fun P hP r hr => by
    obtain ⟨i, _, _, h3, h4⟩ := hpd.first P hP
    obtain ⟨j, j1, j2, rfl⟩ := h4 r hr
    rw [h3]
    exact order_at hord j1 j2
  have hfst : ∀ P ∈ partsM X, 0 < (formL P).length ∧ ((formL P).getD 0 zR).X0 = (P.getD 0 zR).X0 ∧ ((formL P).getD 0 zR).Y0 = (P.getD 0 zR).Y0 := fun P hP =>
    form_first (hok P hP) (hfs P hP).form (hfs P hP).cells (hpd.tc P hP).2 (hlow P hP)
  have hcells : ∀ x y, HasL ((partsM X).map formL).flatten x y ↔ HasL X x y := fun x y => by
    rw [← hasL_perm hp]
    constructor
    · rintro ⟨r, hr, k⟩
      obtain ⟨Q, hQ, hrq⟩ := List.mem_flatten.1 hr
      obtain ⟨P, hP, rfl⟩ := List.mem_map.1 hQ
      obtain ⟨p, hpp, kp⟩ := ((hfs P hP).cells x y).1 ⟨r, hrq, k⟩
      exact ⟨p, List.mem_flatten.2 ⟨P, hP, hpp⟩, kp⟩
    · rintro ⟨p, hpp, k⟩
      obtain ⟨P, hP, hpq⟩ := List.mem_flatten.1 hpp
      obtain ⟨r, hr, kr⟩ := ((hfs P hP).cells x y).2 ⟨p, hpq, k⟩
      exact ⟨r, List.mem_flatten.2 ⟨_, List.mem_map.2 ⟨P, hP, rfl⟩, hr⟩, kr⟩
  have hokL : ∀ r ∈ ((partsM X).map formL).flatten, ROk r := fun r hr => by
    obtain ⟨Q, hQ, hrq⟩ := List.mem_flatten.1 hr
    obtain ⟨P, hP, rfl⟩ := List.mem_map.1 hQ
    exact (hfs P hP).ok r hrq
  have hlen : ((partsM X).map formL).flatten.length ≤ X.length := by
    have := flat_form_len hle
    rw [hp.length_eq] at this; exact this
  refine ⟨?_, ?_, ?_, ?_, ?_, hlen, ?_⟩
  · unfold partsR partsL
    show (partsM X).map _ = _
    refine List.map_congr_left (fun P hP => ?_)
    rw [hof P hP]
  · intro Q hQ
    obtain ⟨P, hP, rfl⟩ := List.mem_map.1 hQ
    have h1 := hle P hP; have h2 := hlX P hP
    have hreg : RegP (formL P) := ⟨(hfs P hP).form, by omega⟩
    refine ⟨hreg, (hfst P hP).1, ?_⟩
    obtain ⟨P1, e1, e2⟩ := one_part (hfs P hP).form (hok P hP) (hpd.tc P hP).1 (hfs P hP).cells (hfst P hP).1
    have ok1 : ∀ r ∈ P1, ROk r := fun r hr => (hfs P hP).ok r (e2.subset hr)
    have f1 : formL P1 = formL P := (fs_l ok1).eq (hfs P hP) (fun x y => by rw [← (hfs P hP).cells, hasL_perm e2])
    have hl1 := e2.length_eq
    unfold partsR partsL
    show (partsM (formL P)).map _ = _
    rw [e1, List.map_cons, List.map_nil, ofR_yes ok1 (by omega) (by rw [f1]; omega), f1]
  · rw [List.pairwise_map]
    refine List.Pairwise.imp_of_mem ?_ hpd.order
    intro P Q hP hQ ⟨i, j, hij, hj, e1, e2⟩
    obtain ⟨_, x1, y1⟩ := hfst P hP
    obtain ⟨_, x2, y2⟩ := hfst Q hQ
    have hlt := List.pairwise_iff_getElem.1 hord i j (by omega) hj hij
    rw [← getD_in X zR (by omega : i < X.length), ← getD_in X zR hj, ← e1, ← e2] at hlt
    unfold LexLt at hlt ⊢
    omega
  · rw [List.pairwise_map]
    refine List.Pairwise.imp_of_mem ?_ (hpd.apart.and D2)
    intro P Q hP hQ ⟨ha, hd⟩ q hq p hpp hn
    obtain ⟨x, y, u, v, k1, k2, k3⟩ := near_has ((hfs Q hQ).ok q hq) ((hfs P hP).ok p hpp) hn
    obtain ⟨s, hs, g1⟩ := ((hfs Q hQ).cells x y).1 ⟨q, hq, k1⟩
    obtain ⟨r, hr, g2⟩ := ((hfs P hP).cells u v).1 ⟨p, hpp, k2⟩
    obtain ⟨x', y', m1, m2⟩ := near_touch (hok P hP r hr) (hok Q hQ s hs) (near_of_cells g2 g1 (nbr_symm k3)) (ha r hr s hs)
    exact hd r hr s hs x' y' m1 m2
  · have e : formL ((partsM X).map formL).flatten = X := form_eq (formL_is hokL).1 h.1 (fun x y => by rw [(formL_is hokL).2, hcells])
    rw [ofR_yes hokL (by omega) (by rw [e]; exact h.2), e]
  · rw [flat_form_area (fun P hP => form_area_eq (hok P hP) (disj_pair.2 (D1 P hP))), areaL_perm hp]
end Go.Proofs.Ytcnojedijimheaa
