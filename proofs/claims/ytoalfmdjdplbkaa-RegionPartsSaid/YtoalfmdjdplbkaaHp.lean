/-
  Plain mathematics of regions (layer 6): the sorted sides of some lists, and what is kept between them. No program in this text.
-/
import Derived.Test.YtoalfmdjdplbkaaHc
set_option linter.unusedVariables false
namespace Go.Proofs.Ytoalfmdjdplbkaa

/-- all sides told one by one: there is a column. -/
theorem ColAt.run {K : Int → Bool} {kp : List Int → Bool} {a b : Int} {m : Nat} {E : List Ed} (hK : TellsK K kp a b m E) (h0 : ZeroK kp m) (hs : SortE E) : ∀ i, i ≤ E.length → ∃ kept T, ColAt K E i kept T := by
  intro i
  induction i with
  | zero => intro _; exact ⟨false, [], ColAt.start hK h0 hs⟩
  | succ i ih =>
    intro hi
    obtain ⟨kept, T, h⟩ := ih (by omega)
    by_cases hn : ∃ h : i + 1 < E.length, E[i + 1].y = E[i].y
    · exact ⟨kept, T, h.skip hn.1 hn.2⟩
    · have hn' : ∀ h : i + 1 < E.length, E[i + 1].y ≠ E[i].y := fun h e => hn ⟨h, e⟩
      by_cases he : kp (cntsE a b m (E.take (i + 1))) = kept
      · exact ⟨kept, T, h.stay hK hs (by omega) hn' he⟩
      · exact ⟨_, _, h.turn hK hs (by omega) hn' rfl he⟩
def sidesAll (LL : List (List Rc)) : List Int := LL.flatMap sides
theorem kept_zero {kp : List Int → Bool} {LL : List (List Rc)} (h0 : ZeroK kp LL.length) {x y : Int} (h : ∀ l ∈ LL, ¬ HasL l x y) : keptB kp LL x y = false := by
  unfold keptB
  have : (LL.map fun l => covN l x y) = List.replicate LL.length 0 := by
    apply List.ext_getElem
    · simp
    · intro j h1 h2
      simp only [List.getElem_map, List.getElem_replicate]
      have hj : j < LL.length := by simpa using h1
      have h3 := h _ (List.getElem_mem hj)
      rw [← covN_pos] at h3
      have := covN_nn LL[j] x y
      omega
  rw [this]; exact h0
theorem gap_of {S : List Int} (hs : SortN S) {i : Nat} (hi : i + 1 < S.length) {z : Int} (hz : z ∈ S) : z ≤ S[i] ∨ S[i + 1] ≤ z := by
  obtain ⟨j, hj, rfl⟩ := List.mem_iff_getElem.1 hz
  rcases Nat.lt_or_ge i j with h | h
  · exact Or.inr (hs _ _ hi hj h)
  · exact Or.inl (hs _ _ hj (by omega) h)
theorem gapAB {S : List Int} {LL : List (List Rc)} (hs : SortN S) (hp : S.Perm (sidesAll LL)) {i : Nat} (hi : i + 1 < S.length) : ∀ l ∈ LL, GapAB S[i] S[i + 1] l := by
  intro l hl r hr
  have h1 : r.X0 ∈ S := hp.mem_iff.2 (List.mem_flatMap.2 ⟨l, hl, (sides_mem hr).1⟩)
  have h2 : r.X1 ∈ S := hp.mem_iff.2 (List.mem_flatMap.2 ⟨l, hl, (sides_mem hr).2⟩)
  exact ⟨gap_of hs hi h1, gap_of hs hi h2⟩
theorem sides_of {kp : List Int → Bool} {LL : List (List Rc)} {S : List Int} (hl : ∀ l ∈ LL, ∀ r ∈ l, ROk r) (h0 : ZeroK kp LL.length) (hs : SortN S) (hp : S.Perm (sidesAll LL)) : SidesOf (keptB kp LL) S := by
  refine ⟨hs, fun z hz => ?_, fun x y hk => ?_, fun i hi x y h1 h2 => ?_⟩
  · obtain ⟨l, hl1, hz⟩ := List.mem_flatMap.1 (hp.mem_iff.1 hz)
    exact sides_gr (hl l hl1) z hz
  · have : ∃ l ∈ LL, HasL l x y := by
      apply Classical.byContradiction
      intro hn
      rw [kept_zero h0 (fun l hl1 h => hn ⟨l, hl1, h⟩)] at hk
      cases hk
    obtain ⟨l, hl1, r, hr, hh⟩ := this
    have m1 : r.X0 ∈ S := hp.mem_iff.2 (List.mem_flatMap.2 ⟨l, hl1, (sides_mem hr).1⟩)
    have m2 : r.X1 ∈ S := hp.mem_iff.2 (List.mem_flatMap.2 ⟨l, hl1, (sides_mem hr).2⟩)
    have hp0 : 0 < S.length := List.length_pos_of_mem m1
    obtain ⟨j1, hj1, e1⟩ := List.mem_iff_getElem.1 m1
    obtain ⟨j2, hj2, e2⟩ := List.mem_iff_getElem.1 m2
    have q1 := hs 0 j1 hp0 hj1 (Nat.zero_le _)
    have q2 := hs j2 (S.length - 1) hj2 (by omega) (by omega)
    have a1 := hh.2.1; have a2 := hh.2.2.1
    exact ⟨⟨hp0, by omega⟩, hp0, by omega⟩
  · unfold keptB
    congr 1
    apply List.map_congr_left
    intro l hl1
    have hg := gapAB hs hp hi l hl1
    unfold covN
    congr 2
    apply List.filter_congr
    intro r hr
    obtain ⟨g1, g2⟩ := hg r hr
    have : HasR r x y ↔ HasR r S[i] y := by
      unfold HasR
      have e1 : r.X0 ≤ x ↔ r.X0 ≤ S[i] := by omega
      have e2 : x < r.X1 ↔ S[i] < r.X1 := by omega
      rw [e1, e2]
    by_cases h : HasR r x y
    · simp [h, this.1 h]
    · rw [decide_eq_false h, decide_eq_false (fun k => h (this.2 k))]
theorem col_ex {kp : List Int → Bool} {LL : List (List Rc)} {S : List Int} {E : List Ed} (hl : ∀ l ∈ LL, ∀ r ∈ l, ROk r) (h0 : ZeroK kp LL.length) (hs : SortN S) (hp : S.Perm (sidesAll LL)) (hE : (edgesFrom 0 LL).Perm E) (hSE : SortE E) :
    ∀ i (h : i + 1 < S.length), S[i] ≠ S[i + 1] → ∃ c, ColOk c ∧ ∀ y, inT c y = keptB kp LL S[i] y := by
  intro i hi hne
  have hlt : S[i] < S[i + 1] := by have := hs i (i + 1) (by omega) hi (by omega); omega
  have hK := tells (kp := kp) hlt hl (gapAB hs hp hi) hE
  obtain ⟨kept, T, h⟩ := ColAt.run hK h0 hSE E.length (Nat.le_refl _)
  exact ⟨T, h.done hK h0 (fun k => sum_all _ _ _ hE (sum_wholes _ _ _ _ _)) (fun e he => (from_grid hl (hE.mem_iff.2 he)).1)⟩
theorem step_len' (T : List Slab) (a b : Int) (c : List Int) : (flatS T).length ≤ (flatS (stepF T a b c)).length := step_len T a b c
/-- later slabs take no rectangles away. -/
theorem FmAt.le' {K : Int → Int → Bool} {S : List Int} (hS : SidesOf K S) (hcol : ∀ i (h : i + 1 < S.length), S[i] ≠ S[i + 1] → ∃ c, ColOk c ∧ ∀ y, inT c y = K S[i] y) {F : List Rc} (hF : IsForm F) (hK : ∀ x y, HasL F x y ↔ K x y = true) :
    ∀ (n i : Nat) (T : List Slab), i + n + 1 = S.length → FmAt K S i T → (flatS T).length ≤ F.length := by
  intro n
  induction n with
  | zero =>
    intro i T hi h
    obtain rfl : i = S.length - 1 := by omega
    obtain ⟨h1, h2⟩ := h.done hS (by omega)
    rw [form_eq (l := flatS T) (m := F) ⟨T, h1, rfl⟩ hF (fun x y => by rw [flat_has h1, h2, hK])]
    exact Nat.le_refl _
  | succ n ih =>
    intro i T hi h
    by_cases e : S[i]'(by omega) = S[i + 1]'(by omega)
    · exact ih (i + 1) T (by omega) (h.skip (by omega) e)
    · obtain ⟨c, hc, hin⟩ := hcol i (by omega) e
      exact Nat.le_trans (step_len T S[i] S[i + 1] c) (ih (i + 1) _ (by omega) (h.step hS (by omega) e hc hin))
theorem sides_len (l : List Rc) : (sides l).length = 2 * l.length := by
  induction l with
  | nil => rfl
  | cons r l ih => have e : sides (r :: l) = r.X0 :: r.X1 :: sides l := rfl; rw [e, List.length_cons, List.length_cons, ih, List.length_cons]; omega
theorem sides_next (l : List Rc) (k : Nat) (h : k < l.length) : sides (l.take (k + 1)) = sides (l.take k) ++ [l[k].X0, l[k].X1] := by
  rw [List.take_succ_eq_append_getElem h]; unfold sides; rw [List.flatMap_append]; rfl
theorem edges_next (i : Nat) (l : List Rc) (k : Nat) (h : k < l.length) : edgesOf i (l.take (k + 1)) = edgesOf i (l.take k) ++ [⟨l[k].X0, l[k].X1, l[k].Y0, i, 1⟩, ⟨l[k].X0, l[k].X1, l[k].Y1, i, -1⟩] := by
  rw [List.take_succ_eq_append_getElem h, edges_snoc]
theorem sidesAll_next (LL : List (List Rc)) (i : Nat) (h : i < LL.length) : sidesAll (LL.take (i + 1)) = sidesAll (LL.take i) ++ sides LL[i] := by
  rw [List.take_succ_eq_append_getElem h]; unfold sidesAll; rw [List.flatMap_append]; simp
theorem edgesFrom_append : ∀ (A B : List (List Rc)) (k : Nat), edgesFrom k (A ++ B) = edgesFrom k A ++ edgesFrom (k + A.length) B := by
  intro A
  induction A with
  | nil => intro B k; rfl
  | cons a A ih => intro B k; rw [List.cons_append, edgesFrom, edgesFrom, ih, List.append_assoc, List.length_cons, show k + 1 + A.length = k + (A.length + 1) by omega]
theorem edgesAll_next (LL : List (List Rc)) (i : Nat) (h : i < LL.length) : edgesFrom 0 (LL.take (i + 1)) = edgesFrom 0 (LL.take i) ++ edgesOf i LL[i] := by
  rw [List.take_succ_eq_append_getElem h, edgesFrom_append, List.length_take, Nat.min_eq_left (by omega), Nat.zero_add]
  simp [edgesFrom]
theorem edges_sides : ∀ (LL : List (List Rc)) (k : Nat), (edgesFrom k LL).length = (sidesAll LL).length := by
  intro LL
  induction LL with
  | nil => intro k; rfl
  | cons l LL ih => intro k; rw [edgesFrom, List.length_append, ih, edges_len]; simp [sidesAll, sides_len]
/-- how many rectangles there are in all. -/
def total (LL : List (List Rc)) : Nat := (LL.map List.length).sum
theorem sidesAll_len : ∀ LL : List (List Rc), (sidesAll LL).length = 2 * total LL := by
  intro LL
  induction LL with
  | nil => rfl
  | cons l LL ih =>
    have e : sidesAll (l :: LL) = sides l ++ sidesAll LL := rfl
    rw [e, List.length_append, ih, sides_len]; simp [total]; omega
theorem total_append (A B : List (List Rc)) : total (A ++ B) = total A + total B := by simp [total]
theorem total_cons (l : List Rc) (B : List (List Rc)) : total (l :: B) = l.length + total B := by simp [total]
theorem total_take (LL : List (List Rc)) (i : Nat) (h : i < LL.length) (k : Nat) (hk : k ≤ LL[i].length) : (sidesAll (LL.take i) ++ sides (LL[i].take k)).length ≤ 2 * total LL := by
  rw [List.length_append, sides_len, List.length_take]
  have e : LL = LL.take i ++ LL[i] :: LL.drop (i + 1) := by rw [← List.drop_eq_getElem_cons h, List.take_append_drop]
  have : total LL = total (LL.take i) + (LL[i].length + total (LL.drop (i + 1))) := by
    have h := congrArg total e
    rw [total_append, total_cons] at h
    exact h
  rw [sidesAll_len]
  omega
end Go.Proofs.Ytoalfmdjdplbkaa
