/-
  Plain mathematics of regions (5): the reference's way to a column: intervals in the order of their beginnings, then merged.
  Plain mathematics of regions (6): the reference's loop over the edges, step by step: the column before, and the rectangles of the slab that ends here.
  Plain mathematics of regions (7): the reference's loops in column: an interval put into its place by moving up those that begin later; intervals merged one by one.
  Plain mathematics of regions (8): the reference's Form, round by round; how long its columns are.
  The laws' examples (small).
-/
import Derived.Test.YtdnoadngfkiabaaGreatS900
import Derived.Test.YtdnoadngfkiabaaGreatS917
set_option linter.unusedVariables false
set_option maxRecDepth 100000
namespace Go.Proofs.YtdnoadngfkiabaaGreat

/-- an interval put behind those that begin no later. -/
def insI (p : Int × Int) : List (Int × Int) → List (Int × Int)
  | [] => [p]
  | q :: L => if p.1 < q.1 then p :: q :: L else q :: insI p L
def SortI : List (Int × Int) → Prop
  | [] => True
  | q :: L => (∀ r ∈ L, q.1 ≤ r.1) ∧ SortI L
theorem insI_mem (p : Int × Int) (L : List (Int × Int)) (r : Int × Int) : r ∈ insI p L ↔ r = p ∨ r ∈ L := by
  induction L with
  | nil => simp [insI]
  | cons q L ih =>
    unfold insI
    by_cases h : p.1 < q.1
    · rw [if_pos h]; simp
    · rw [if_neg h, List.mem_cons, ih, List.mem_cons]
      constructor
      · rintro (k | k | k); exact Or.inr (Or.inl k); exact Or.inl k; exact Or.inr (Or.inr k)
      · rintro (k | k | k); exact Or.inr (Or.inl k); exact Or.inl k; exact Or.inr (Or.inr k)
theorem insI_sort {p : Int × Int} {L : List (Int × Int)} (h : SortI L) : SortI (insI p L) := by
  induction L with
  | nil => exact ⟨fun r hr => (by cases hr), trivial⟩
  | cons q L ih =>
    unfold insI
    by_cases k : p.1 < q.1
    · rw [if_pos k]
      refine ⟨fun r hr => ?_, h⟩
      rcases List.mem_cons.1 hr with rfl | hr
      · omega
      · have := h.1 r hr; omega
    · rw [if_neg k]
      refine ⟨fun r hr => ?_, ih h.2⟩
      rcases (insI_mem p L r).1 hr with rfl | hr
      · omega
      · exact h.1 r hr
/-- intervals in this order, merged; a to b is at hand. -/
def mergeGo (a b : Int) : List (Int × Int) → List Int
  | [] => [a, b]
  | q :: L => if q.1 ≤ b then mergeGo a (max b q.2) L else a :: b :: mergeGo q.1 q.2 L
def mergeI : List (Int × Int) → List Int
  | [] => []
  | q :: L => mergeGo q.1 q.2 L
theorem merge_is : ∀ (L : List (Int × Int)) (a b : Int), a < b → (∀ q ∈ L, a ≤ q.1 ∧ q.1 < q.2) → SortI L →
    Asc (mergeGo a b L) ∧ Even (mergeGo a b L) ∧ (∀ z ∈ mergeGo a b L, a ≤ z) ∧ (∀ z ∈ mergeGo a b L, z = a ∨ z = b ∨ ∃ q ∈ L, z = q.1 ∨ z = q.2) ∧ ∀ y, inT (mergeGo a b L) y = true ↔ (a ≤ y ∧ y < b) ∨ ∃ q ∈ L, q.1 ≤ y ∧ y < q.2 := by
  intro L
  induction L with
  | nil =>
    intro a b hab _ _
    refine ⟨⟨hab, trivial⟩, by simp [mergeGo, Even], fun z hz => ?_, fun z hz => ?_, fun y => ?_⟩
    · simp [mergeGo] at hz; rcases hz with rfl | rfl <;> omega
    · simp [mergeGo] at hz; rcases hz with rfl | rfl; exact Or.inl rfl; exact Or.inr (Or.inl rfl)
    · rw [show mergeGo a b [] = [a, b] from rfl, inT_two (t := []) ⟨hab, trivial⟩]; simp [inT_nil]
  | cons q L ih =>
    intro a b hab hL hS
    obtain ⟨q1, q2⟩ := hL q List.mem_cons_self
    unfold mergeGo
    by_cases h : q.1 ≤ b
    · rw [if_pos h]
      obtain ⟨h1, h2, h3, h4, h5⟩ := ih a (max b q.2) (by omega) (fun r hr => hL r (List.mem_cons_of_mem _ hr)) hS.2
      refine ⟨h1, h2, h3, fun z hz => ?_, fun y => ?_⟩
      · rcases h4 z hz with k | k | ⟨r, hr, k⟩
        · exact Or.inl k
        · by_cases c : b ≤ q.2
          · exact Or.inr (Or.inr ⟨q, List.mem_cons_self, Or.inr (by omega)⟩)
          · exact Or.inr (Or.inl (by omega))
        · exact Or.inr (Or.inr ⟨r, List.mem_cons_of_mem _ hr, k⟩)
      · rw [h5 y]
        constructor
        · rintro (k | ⟨r, hr, k⟩)
          · by_cases c : y < b
            · exact Or.inl ⟨k.1, c⟩
            · exact Or.inr ⟨q, List.mem_cons_self, by omega, by omega⟩
          · exact Or.inr ⟨r, List.mem_cons_of_mem _ hr, k⟩
        · rintro (k | ⟨r, hr, k⟩)
          · exact Or.inl ⟨k.1, by omega⟩
          · rcases List.mem_cons.1 hr with rfl | hr
            · exact Or.inl ⟨by omega, by omega⟩
            · exact Or.inr ⟨r, hr, k⟩
    · rw [if_neg h]
      obtain ⟨h1, h2, h3, h4, h5⟩ := ih q.1 q.2 q2 (fun r hr => ⟨hS.1 r hr, (hL r (List.mem_cons_of_mem _ hr)).2⟩) hS.2
      have hgt : ∀ z ∈ mergeGo q.1 q.2 L, b < z := fun z hz => by have := h3 z hz; omega
      have hA : Asc (a :: b :: mergeGo q.1 q.2 L) := ⟨hab, h1.cons hgt⟩
      refine ⟨hA, ?_, fun z hz => ?_, fun z hz => ?_, fun y => ?_⟩
      · unfold Even at h2 ⊢; simp; omega
      · rcases List.mem_cons.1 hz with rfl | hz
        · exact Int.le_refl _
        · rcases List.mem_cons.1 hz with rfl | hz
          · omega
          · have := hgt z hz; omega
      · rcases List.mem_cons.1 hz with rfl | hz
        · exact Or.inl rfl
        · rcases List.mem_cons.1 hz with rfl | hz
          · exact Or.inr (Or.inl rfl)
          · rcases h4 z hz with k | k | ⟨r, hr, k⟩
            · exact Or.inr (Or.inr ⟨q, List.mem_cons_self, Or.inl k⟩)
            · exact Or.inr (Or.inr ⟨q, List.mem_cons_self, Or.inr k⟩)
            · exact Or.inr (Or.inr ⟨r, List.mem_cons_of_mem _ hr, k⟩)
      · rw [inT_two hA, h5 y]
        constructor
        · rintro (k | k | ⟨r, hr, k⟩)
          · exact Or.inl k
          · exact Or.inr ⟨q, List.mem_cons_self, k⟩
          · exact Or.inr ⟨r, List.mem_cons_of_mem _ hr, k⟩
        · rintro (k | ⟨r, hr, k⟩)
          · exact Or.inl k
          · rcases List.mem_cons.1 hr with rfl | hr
            · exact Or.inr (Or.inl k)
            · exact Or.inr (Or.inr ⟨r, hr, k⟩)

/-- the intervals of the rectangles at x, in the order of their beginnings. -/
def ivsI (l : List Rc) (x : Int) : List (Int × Int) := l.foldl (fun L r => if r.X0 ≤ x ∧ x < r.X1 then insI (r.Y0, r.Y1) L else L) []
theorem ivs_snoc (l : List Rc) (r : Rc) (x : Int) : ivsI (l ++ [r]) x = if r.X0 ≤ x ∧ x < r.X1 then insI (r.Y0, r.Y1) (ivsI l x) else ivsI l x := by simp [ivsI, List.foldl_append]
theorem ivs_is (l : List Rc) (x : Int) : SortI (ivsI l x) ∧ ∀ p, p ∈ ivsI l x ↔ ∃ r ∈ l, (r.X0 ≤ x ∧ x < r.X1) ∧ p = (r.Y0, r.Y1) := by
  have key : ∀ (l : List Rc) (L : List (Int × Int)), SortI L → SortI (l.foldl (fun L r => if r.X0 ≤ x ∧ x < r.X1 then insI (r.Y0, r.Y1) L else L) L) ∧ ∀ p, p ∈ l.foldl (fun L r => if r.X0 ≤ x ∧ x < r.X1 then insI (r.Y0, r.Y1) L else L) L ↔ p ∈ L ∨ ∃ r ∈ l, (r.X0 ≤ x ∧ x < r.X1) ∧ p = (r.Y0, r.Y1) := by
    intro l
    induction l with
    | nil => intro L h; exact ⟨h, fun p => by simp⟩
    | cons r l ih =>
      intro L h
      rw [List.foldl_cons]
      by_cases c : r.X0 ≤ x ∧ x < r.X1
      · rw [if_pos c]
        obtain ⟨h1, h2⟩ := ih (insI (r.Y0, r.Y1) L) (insI_sort h)
        refine ⟨h1, fun p => ?_⟩
        rw [h2 p, insI_mem]
        constructor
        · rintro ((k | k) | ⟨s, hs, k⟩)
          · exact Or.inr ⟨r, List.mem_cons_self, c, k⟩
          · exact Or.inl k
          · exact Or.inr ⟨s, List.mem_cons_of_mem _ hs, k⟩
        · rintro (k | ⟨s, hs, k⟩)
          · exact Or.inl (Or.inr k)
          · rcases List.mem_cons.1 hs with rfl | hs
            · exact Or.inl (Or.inl k.2)
            · exact Or.inr ⟨s, hs, k⟩
      · rw [if_neg c]
        obtain ⟨h1, h2⟩ := ih L h
        refine ⟨h1, fun p => ?_⟩
        rw [h2 p]
        constructor
        · rintro (k | ⟨s, hs, k⟩)
          · exact Or.inl k
          · exact Or.inr ⟨s, List.mem_cons_of_mem _ hs, k⟩
        · rintro (k | ⟨s, hs, k⟩)
          · exact Or.inl k
          · rcases List.mem_cons.1 hs with rfl | hs
            · exact absurd k.1 c
            · exact Or.inr ⟨s, hs, k⟩
  obtain ⟨h1, h2⟩ := key l [] trivial
  exact ⟨h1, fun p => by rw [show ivsI l x = l.foldl (fun L r => if r.X0 ≤ x ∧ x < r.X1 then insI (r.Y0, r.Y1) L else L) [] from rfl, h2 p]; simp⟩
/-- the reference's column is the column. -/
theorem merge_col {l : List Rc} (hl : ∀ r ∈ l, ROk r) (x : Int) : mergeI (ivsI l x) = colS l x := by
  obtain ⟨c1, c2⟩ := colS_is hl x
  obtain ⟨s1, s2⟩ := ivs_is l x
  have mem : ∀ y, (∃ q ∈ ivsI l x, q.1 ≤ y ∧ y < q.2) ↔ HasL l x y := fun y => by
    constructor
    · rintro ⟨q, hq, k⟩
      obtain ⟨r, hr, c, rfl⟩ := (s2 q).1 hq
      exact ⟨r, hr, hl r hr, c.1, c.2, k.1, k.2⟩
    · rintro ⟨r, hr, k⟩
      exact ⟨(r.Y0, r.Y1), (s2 _).2 ⟨r, hr, ⟨k.2.1, k.2.2.1⟩, rfl⟩, k.2.2.2.1, k.2.2.2.2⟩
  have hpos : ∀ q ∈ ivsI l x, q.1 < q.2 := fun q hq => by
    obtain ⟨r, hr, _, rfl⟩ := (s2 q).1 hq
    exact (hl r hr).2.2.1
  generalize hL : ivsI l x = L at *
  cases L with
  | nil =>
    refine col_eq trivial c1.asc (fun y => ?_)
    rw [Bool.eq_iff_iff, c2 y, ← mem y]
    constructor
    · intro h; simp [mergeI, inT_nil] at h
    · rintro ⟨q, hq, _⟩; cases hq
  | cons q L =>
    obtain ⟨h1, _, _, _, h5⟩ := merge_is L q.1 q.2 (hpos q List.mem_cons_self) (fun r hr => ⟨s1.1 r hr, hpos r (List.mem_cons_of_mem _ hr)⟩) s1.2
    refine col_eq h1 c1.asc (fun y => ?_)
    rw [Bool.eq_iff_iff, c2 y, ← mem y]
    show inT (mergeGo q.1 q.2 L) y = true ↔ _
    rw [h5 y]
    constructor
    · rintro (k | ⟨r, hr, k⟩)
      · exact ⟨q, List.mem_cons_self, k⟩
      · exact ⟨r, List.mem_cons_of_mem _ hr, k⟩
    · rintro ⟨r, hr, k⟩
      rcases List.mem_cons.1 hr with rfl | hr
      · exact Or.inl k
      · exact Or.inr ⟨r, hr, k⟩
end Go.Proofs.YtdnoadngfkiabaaGreat
namespace Go.Proofs.YtdnoadngfkiabaaGreat

/-- the loop stands at the edge a: the column before was `was`; a slab ends here exactly if that was not empty. -/
structure FormAt (S : List Slab) (was : List Int) (a : Int) : Prop where
  yes : was ≠ [] → ∃ T s, S = T ++ [s] ∧ s.t = was ∧ s.x1 = a
  no : was = [] → ∀ s, S.getLast? = some s → s.x1 < a
theorem formAt_start (a : Int) : FormAt [] [] a := ⟨fun h => absurd rfl h, fun _ s h => by simp at h⟩
theorem flatS_snoc (S : List Slab) (s : Slab) : flatS (S ++ [s]) = flatS S ++ rectsOf s.x0 s.x1 s.t := by simp [flatS]
theorem rects_len (x0 x1 : Int) (t : List Int) : (rectsOf x0 x1 t).length = (twos t).length := by simp [rectsOf]
theorem rects_wide (x0 x1 b : Int) (t : List Int) : (rectsOf x0 x1 t).map (fun r => (⟨r.X0, r.Y0, b, r.Y1⟩ : Rc)) = rectsOf x0 b t := by
  simp [rectsOf, List.map_map]
/-- the column is the one before: the last slab becomes wider. -/
theorem step_wide {S : List Slab} {was : List Int} {a b : Int} (h : FormAt S was a) (hne : was ≠ []) :
    ∃ T s, S = T ++ [s] ∧ s.t = was ∧ s.x1 = a ∧ stepF S a b was = T ++ [⟨s.x0, b, was⟩] ∧ flatS (stepF S a b was) = flatS T ++ (rectsOf s.x0 a was).map (fun r => (⟨r.X0, r.Y0, b, r.Y1⟩ : Rc)) ∧ flatS S = flatS T ++ rectsOf s.x0 a was ∧ FormAt (stepF S a b was) was b := by
  obtain ⟨T, s, rfl, e1, e2⟩ := h.yes hne
  have e : stepF (T ++ [s]) a b was = T ++ [⟨s.x0, b, was⟩] := by
    unfold stepF
    rw [if_neg hne]
    have hl : (T ++ [s]).getLast? = some s := by simp
    rw [hl]
    simp only []
    rw [if_pos ⟨e2, e1⟩, List.dropLast_concat]
  refine ⟨T, s, rfl, e1, e2, e, ?_, ?_, ?_⟩
  · rw [e, flatS_snoc, rects_wide]
  · rw [flatS_snoc, e2, e1]
  · rw [e]
    exact ⟨fun _ => ⟨T, _, rfl, rfl, rfl⟩, fun h0 => absurd h0 hne⟩
/-- another column: a new slab, if it is not empty. -/
theorem step_new {S : List Slab} {was c : List Int} {a b : Int} (h : FormAt S was a) (hab : a < b) (hg : Grown S a) (hc : c = [] ∨ c ≠ was) :
    stepF S a b c = (if c = [] then S else S ++ [⟨a, b, c⟩]) ∧ flatS (stepF S a b c) = flatS S ++ rectsOf a b c ∧ FormAt (stepF S a b c) c b := by
  have e : stepF S a b c = if c = [] then S else S ++ [⟨a, b, c⟩] := by
    unfold stepF
    by_cases h0 : c = []
    · rw [if_pos h0, if_pos h0]
    · rw [if_neg h0, if_neg h0]
      rcases List.eq_nil_or_concat S with rfl | ⟨T, s, rfl⟩
      · rfl
      · rw [List.concat_eq_append] at *
        have hl : (T ++ [s]).getLast? = some s := by simp
        rw [hl]
        simp only []
        rw [if_neg]
        rintro ⟨k1, k2⟩
        by_cases hw : was = []
        · have := h.no hw s hl; omega
        · obtain ⟨T', s', e1, e2, e3⟩ := h.yes hw
          have : s = s' := by
            have := congrArg List.getLast? e1
            simpa using this
          subst this
          rcases hc with hc | hc
          · exact h0 hc
          · exact hc (by rw [← k2, e2])
  refine ⟨e, ?_, ?_⟩
  · rw [e]
    by_cases h0 : c = []
    · rw [if_pos h0]; subst h0; simp [rectsOf, twos]
    · rw [if_neg h0, flatS_snoc]
  · rw [e]
    by_cases h0 : c = []
    · rw [if_pos h0]
      refine ⟨fun k => absurd h0 k, fun _ s hs => ?_⟩
      have := hg.to s (List.mem_of_getLast? hs)
      omega
    · rw [if_neg h0]
      exact ⟨fun _ => ⟨S, _, rfl, rfl, rfl⟩, fun k => absurd k h0⟩
/-- the slabs up to the k-th edge. -/
theorem growF_take (c : Int → List Int) : ∀ (E : List Int) (S : List Slab) (k : Nat) (h : k + 1 < E.length), growF c S (E.take (k + 2)) = stepF (growF c S (E.take (k + 1))) E[k] E[k + 1] (c E[k]) := by
  intro E
  induction E with
  | nil => intro S k h; simp at h
  | cons a E ih =>
    intro S k h
    match E, ih, h with
    | [], _, h => simp at h
    | b :: E, ih, h =>
      cases k with
      | zero => rfl
      | succ k =>
        have := ih (stepF S a b (c a)) k (by simp at h ⊢; omega)
        simpa [growF, List.take] using this
end Go.Proofs.YtdnoadngfkiabaaGreat
namespace Go.Proofs.YtdnoadngfkiabaaGreat

theorem insI_at {p : Int × Int} : ∀ {L : List (Int × Int)} {m : Nat}, (∀ j (h : j < L.length), m ≤ j → p.1 < L[j].1) → (∀ j (h : j < L.length), j < m → L[j].1 ≤ p.1) → m ≤ L.length → insI p L = L.take m ++ p :: L.drop m := by
  intro L
  induction L with
  | nil => intro m _ _ hm; simp at hm; subst hm; rfl
  | cons a L ih =>
    intro m h1 h2 hm
    unfold insI
    cases m with
    | zero =>
      have := h1 0 (by simp) (Nat.le_refl _)
      simp only [List.getElem_cons_zero] at this
      rw [if_pos this]; rfl
    | succ m =>
      have := h2 0 (by simp) (by omega)
      simp only [List.getElem_cons_zero] at this
      rw [if_neg (by omega)]
      have e := ih (m := m) (fun j hj hm => by have := h1 (j + 1) (by simp; omega) (by omega); simpa using this) (fun j hj hm => by have := h2 (j + 1) (by simp; omega) (by omega); simpa using this) (by simp at hm; omega)
      rw [e]; rfl
theorem sortI_at : ∀ {L : List (Int × Int)}, SortI L → ∀ {i j : Nat} (hi : i < L.length) (hj : j < L.length), i ≤ j → L[i].1 ≤ L[j].1 := by
  intro L
  induction L with
  | nil => intro _ i j hi; simp at hi
  | cons a L ih =>
    intro h i j hi hj hij
    cases j with
    | zero =>
      obtain rfl : i = 0 := by omega
      exact Int.le_refl _
    | succ j =>
      cases i with
      | zero => simp only [List.getElem_cons_zero, List.getElem_cons_succ]; exact h.1 _ (List.getElem_mem _)
      | succ i => simp only [List.getElem_cons_succ]; exact ih h.2 (by simpa using hi) (by simpa using hj) (by omega)
def fstL (L : List (Int × Int)) : List Int := L.map Prod.fst
def sndL (L : List (Int × Int)) : List Int := L.map Prod.snd
theorem fstL_len (L : List (Int × Int)) : (fstL L).length = L.length := by simp [fstL]
theorem sndL_len (L : List (Int × Int)) : (sndL L).length = L.length := by simp [sndL]
theorem fstL_at (L : List (Int × Int)) (j : Nat) (h : j < (fstL L).length) : (fstL L)[j] = (L[j]'(by simpa [fstL] using h)).1 := by simp [fstL]
theorem sndL_at (L : List (Int × Int)) (j : Nat) (h : j < (sndL L).length) : (sndL L)[j] = (L[j]'(by simpa [sndL] using h)).2 := by simp [sndL]
theorem fstL_ins (p : Int × Int) (L : List (Int × Int)) (m : Nat) : fstL (L.take m ++ p :: L.drop m) = (fstL L).take m ++ p.1 :: (fstL L).drop m := by simp [fstL, List.map_take, List.map_drop]
theorem sndL_ins (p : Int × Int) (L : List (Int × Int)) (m : Nat) : sndL (L.take m ++ p :: L.drop m) = (sndL L).take m ++ p.2 :: (sndL L).drop m := by simp [sndL, List.map_take, List.map_drop]
/-- the place is found: those behind it begin later, the one before it doesn't. -/
theorem ins_found {p : Int × Int} {L : List (Int × Int)} (hL : SortI L) {m : Nat} (hm : m ≤ L.length) (h1 : ∀ j (h : j < L.length), m ≤ j → p.1 < L[j].1) (h2 : ∀ h : m - 1 < L.length, 0 < m → L[m - 1].1 ≤ p.1) :
    fstL (insI p L) = (fstL L).take m ++ p.1 :: (fstL L).drop m ∧ sndL (insI p L) = (sndL L).take m ++ p.2 :: (sndL L).drop m := by
  have e := insI_at (p := p) h1 (fun j hj hjm => Int.le_trans (sortI_at hL hj (show m - 1 < L.length by omega) (by omega)) (h2 (by omega) (by omega))) hm
  rw [e]
  exact ⟨fstL_ins p L m, sndL_ins p L m⟩
theorem ivs_next (l : List Rc) (k : Nat) (h : k < l.length) (x : Int) : ivsI (l.take (k + 1)) x = if l[k].X0 ≤ x ∧ x < l[k].X1 then insI (l[k].Y0, l[k].Y1) (ivsI (l.take k) x) else ivsI (l.take k) x := by
  rw [List.take_succ_eq_append_getElem h, ivs_snoc]
theorem insI_len (p : Int × Int) (L : List (Int × Int)) : (insI p L).length = L.length + 1 := by
  induction L with
  | nil => rfl
  | cons q L ih => unfold insI; split; rfl; rw [List.length_cons, ih, List.length_cons]
theorem ivs_len (l : List Rc) (x : Int) : ∀ k, k ≤ l.length → (ivsI (l.take k) x).length ≤ k := by
  intro k
  induction k with
  | zero => intro _; simp [ivsI]
  | succ k ih => intro h; rw [ivs_next l k (by omega) x]; have := ih (by omega); split; rw [insI_len]; omega; omega

/-! ### merging -/
/-- what is merged after k of the intervals. -/
structure MergeAt (L : List (Int × Int)) (k : Nat) (out : List Int) : Prop where
  none : k = 0 → out = []
  some : 0 < k → ∃ D a b, out = D ++ [a, b] ∧ D ++ mergeGo a b (L.drop k) = mergeI L
theorem MergeAt.start (L : List (Int × Int)) : MergeAt L 0 [] := ⟨fun _ => rfl, fun h => absurd h (Nat.lt_irrefl _)⟩
theorem MergeAt.first {L : List (Int × Int)} {out : List Int} (h : MergeAt L 0 out) (hk : 0 < L.length) : MergeAt L 1 (out ++ [L[0].1, L[0].2]) := by
  rw [h.none rfl]
  refine ⟨fun h => (by omega), fun _ => ⟨[], L[0].1, L[0].2, rfl, ?_⟩⟩
  cases L with
  | nil => simp at hk
  | cons q L => rfl
theorem MergeAt.join {L : List (Int × Int)} {k : Nat} {D : List Int} {a b : Int} (he : D ++ mergeGo a b (L.drop k) = mergeI L) (hk : k < L.length) (hle : L[k].1 ≤ b) : MergeAt L (k + 1) (D ++ [a, max b L[k].2]) := by
  refine ⟨fun h => (by omega), fun _ => ⟨D, a, max b L[k].2, rfl, ?_⟩⟩
  rw [← he, List.drop_eq_getElem_cons hk]
  show _ = D ++ (if L[k].1 ≤ b then mergeGo a (max b L[k].2) (L.drop (k + 1)) else _)
  rw [if_pos hle]
theorem MergeAt.new {L : List (Int × Int)} {k : Nat} {D : List Int} {a b : Int} (he : D ++ mergeGo a b (L.drop k) = mergeI L) (hk : k < L.length) (hle : ¬ L[k].1 ≤ b) : MergeAt L (k + 1) (D ++ [a, b] ++ [L[k].1, L[k].2]) := by
  refine ⟨fun h => (by omega), fun _ => ⟨D ++ [a, b], L[k].1, L[k].2, rfl, ?_⟩⟩
  rw [← he, List.drop_eq_getElem_cons hk]
  show _ = D ++ (if L[k].1 ≤ b then _ else a :: b :: mergeGo L[k].1 L[k].2 (L.drop (k + 1)))
  rw [if_neg hle, List.append_assoc]; rfl
theorem MergeAt.done {L : List (Int × Int)} {out : List Int} (h : MergeAt L L.length out) : out = mergeI L := by
  cases L with
  | nil => exact h.none rfl
  | cons q L =>
    obtain ⟨D, a, b, rfl, he⟩ := h.some (by simp)
    rw [← he, List.drop_length]; rfl
theorem merge_len : ∀ (L : List (Int × Int)) (a b : Int), (mergeGo a b L).length ≤ 2 * L.length + 2 := by
  intro L
  induction L with
  | nil => intro a b; simp [mergeGo]
  | cons q L ih =>
    intro a b
    unfold mergeGo
    split
    · have := ih a (max b q.2); simp; omega
    · have := ih q.1 q.2; simp; omega
end Go.Proofs.YtdnoadngfkiabaaGreat
namespace Go.Proofs.YtdnoadngfkiabaaGreat

theorem combGo_len (op : Bool → Bool → Bool) : ∀ (n : Nat) (a b : List Int) (pa pb was : Bool), a.length + b.length ≤ n → (combGo op a b pa pb was).length ≤ a.length + b.length := by
  intro n
  induction n with
  | zero =>
    intro a b pa pb was h
    obtain rfl : a = [] := List.length_eq_zero_iff.1 (by omega)
    obtain rfl : b = [] := List.length_eq_zero_iff.1 (by omega)
    unfold combGo; simp
  | succ n ih =>
    intro a b pa pb was h
    match a, b, h with
    | [], [], _ => unfold combGo; simp
    | x :: a, [], h =>
      unfold combGo
      have h1 := ih a [] (!pa) pb (op (!pa) pb) (by simp at h ⊢; omega)
      split <;> simp at h1 ⊢ <;> omega
    | [], y :: b, h =>
      unfold combGo
      have h1 := ih [] b pa (!pb) (op pa (!pb)) (by simp at h ⊢; omega)
      split <;> simp at h1 ⊢ <;> omega
    | x :: a, y :: b, h =>
      unfold combGo
      have h1 := ih a (y :: b) (!pa) pb (op (!pa) pb) (by simp at h ⊢; omega)
      have h2 := ih (x :: a) b pa (!pb) (op pa (!pb)) (by simp at h ⊢; omega)
      have h3 := ih a b (!pa) (!pb) (op (!pa) (!pb)) (by simp at h ⊢; omega)
      split
      · split <;> simp at h1 ⊢ <;> omega
      · split
        · split <;> simp at h2 ⊢ <;> omega
        · split <;> simp at h3 ⊢ <;> omega
theorem comb_len (op : Bool → Bool → Bool) (a b : List Int) : (comb op a b).length ≤ a.length + b.length := combGo_len op _ a b _ _ _ (Nat.le_refl _)
theorem mergeI_len (L : List (Int × Int)) : (mergeI L).length ≤ 2 * L.length := by
  cases L with
  | nil => simp [mergeI]
  | cons q L => have := merge_len L q.1 q.2; show (mergeGo q.1 q.2 L).length ≤ _; simp; omega
theorem colS_len {l : List Rc} (hl : ∀ r ∈ l, ROk r) (x : Int) : (colS l x).length ≤ 2 * l.length := by
  rw [← merge_col hl x]
  have h1 := mergeI_len (ivsI l x)
  have h2 := ivs_len l x l.length (Nat.le_refl _)
  rw [List.take_length] at h2
  omega
theorem twos_take : ∀ (m : Nat) (C : List Int) (h : 2 * m + 1 < C.length), twos (C.take (2 * m + 2)) = twos (C.take (2 * m)) ++ [(C[2 * m], C[2 * m + 1])]
  | 0, a :: b :: t, _ => rfl
  | m + 1, a :: b :: t, h => by
    have e := twos_take m t (by simp at h; omega)
    show twos (a :: b :: t.take (2 * m + 2)) = twos (a :: b :: t.take (2 * m)) ++ [_]
    show (a, b) :: twos (t.take (2 * m + 2)) = (a, b) :: twos (t.take (2 * m)) ++ [_]
    rw [e]; rfl
theorem rects_take (a b : Int) (m : Nat) (C : List Int) (h : 2 * m + 1 < C.length) : rectsOf a b (C.take (2 * m + 2)) = rectsOf a b (C.take (2 * m)) ++ [⟨a, C[2 * m], b, C[2 * m + 1]⟩] := by
  unfold rectsOf; rw [twos_take m C h]; simp
theorem twos_len : ∀ (C : List Int), (twos C).length ≤ C.length
  | [] => by simp [twos]
  | [a] => by simp [twos]
  | a :: b :: t => by have := twos_len t; simp [twos]; omega
theorem rectsOf_len (a b : Int) (C : List Int) : (rectsOf a b C).length ≤ C.length := by rw [rects_len]; exact twos_len C
/-- what lies ahead of some rectangles, and those of them that are turned so far. -/
def widL (T R : List Rc) (b : Int) (m : Nat) : List Rc := T ++ ((R.take m).map (fun r => (⟨r.X0, r.Y0, b, r.Y1⟩ : Rc)) ++ R.drop m)
theorem widL_len (T R : List Rc) (b : Int) (m : Nat) : (widL T R b m).length = T.length + R.length := by
  unfold widL; rw [List.length_append, List.length_append, List.length_map, List.length_take, List.length_drop]; omega
theorem widL_zero (T R : List Rc) (b : Int) : widL T R b 0 = T ++ R := by simp [widL]
theorem widL_all (T R : List Rc) (b : Int) : widL T R b R.length = T ++ R.map (fun r => (⟨r.X0, r.Y0, b, r.Y1⟩ : Rc)) := by simp [widL]
theorem widL_set (T R : List Rc) (b : Int) (m : Nat) (h : m < R.length) : ∃ h2 : T.length + m < (widL T R b m).length, (widL T R b m).set (T.length + m) ⟨(widL T R b m)[T.length + m].X0, (widL T R b m)[T.length + m].Y0, b, (widL T R b m)[T.length + m].Y1⟩ = widL T R b (m + 1) := by
  refine ⟨by rw [widL_len]; omega, ?_⟩
  have e1 : (List.map (fun r => (⟨r.X0, r.Y0, b, r.Y1⟩ : Rc)) (R.take m)).length = m := by rw [List.length_map, List.length_take]; omega
  have ea : (widL T R b m)[T.length + m]'(by rw [widL_len]; omega) = R[m] := by
    unfold widL
    rw [List.getElem_append_right (by omega)]
    rw [List.getElem_append_right (by rw [e1]; omega)]
    have e2 : min m R.length = m := by omega
    simp [e2]
  rw [ea]
  unfold widL
  rw [List.set_append_right _ _ (by omega), List.set_append_right _ _ (by rw [e1]; omega), e1, show T.length + m - T.length - m = 0 by omega, List.drop_eq_getElem_cons h, List.set_cons_zero, List.take_succ_eq_append_getElem h, List.map_append, List.append_assoc]
  rfl

/-- where Form's loop stands. -/
structure FmR (c : Int → List Int) (E : List Int) (k : Nat) (S : List Slab) (was : List Int) (last : Nat) : Prop where
  eq : S = growF c [] (E.take (k + 1))
  here : ∀ h : k < E.length, FormAt S was E[k] ∧ Grown S E[k]
  zero : k = 0 → was = []
  last : was ≠ [] → ∀ T s, S = T ++ [s] → last = (flatS T).length
theorem FmR.start (c : Int → List Int) (E : List Int) : FmR c E 0 [] [] 0 := by
  refine ⟨?_, fun h => ⟨formAt_start _, ⟨trivial, fun s hs => by cases hs⟩⟩, fun _ => rfl, fun h => absurd rfl h⟩
  cases E <;> rfl
section
variable {c : Int → List Int} {E : List Int} {k : Nat} {S : List Slab} {was : List Int} {last : Nat}
theorem FmR.span (hE : Asc E) (hG : InG E) (hk : k + 1 < E.length) : Span E[k] E[k + 1] := by
  have h : ∀ {t : List Int}, Asc t → ∀ {i : Nat} (h : i + 1 < t.length), t[i] < t[i + 1] := by
    intro t
    induction t with
    | nil => intro _ i h; simp at h
    | cons a t ih =>
      intro ha i h
      cases i with
      | zero => simp only [List.getElem_cons_zero, List.getElem_cons_succ]; exact ha.lt _ (List.getElem_mem _)
      | succ i => simp only [List.getElem_cons_succ]; exact ih ha.tail (by simpa using h)
  exact ⟨(hG _ (List.getElem_mem _)).1, h hE hk, (hG _ (List.getElem_mem _)).2⟩
theorem FmR.wide (h : FmR c E k S was last) (hk : k + 1 < E.length) (hE : Asc E) (hG : InG E) (hc : ∀ x, ColOk (c x)) (e : c E[k] = was) (hne : was ≠ []) :
    ∃ T R, flatS S = T ++ R ∧ last = T.length ∧ flatS (growF c [] (E.take (k + 2))) = T ++ R.map (fun r => (⟨r.X0, r.Y0, E[k + 1], r.Y1⟩ : Rc)) ∧ FmR c E (k + 1) (growF c [] (E.take (k + 2))) was last := by
  have g := growF_take c E [] k hk
  rw [← h.eq, e] at g
  obtain ⟨h1, h2⟩ := h.here (by omega)
  obtain ⟨T, s, e1, e2, e3, e4, e5, e6, e7⟩ := step_wide (b := E[k + 1]) h1 hne
  have h3 := (step_is h2 (FmR.span hE hG hk) (e ▸ hc E[k])).1
  have hl := h.last hne T s e1
  refine ⟨flatS T, rectsOf s.x0 E[k] was, e6, hl, by rw [g]; exact e5, rfl, fun _ => ?_, fun h0 => by omega, fun _ T' s' hT => ?_⟩
  · rw [g]; exact ⟨e7, h3⟩
  · rw [g, e4] at hT
    have : T = T' := (List.append_inj' hT rfl).1
    rw [← this]; exact hl
theorem FmR.new (h : FmR c E k S was last) (hk : k + 1 < E.length) (hE : Asc E) (hG : InG E) (hc : ∀ x, ColOk (c x)) (hn : c E[k] = [] ∨ c E[k] ≠ was) :
    flatS (growF c [] (E.take (k + 2))) = flatS S ++ rectsOf E[k] E[k + 1] (c E[k]) ∧ FmR c E (k + 1) (growF c [] (E.take (k + 2))) (c E[k]) (flatS S).length := by
  have g := growF_take c E [] k hk
  rw [← h.eq] at g
  obtain ⟨h1, h2⟩ := h.here (by omega)
  have hsp := FmR.span hE hG hk
  obtain ⟨e1, e2, e3⟩ := step_new h1 hsp.2.1 h2 hn
  have h3 := (step_is h2 hsp (hc E[k])).1
  refine ⟨by rw [g]; exact e2, rfl, fun _ => ?_, fun h0 => by omega, fun hne T' s' hT => ?_⟩
  · rw [g]; exact ⟨e3, h3⟩
  · rw [g, e1, if_neg hne] at hT
    have : S = T' := (List.append_inj' hT rfl).1
    rw [← this]
theorem FmR.done (h : FmR c E k S was last) (hk : E.length ≤ k + 1) : S = growF c [] E := by
  rw [h.eq, List.take_of_length_le hk]
end
/-- the edges of two lists of rectangles. -/
theorem edges_are {a b : List Rc} (ha : ∀ r ∈ a, ROk r) (hb : ∀ r ∈ b, ROk r) : Asc (sortS (sides a ++ sides b)) ∧ InG (sortS (sides a ++ sides b)) := by
  refine ⟨(sortS_is _).1, fun z hz => ?_⟩
  rw [(sortS_is _).2] at hz
  rcases List.mem_append.1 hz with h | h
  · exact sides_gr ha z h
  · exact sides_gr hb z h
end Go.Proofs.YtdnoadngfkiabaaGreat
namespace Go.Proofs.YtdnoadngfkiabaaGreat
open Go.RowKit

/-- a block of rectangles. -/
def RB (w : World) (b : Nat) (l : List Rc) : Prop := w.heap[b]? = some (.cells (rcells l).toArray 33 (0, 0))
theorem RB.lt {w : World} {b : Nat} {l : List Rc} (h : RB w b l) : b < w.heap.size := (Array.getElem?_eq_some_iff.1 h).1
theorem RB.below {w w' : World} {b : Nat} {l : List Rc} (h : RB w b l) (hb : Below w.heap.size w w') : RB w' b l := (hb.block b h.lt).trans h
theorem RB.row {w : World} {b : Nat} {l : List Rc} (h : RB w b l) (hl : l.length ≤ 1099511627776) : RIn w (some ⟨b, 0, none⟩) l.length l := by
  refine ⟨fun _ => ⟨b, 0, rfl, h.lt, fun j hj => ?_⟩, hl, Nat.le_refl _, by omega⟩
  obtain ⟨e0, e1, e2, e3⟩ := rcells_at l j hj
  rw [Nat.zero_add]
  have c := fun i v (hv : (rcells l)[i]? = some v) => show w.cell? ⟨b, i, none⟩ = some v by
    rw [Lib.cell_of_heap h]; simpa using hv
  exact ⟨c _ _ e0, c _ _ e1, c _ _ e2, c _ _ e3⟩
theorem RB.new (w : World) (l : List Rc) (o : Array Value) (ho : o = (rcells l).toArray) : RB (w.alloc (.cells o 33)) w.heap.size l := by subst ho; exact heap_alloc_new w _
def L1 : List Rc := [⟨0, 0, 2, 2⟩, ⟨1, 1, 3, 3⟩]
def L2 : List Rc := [⟨0, 0, 3, 3⟩]
def L3 : List Rc := [⟨1, 1, 2, 2⟩]
def L4 : List Rc := [⟨0, 0, 1, 1⟩, ⟨1, 1, 2, 2⟩]
def L5 : List Rc := [⟨3, 0, 3, 1⟩]
/-- what the walk keeps: blocks of rectangles, lists at slices, and that nothing that was there has turned. -/
def SK (L : List (Nat × List Rc)) (M : List (Option Addr × Nat × List Rc)) (w0 w : World) : Prop := (∀ p ∈ L, RB w p.1 p.2) ∧ (∀ p ∈ M, RIn w p.1 p.2.1 p.2.2) ∧ Below w0.heap.size w0 w
theorem SK.go {L : List (Nat × List Rc)} {M : List (Option Addr × Nat × List Rc)} {w0 w w' : World} (h : SK L M w0 w) (hb : Below w.heap.size w w') : SK L M w0 w' :=
  ⟨fun p hp => (h.1 p hp).below hb, fun p hp => (h.2.1 p hp).below hb, h.2.2.trans (hb.mono h.2.2.size)⟩
theorem SK.new {L : List (Nat × List Rc)} {M : List (Option Addr × Nat × List Rc)} {w0 w : World} (h : SK L M w0 w) (l : List Rc) (o : Array Value) (ho : o = (rcells l).toArray) (k : Nat) (hk : k = w.heap.size) : SK ((k, l) :: L) M w0 (w.alloc (.cells o 33)) := by
  subst hk
  have hg : Below w.heap.size w (w.alloc (.cells o 33)) := (Below.refl _ _).alloc (Nat.le_refl _) _
  have h2 := h.go hg
  refine ⟨fun p hp => ?_, h2.2⟩
  rcases List.mem_cons.1 hp with rfl | hp
  · exact RB.new w l o ho
  · exact h2.1 p hp
theorem SK.add {L : List (Nat × List Rc)} {M : List (Option Addr × Nat × List Rc)} {w0 w w' : World} (h : SK L M w0 w) (hb : Below w.heap.size w w') {A : Option Addr} {c : Nat} {l : List Rc} (hr : RIn w' A c l) : SK L ((A, c, l) :: M) w0 w' := by
  have h2 := h.go hb
  refine ⟨h2.1, fun p hp => ?_, h2.2.2⟩
  rcases List.mem_cons.1 hp with rfl | hp
  · exact hr
  · exact h2.2.1 p hp
end Go.Proofs.YtdnoadngfkiabaaGreat
