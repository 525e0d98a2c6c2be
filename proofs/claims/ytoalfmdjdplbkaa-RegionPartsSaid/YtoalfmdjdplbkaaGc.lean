/-
  Plain mathematics of regions (3): the edges of lists of rectangles; the form of a combination of two lists, that there is one.
-/
import Derived.Test.YtoalfmdjdplbkaaGb
set_option linter.unusedVariables false
namespace Go.Proofs.Ytoalfmdjdplbkaa

/-! ### ascending lists of numbers, each once -/
/-- a number put into an ascending list. -/
def insS (x : Int) : List Int → List Int
  | [] => [x]
  | a :: t => if x < a then x :: a :: t else if x = a then a :: t else a :: insS x t
theorem insS_mem (x : Int) (t : List Int) (z : Int) : z ∈ insS x t ↔ z = x ∨ z ∈ t := by
  induction t with
  | nil => simp [insS]
  | cons a t ih =>
    unfold insS
    by_cases h1 : x < a
    · rw [if_pos h1]; simp
    · rw [if_neg h1]
      by_cases h2 : x = a
      · rw [if_pos h2]; subst h2; simp
      · rw [if_neg h2, List.mem_cons, ih, List.mem_cons]
        constructor
        · rintro (h | h | h); exact Or.inr (Or.inl h); exact Or.inl h; exact Or.inr (Or.inr h)
        · rintro (h | h | h); exact Or.inr (Or.inl h); exact Or.inl h; exact Or.inr (Or.inr h)
theorem insS_asc {x : Int} {t : List Int} (h : Asc t) : Asc (insS x t) := by
  induction t with
  | nil => trivial
  | cons a t ih =>
    unfold insS
    by_cases h1 : x < a
    · rw [if_pos h1]; exact ⟨h1, h⟩
    · rw [if_neg h1]
      by_cases h2 : x = a
      · rw [if_pos h2]; exact h
      · rw [if_neg h2]
        refine (ih h.tail).cons fun z hz => ?_
        rcases (insS_mem x t z).1 hz with rfl | hz
        · omega
        · exact h.lt z hz
def sortS (l : List Int) : List Int := l.foldl (fun t x => insS x t) []
theorem sortS_snoc (l : List Int) (x : Int) : sortS (l ++ [x]) = insS x (sortS l) := by simp [sortS, List.foldl_append]
theorem sortS_is (l : List Int) : Asc (sortS l) ∧ ∀ z, z ∈ sortS l ↔ z ∈ l := by
  have key : ∀ (l : List Int) (t : List Int), Asc t → Asc (l.foldl (fun t x => insS x t) t) ∧ ∀ z, z ∈ l.foldl (fun t x => insS x t) t ↔ z ∈ t ∨ z ∈ l := by
    intro l
    induction l with
    | nil => intro t h; exact ⟨h, fun z => by simp⟩
    | cons x l ih =>
      intro t h
      obtain ⟨h1, h2⟩ := ih (insS x t) (insS_asc h)
      refine ⟨h1, fun z => ?_⟩
      rw [List.foldl_cons, h2 z, insS_mem, List.mem_cons]
      constructor
      · rintro ((h | h) | h); exact Or.inr (Or.inl h); exact Or.inl h; exact Or.inr (Or.inr h)
      · rintro (h | h | h); exact Or.inl (Or.inr h); exact Or.inl (Or.inl h); exact Or.inr h
  obtain ⟨h1, h2⟩ := key l [] trivial
  exact ⟨h1, fun z => by rw [show sortS l = l.foldl (fun t x => insS x t) [] from rfl, h2 z]; simp⟩
/-- an ascending list is told by its members. -/
theorem asc_eq : ∀ {t s : List Int}, Asc t → Asc s → (∀ z, z ∈ t ↔ z ∈ s) → t = s := by
  intro t
  induction t with
  | nil =>
    intro s _ _ h
    cases s with
    | nil => rfl
    | cons b s => have := (h b).2 List.mem_cons_self; cases this
  | cons a t ih =>
    intro s ht hs h
    cases s with
    | nil => have := (h a).1 List.mem_cons_self; cases this
    | cons b s =>
      have hab : a = b := by
        have h1 := (h a).1 List.mem_cons_self
        have h2 := (h b).2 List.mem_cons_self
        rcases List.mem_cons.1 h1 with e | h1
        · exact e
        · rcases List.mem_cons.1 h2 with e | h2
          · exact e.symm
          · have := hs.lt a h1; have := ht.lt b h2; omega
      subst hab
      rw [ih ht.tail hs.tail (fun z => by
        constructor
        · intro hz
          rcases List.mem_cons.1 ((h z).1 (List.mem_cons_of_mem _ hz)) with rfl | k
          · have := ht.lt z hz; omega
          · exact k
        · intro hz
          rcases List.mem_cons.1 ((h z).2 (List.mem_cons_of_mem _ hz)) with rfl | k
          · have := hs.lt z hz; omega
          · exact k)]

/-! ### neighbors in an ascending list -/
theorem zip_mem : ∀ {E : List Int} {a : Int} {p : Int × Int}, p ∈ List.zip (a :: E) E → p.1 ∈ a :: E ∧ p.2 ∈ E := by
  intro E
  induction E with
  | nil => intro a p h; simp at h
  | cons b E ih =>
    intro a p h
    rw [List.zip_cons_cons] at h
    rcases List.mem_cons.1 h with rfl | h
    · exact ⟨List.mem_cons_self, List.mem_cons_self⟩
    · obtain ⟨h1, h2⟩ := ih h
      exact ⟨List.mem_cons_of_mem _ h1, List.mem_cons_of_mem _ h2⟩
theorem zip_gap : ∀ {E : List Int} {a : Int}, Asc (a :: E) → ∀ p ∈ List.zip (a :: E) E, p.1 < p.2 ∧ ∀ e ∈ a :: E, e ≤ p.1 ∨ p.2 ≤ e := by
  intro E
  induction E with
  | nil => intro a _ p h; simp at h
  | cons b E ih =>
    intro a ha p h
    rw [List.zip_cons_cons] at h
    rcases List.mem_cons.1 h with rfl | hq
    · refine ⟨ha.1, fun e he => ?_⟩
      rcases List.mem_cons.1 he with rfl | he
      · exact Or.inl (Int.le_refl _)
      · rcases List.mem_cons.1 he with rfl | he
        · exact Or.inr (Int.le_refl _)
        · exact Or.inr (by have := ha.2.lt e he; simp only []; omega)
    · obtain ⟨h1, h2⟩ := ih ha.2 p hq
      refine ⟨h1, fun e he => ?_⟩
      rcases List.mem_cons.1 he with rfl | he
      · have := (zip_mem hq).1
        left
        have := ha.lt p.1 this
        omega
      · exact h2 e he
theorem zip_cover : ∀ {E : List Int} {a : Int}, Asc (a :: E) → ∀ {x : Int}, a ≤ x → (∃ e ∈ E, x < e) → ∃ p ∈ List.zip (a :: E) E, p.1 ≤ x ∧ x < p.2 := by
  intro E
  induction E with
  | nil => intro a _ x _ ⟨e, he, _⟩; cases he
  | cons b E ih =>
    intro a ha x hx ⟨e, he, hxe⟩
    rw [List.zip_cons_cons]
    by_cases hb : x < b
    · exact ⟨(a, b), List.mem_cons_self, hx, hb⟩
    · have : ∃ e ∈ E, x < e := by
        rcases List.mem_cons.1 he with rfl | he
        · omega
        · exact ⟨e, he, hxe⟩
      obtain ⟨p, hp, h⟩ := ih ha.2 (by omega) this
      exact ⟨p, List.mem_cons_of_mem _ hp, h⟩

/-! ### the form of a combination -/
def sides (l : List Rc) : List Int := l.flatMap fun r => [r.X0, r.X1]
theorem sides_mem {l : List Rc} {r : Rc} (h : r ∈ l) : r.X0 ∈ sides l ∧ r.X1 ∈ sides l :=
  ⟨List.mem_flatMap.2 ⟨r, h, List.mem_cons_self⟩, List.mem_flatMap.2 ⟨r, h, List.mem_cons_of_mem _ List.mem_cons_self⟩⟩
theorem sides_gr {l : List Rc} (h : ∀ r ∈ l, ROk r) : InG (sides l) := fun z hz => by
  obtain ⟨r, hr, hz⟩ := List.mem_flatMap.1 hz
  have := (h r hr).1
  unfold Span at this
  simp at hz; rcases hz with rfl | rfl <;> omega
theorem colS_same {l : List Rc} {x x' : Int} (h : ∀ r ∈ l, (r.X0 ≤ x ∧ x < r.X1) ↔ (r.X0 ≤ x' ∧ x' < r.X1)) : colS l x = colS l x' := by
  induction l with
  | nil => rfl
  | cons r l ih =>
    have e := ih (fun q hq => h q (List.mem_cons_of_mem _ hq))
    unfold colS
    by_cases c : r.X0 ≤ x ∧ x < r.X1
    · rw [if_pos c, if_pos ((h r List.mem_cons_self).1 c), e]
    · rw [if_neg c, if_neg (fun k => c ((h r List.mem_cons_self).2 k)), e]
def formS (op : Bool → Bool → Bool) (a b : List Rc) : List Slab := growF (fun x => comb op (colS a x) (colS b x)) [] (sortS (sides a ++ sides b))
noncomputable def hasB (l : List Rc) (x y : Int) : Bool := @decide (HasL l x y) (Classical.propDecidable _)
theorem hasB_iff (l : List Rc) (x y : Int) : hasB l x y = true ↔ HasL l x y := by unfold hasB; simp
theorem colS_has {l : List Rc} (hl : ∀ r ∈ l, ROk r) (x y : Int) : inT (colS l x) y = hasB l x y := by
  rw [Bool.eq_iff_iff, hasB_iff]; exact (colS_is hl x).2 y
/-- each combination of two lists of valid rectangles has a form. -/
theorem formS_is {op : Bool → Bool → Bool} (h0 : op false false = false) {a b : List Rc} (ha : ∀ r ∈ a, ROk r) (hb : ∀ r ∈ b, ROk r) :
    SlabsOk (formS op a b) ∧ ∀ x y, HasS (formS op a b) x y ↔ op (hasB a x y) (hasB b x y) = true := by
  have hcol : ∀ x, ColOk (comb op (colS a x) (colS b x)) := fun x => (comb_col h0 (colS_is ha x).1 (colS_is hb x).1).1
  have hin : ∀ x y, inT (comb op (colS a x) (colS b x)) y = op (hasB a x y) (hasB b x y) := fun x y => by
    rw [(comb_col h0 (colS_is ha x).1 (colS_is hb x).1).2 y, colS_has ha, colS_has hb]
  obtain ⟨e1, e2⟩ := sortS_is (sides a ++ sides b)
  unfold formS
  generalize hE : sortS (sides a ++ sides b) = E at *
  have some_side : ∀ x y, op (hasB a x y) (hasB b x y) = true → ∃ r, (r ∈ a ∨ r ∈ b) ∧ r.X0 ≤ x ∧ x < r.X1 := fun x y h => by
    cases k1 : hasB a x y
    · cases k2 : hasB b x y
      · rw [k1, k2, h0] at h; cases h
      · obtain ⟨r, hr, hh⟩ := (hasB_iff b x y).1 k2
        exact ⟨r, Or.inr hr, hh.2.1, hh.2.2.1⟩
    · obtain ⟨r, hr, hh⟩ := (hasB_iff a x y).1 k1
      exact ⟨r, Or.inl hr, hh.2.1, hh.2.2.1⟩
  have both_in : ∀ r, (r ∈ a ∨ r ∈ b) → r.X0 ∈ E ∧ r.X1 ∈ E := fun r hr => by
    rw [e2, e2]
    rcases hr with hr | hr
    · exact ⟨List.mem_append_left _ (sides_mem hr).1, List.mem_append_left _ (sides_mem hr).2⟩
    · exact ⟨List.mem_append_right _ (sides_mem hr).1, List.mem_append_right _ (sides_mem hr).2⟩
  cases E with
  | nil =>
    refine ⟨trivial, fun x y => ⟨fun ⟨s, hs, _⟩ => (by cases hs), fun h => ?_⟩⟩
    obtain ⟨r, hr, _⟩ := some_side x y h
    have := (both_in r hr).1
    cases this
  | cons e E =>
    have hg : InG (e :: E) := fun z hz => by
      rcases List.mem_append.1 ((e2 z).1 hz) with h | h
      · exact sides_gr ha z h
      · exact sides_gr hb z h
    obtain ⟨f1, f2⟩ := grow_form hcol E [] e e1 hg ⟨trivial, fun s hs => by cases hs⟩
    refine ⟨f1, fun x y => ?_⟩
    rw [f2 x y]
    have flat : ∀ p ∈ List.zip (e :: E) E, p.1 ≤ x → x < p.2 → inT (comb op (colS a p.1) (colS b p.1)) y = op (hasB a x y) (hasB b x y) := fun p hp h1 h2 => by
      rw [← hin x y]
      obtain ⟨g1, g2⟩ := zip_gap e1 p hp
      have same : ∀ r, (r ∈ a ∨ r ∈ b) → ((r.X0 ≤ x ∧ x < r.X1) ↔ (r.X0 ≤ p.1 ∧ p.1 < r.X1)) := fun r hr => by
        obtain ⟨q1, q2⟩ := both_in r hr
        have w1 := g2 _ q1; have w2 := g2 _ q2
        omega
      rw [colS_same (l := a) (fun r hr => same r (Or.inl hr)), colS_same (l := b) (fun r hr => same r (Or.inr hr))]
    constructor
    · rintro (⟨s, hs, _⟩ | ⟨p, hp, h1, h2, h3⟩)
      · cases hs
      · rw [flat p hp h1 h2] at h3; exact h3
    · intro h
      right
      obtain ⟨r, hr, r1, r2⟩ := some_side x y h
      obtain ⟨q1, q2⟩ := both_in r hr
      have le0 : e ≤ r.X0 := by
        rcases List.mem_cons.1 q1 with k | k
        · omega
        · have := e1.lt _ k; omega
      have inE : r.X1 ∈ E := by
        rcases List.mem_cons.1 q2 with k | k
        · exfalso; omega
        · exact k
      obtain ⟨p, hp, h1, h2⟩ := zip_cover e1 (x := x) (by omega) ⟨_, inE, r2⟩
      exact ⟨p, hp, h1, h2, by rw [flat p hp h1 h2]; exact h⟩
/-- the form of a list of valid rectangles. -/
def formL (l : List Rc) : List Rc := flatS (formS or l [])
def formO (op : Bool → Bool → Bool) (a b : List Rc) : List Rc := flatS (formS op a b)
theorem formO_is {op : Bool → Bool → Bool} (h0 : op false false = false) {a b : List Rc} (ha : ∀ r ∈ a, ROk r) (hb : ∀ r ∈ b, ROk r) : IsForm (formO op a b) ∧ ∀ x y, HasL (formO op a b) x y ↔ op (hasB a x y) (hasB b x y) = true := by
  obtain ⟨h1, h2⟩ := formS_is h0 ha hb
  exact ⟨⟨_, h1, rfl⟩, fun x y => by unfold formO; rw [flat_has h1, h2]⟩
theorem formL_is {l : List Rc} (hl : ∀ r ∈ l, ROk r) : IsForm (formL l) ∧ ∀ x y, HasL (formL l) x y ↔ HasL l x y := by
  obtain ⟨h1, h2⟩ := formO_is (op := or) rfl hl (b := []) (fun r hr => by cases hr)
  refine ⟨h1, fun x y => ?_⟩
  have e : hasB [] x y = false := by rw [← Bool.not_eq_true, hasB_iff]; rintro ⟨r, hr, _⟩; cases hr
  rw [show formL l = formO or l [] from rfl, h2 x y, e, Bool.or_false, hasB_iff]
theorem rects_ok {x0 x1 : Int} (hx : Span x0 x1) : ∀ t, Even t → Asc t → InG t → ∀ r ∈ rectsOf x0 x1 t, ROk r := by
  intro t he
  refine even_ind (P := fun t => Asc t → InG t → ∀ r ∈ rectsOf x0 x1 t, ROk r) ?_ ?_ t he
  · intro _ _ r hr; cases hr
  · intro a b t _ ih ha hg r hr
    rcases List.mem_cons.1 (show r ∈ ⟨x0, a, x1, b⟩ :: rectsOf x0 x1 t from hr) with rfl | hr
    · exact ⟨hx, (hg a List.mem_cons_self).1, ha.1, (hg b (List.mem_cons_of_mem _ List.mem_cons_self)).2⟩
    · exact ih ha.2.tail (fun z hz => hg z (List.mem_cons_of_mem _ (List.mem_cons_of_mem _ hz))) r hr
theorem form_ok {l : List Rc} (h : IsForm l) : ∀ r ∈ l, ROk r := by
  obtain ⟨S, hS, rfl⟩ := h
  intro r hr
  obtain ⟨s, hs, hr⟩ := List.mem_flatMap.1 hr
  have k := hS.each s hs
  exact rects_ok k.x s.t k.ev k.asc k.gr r hr
/-- a list of valid rectangles is a form exactly if it is its own form. -/
theorem form_self {l : List Rc} (hl : ∀ r ∈ l, ROk r) : IsForm l ↔ formL l = l := by
  obtain ⟨h1, h2⟩ := formL_is hl
  constructor
  · intro h; exact form_eq h1 h h2
  · intro h; rw [← h]; exact h1
/-- two lists with the same cells have one form. -/
theorem form_same {l m : List Rc} (hl : ∀ r ∈ l, ROk r) (hm : ∀ r ∈ m, ROk r) : formL l = formL m ↔ ∀ x y, HasL l x y ↔ HasL m x y := by
  obtain ⟨h1, h2⟩ := formL_is hl
  obtain ⟨k1, k2⟩ := formL_is hm
  constructor
  · intro e x y; rw [← h2 x y, e, k2 x y]
  · intro h; exact form_eq h1 k1 (fun x y => by rw [h2 x y, k2 x y]; exact h x y)
end Go.Proofs.Ytoalfmdjdplbkaa
