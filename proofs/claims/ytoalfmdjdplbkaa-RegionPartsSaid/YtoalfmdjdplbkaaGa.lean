/-
  Plain mathematics of regions (layer 6), 1: columns as ascending lists of the numbers at which they begin and end; slabs; that a set of cells has one form at most. No program in this text.
-/
import Derived.Test.YtoalfmdjdplbkaaEa
set_option linter.unusedVariables false
namespace Go.Proofs.Ytoalfmdjdplbkaa

/-! ### columns: begin and end, one after the other -/
def Asc : List Int → Prop
  | [] => True
  | [_] => True
  | a :: b :: t => a < b ∧ Asc (b :: t)
theorem Asc.tail {a : Int} {t : List Int} (h : Asc (a :: t)) : Asc t := by
  cases t with
  | nil => trivial
  | cons b t => exact h.2
theorem Asc.lt {a : Int} {t : List Int} (h : Asc (a :: t)) : ∀ x ∈ t, a < x := by
  induction t generalizing a with
  | nil => intro x hx; cases hx
  | cons b t ih =>
    intro x hx
    rcases List.mem_cons.1 hx with rfl | hx
    · exact h.1
    · have := ih h.2 x hx; have := h.1; omega
theorem Asc.cons {a : Int} {t : List Int} (h : Asc t) (ha : ∀ x ∈ t, a < x) : Asc (a :: t) := by
  cases t with
  | nil => trivial
  | cons b t => exact ⟨ha b List.mem_cons_self, h⟩
/-- how many numbers of the list are at most y. -/
def cntT (t : List Int) (y : Int) : Nat := (t.filter fun a => decide (a ≤ y)).length
/-- y lies in the column. -/
def inT (t : List Int) (y : Int) : Bool := cntT t y % 2 == 1
theorem cntT_nil (y : Int) : cntT [] y = 0 := rfl
theorem cntT_cons (a : Int) (t : List Int) (y : Int) : cntT (a :: t) y = (if a ≤ y then 1 else 0) + cntT t y := by
  unfold cntT
  by_cases h : a ≤ y
  · simp [h]; omega
  · simp [h]
theorem cntT_zero {t : List Int} {y : Int} (h : ∀ x ∈ t, y < x) : cntT t y = 0 := by
  unfold cntT
  rw [List.length_eq_zero_iff, List.filter_eq_nil_iff]
  intro a ha
  have := h a ha
  simp only [decide_eq_true_eq]; omega
theorem cntT_all {t : List Int} {y : Int} (h : ∀ x ∈ t, x ≤ y) : cntT t y = t.length := by
  unfold cntT
  rw [List.filter_eq_self.2 (fun a ha => by simpa using h a ha)]
theorem inT_below {t : List Int} {y : Int} (h : ∀ x ∈ t, y < x) : inT t y = false := by unfold inT; rw [cntT_zero h]; rfl
theorem inT_cons {a : Int} {t : List Int} {y : Int} : inT (a :: t) y = (decide (a ≤ y) != inT t y) := by
  unfold inT
  rw [cntT_cons]
  by_cases h : a ≤ y
  · simp only [h, if_true, decide_true]
    rw [Bool.eq_iff_iff]
    simp only [beq_iff_eq, bne_iff_ne, ne_eq]
    have : cntT t y % 2 = 0 ∨ cntT t y % 2 = 1 := by omega
    rcases this with k | k
    · rw [k]; simp; omega
    · rw [k]; simp; omega
  · simp [h]
/-- a column is written in one way at most. -/
theorem col_eq : ∀ {t s : List Int}, Asc t → Asc s → (∀ y, inT t y = inT s y) → t = s := by
  intro t
  induction t with
  | nil =>
    intro s _ hs h
    cases s with
    | nil => rfl
    | cons b s =>
      have := h b
      rw [inT_cons, inT_below (t := s) hs.lt] at this
      simp [inT, cntT] at this
  | cons a t ih =>
    intro s ht hs h
    cases s with
    | nil =>
      have := h a
      rw [inT_cons, inT_below (t := t) ht.lt] at this
      simp [inT, cntT] at this
    | cons b s =>
      have hab : a = b := by
        rcases Int.lt_trichotomy a b with k | k | k
        · exfalso
          have := h a
          rw [inT_cons, inT_below (t := t) ht.lt, inT_below (t := b :: s) (fun x hx => by rcases List.mem_cons.1 hx with rfl | hx; exact k; have := hs.lt x hx; omega)] at this
          simp at this
        · exact k
        · exfalso
          have := h b
          rw [inT_cons (a := b), inT_below (t := s) hs.lt, inT_below (t := a :: t) (fun x hx => by rcases List.mem_cons.1 hx with rfl | hx; exact k; have := ht.lt x hx; omega)] at this
          simp at this
      subst hab
      rw [ih ht.tail hs.tail (fun y => by
        have := h y
        rw [inT_cons, inT_cons] at this
        cases h1 : decide (a ≤ y) <;> simp only [h1] at this
        · have h2 : ¬ a ≤ y := by simpa using h1
          rw [inT_below (fun x hx => by have := ht.lt x hx; omega), inT_below (fun x hx => by have := hs.lt x hx; omega)]
        · cases h3 : inT t y <;> cases h4 : inT s y <;> rw [h3, h4] at this <;> simp at this <;> rfl)]
theorem col_some {t : List Int} (h : Asc t) (hne : t ≠ []) : ∃ y ∈ t, inT t y = true := by
  cases t with
  | nil => exact absurd rfl hne
  | cons a t => exact ⟨a, List.mem_cons_self, by rw [inT_cons, inT_below h.lt]; simp⟩

/-! ### rectangles of a slab -/
def twos : List Int → List (Int × Int)
  | a :: b :: t => (a, b) :: twos t
  | _ => []
def rectsOf (x0 x1 : Int) (t : List Int) : List Rc := (twos t).map fun p => ⟨x0, p.1, x1, p.2⟩
def HasL (l : List Rc) (x y : Int) : Prop := ∃ r ∈ l, HasR r x y
def Even (t : List Int) : Prop := t.length % 2 = 0
theorem even_ind {P : List Int → Prop} (h0 : P []) (h2 : ∀ a b t, Even t → P t → P (a :: b :: t)) : ∀ t, Even t → P t := by
  have key : ∀ n t, t.length ≤ n → Even t → P t := by
    intro n
    induction n with
    | zero => intro t hl _; rw [List.length_eq_zero_iff.1 (by omega : t.length = 0)]; exact h0
    | succ n ih =>
      intro t hl he
      match t with
      | [] => exact h0
      | [a] => exact absurd he (by unfold Even; simp)
      | a :: b :: t =>
        have e : Even t := by unfold Even at he ⊢; simp at he; omega
        exact h2 a b t e (ih t (by simp at hl; omega) e)
  intro t; exact key t.length t (Nat.le_refl _)
theorem inT_two {a b : Int} {t : List Int} (h : Asc (a :: b :: t)) (y : Int) : inT (a :: b :: t) y = true ↔ (a ≤ y ∧ y < b) ∨ inT t y = true := by
  have hb := h.2.lt
  rw [inT_cons, inT_cons]
  by_cases h1 : a ≤ y
  · by_cases h2 : b ≤ y
    · simp [h1, h2, show ¬ y < b by omega]
    · have := inT_below (t := t) (y := y) (fun x hx => by have := hb x hx; omega)
      rw [this]; simp [h1, h2, show y < b by omega]
  · have := h.1
    have h2 : ¬ b ≤ y := by omega
    simp [h1, h2]
/-- within the grid. -/
def InG (t : List Int) : Prop := ∀ x ∈ t, 0 ≤ x ∧ x ≤ 1048576
theorem rects_has {x0 x1 : Int} (hx : Span x0 x1) : ∀ t, Even t → Asc t → InG t → ∀ x y, HasL (rectsOf x0 x1 t) x y ↔ x0 ≤ x ∧ x < x1 ∧ inT t y = true := by
  intro t he
  refine even_ind (P := fun t => Asc t → InG t → ∀ x y, HasL (rectsOf x0 x1 t) x y ↔ x0 ≤ x ∧ x < x1 ∧ inT t y = true) ?_ ?_ t he
  · intro _ _ x y
    constructor
    · rintro ⟨r, hr, _⟩; cases hr
    · rintro ⟨_, _, h⟩; simp [inT, cntT] at h
  · intro a b t _ ih ha hg x y
    have ht : Asc t := ha.2.tail
    have e : rectsOf x0 x1 (a :: b :: t) = ⟨x0, a, x1, b⟩ :: rectsOf x0 x1 t := rfl
    have hga := hg a List.mem_cons_self
    have hgb := hg b (List.mem_cons_of_mem _ List.mem_cons_self)
    have hs : ROk ⟨x0, a, x1, b⟩ := ⟨hx, hga.1, ha.1, hgb.2⟩
    have ih2 := ih ht (fun x hx => hg x (List.mem_cons_of_mem _ (List.mem_cons_of_mem _ hx))) x y
    rw [e, inT_two ha]
    constructor
    · rintro ⟨r, hr, hh⟩
      rcases List.mem_cons.1 hr with rfl | hr
      · exact ⟨hh.2.1, hh.2.2.1, Or.inl ⟨hh.2.2.2.1, hh.2.2.2.2⟩⟩
      · obtain ⟨h1, h2, h3⟩ := ih2.1 ⟨r, hr, hh⟩
        exact ⟨h1, h2, Or.inr h3⟩
    · rintro ⟨h1, h2, h3 | h3⟩
      · exact ⟨_, List.mem_cons_self, hs, h1, h2, h3.1, h3.2⟩
      · obtain ⟨r, hr, hh⟩ := ih2.2 ⟨h1, h2, h3⟩
        exact ⟨r, List.mem_cons_of_mem _ hr, hh⟩

/-! ### slabs -/
structure Slab where
  x0 : Int
  x1 : Int
  t : List Int
structure SlabOk (s : Slab) : Prop where
  x : Span s.x0 s.x1
  ne : s.t ≠ []
  asc : Asc s.t
  ev : Even s.t
  gr : InG s.t
/-- one slab behind the other; where they meet their columns differ. -/
def Behind (s u : Slab) : Prop := s.x1 ≤ u.x0 ∧ (s.x1 = u.x0 → s.t ≠ u.t)
def SlabsOk : List Slab → Prop
  | [] => True
  | [s] => SlabOk s
  | s :: u :: S => SlabOk s ∧ Behind s u ∧ SlabsOk (u :: S)
theorem SlabsOk.head {s : Slab} {S : List Slab} (h : SlabsOk (s :: S)) : SlabOk s := by
  cases S with
  | nil => exact h
  | cons u S => exact h.1
theorem SlabsOk.tail {s : Slab} {S : List Slab} (h : SlabsOk (s :: S)) : SlabsOk S := by
  cases S with
  | nil => trivial
  | cons u S => exact h.2.2
theorem SlabsOk.after {s : Slab} {S : List Slab} (h : SlabsOk (s :: S)) : ∀ u ∈ S, s.x1 ≤ u.x0 := by
  induction S generalizing s with
  | nil => intro u hu; cases hu
  | cons v S ih =>
    intro u hu
    rcases List.mem_cons.1 hu with rfl | hu
    · exact h.2.1.1
    · have h1 := ih h.2.2 u hu
      have h2 := h.2.1.1
      have h3 := h.2.2.head.x.2.1
      omega
def flatS (S : List Slab) : List Rc := S.flatMap fun s => rectsOf s.x0 s.x1 s.t
/-- a cell of some slabs. -/
def HasS (S : List Slab) (x y : Int) : Prop := ∃ s ∈ S, s.x0 ≤ x ∧ x < s.x1 ∧ inT s.t y = true
theorem SlabsOk.each : ∀ {S : List Slab}, SlabsOk S → ∀ s ∈ S, SlabOk s := by
  intro S
  induction S with
  | nil => intro _ s hs; cases hs
  | cons u S ih =>
    intro h s hs
    rcases List.mem_cons.1 hs with rfl | hs
    · exact h.head
    · exact ih h.tail s hs
theorem flat_has {S : List Slab} (h : SlabsOk S) (x y : Int) : HasL (flatS S) x y ↔ HasS S x y := by
  unfold flatS HasL
  constructor
  · rintro ⟨r, hr, hh⟩
    obtain ⟨s, hs, hr⟩ := List.mem_flatMap.1 hr
    have k := h.each s hs
    obtain ⟨h1, h2, h3⟩ := (rects_has k.x s.t k.ev k.asc k.gr x y).1 ⟨r, hr, hh⟩
    exact ⟨s, hs, h1, h2, h3⟩
  · rintro ⟨s, hs, h1, h2, h3⟩
    have k := h.each s hs
    obtain ⟨r, hr, hh⟩ := (rects_has k.x s.t k.ev k.asc k.gr x y).2 ⟨h1, h2, h3⟩
    exact ⟨r, List.mem_flatMap.2 ⟨s, hs, hr⟩, hh⟩
/-- the column of the first slab. -/
theorem slab_col {s : Slab} {S : List Slab} (h : SlabsOk (s :: S)) {x : Int} (h1 : x < s.x1) (y : Int) : HasS (s :: S) x y ↔ s.x0 ≤ x ∧ inT s.t y = true := by
  constructor
  · rintro ⟨u, hu, h3, h4, h5⟩
    rcases List.mem_cons.1 hu with rfl | hu
    · exact ⟨h3, h5⟩
    · have := h.after u hu; omega
  · rintro ⟨h3, h5⟩; exact ⟨s, List.mem_cons_self, h3, h1, h5⟩
theorem slab_rest {s : Slab} {S : List Slab} (h : SlabsOk (s :: S)) {x : Int} (h1 : s.x1 ≤ x) (y : Int) : HasS (s :: S) x y ↔ HasS S x y := by
  constructor
  · rintro ⟨u, hu, h3, h4, h5⟩
    rcases List.mem_cons.1 hu with rfl | hu
    · omega
    · exact ⟨u, hu, h3, h4, h5⟩
  · rintro ⟨u, hu, h⟩; exact ⟨u, List.mem_cons_of_mem _ hu, h⟩
theorem slab_none {s : Slab} {S : List Slab} (h : SlabsOk (s :: S)) {x : Int} (h1 : x < s.x1) (y : Int) : ¬ HasS S x y := by
  rintro ⟨u, hu, h3, h4, h5⟩
  have := h.after u hu; omega

/-- a set of cells has one form at most, told by slabs. -/
theorem slabs_eq : ∀ {S T : List Slab}, SlabsOk S → SlabsOk T → (∀ x y, HasS S x y ↔ HasS T x y) → S = T := by
  intro S
  induction S with
  | nil =>
    intro T _ hT h
    cases T with
    | nil => rfl
    | cons u T =>
      exfalso
      have k := hT.head
      obtain ⟨y, _, hy⟩ := col_some k.asc k.ne
      obtain ⟨_, hs, _⟩ := (h u.x0 y).2 ((slab_col hT k.x.2.1 y).2 ⟨Int.le_refl _, hy⟩)
      cases hs
  | cons s S ih =>
    intro T hS hT h
    cases T with
    | nil =>
      exfalso
      have k := hS.head
      obtain ⟨y, _, hy⟩ := col_some k.asc k.ne
      obtain ⟨_, hs, _⟩ := (h s.x0 y).1 ((slab_col hS k.x.2.1 y).2 ⟨Int.le_refl _, hy⟩)
      cases hs
    | cons u T =>
      have ks := hS.head; have ku := hT.head
      have a1 := ks.x.2.1; have a2 := ku.x.2.1
      -- the first columns
      have e0 : s.x0 = u.x0 := by
        rcases Int.lt_trichotomy s.x0 u.x0 with k | k | k
        · exfalso
          obtain ⟨y, _, hy⟩ := col_some ks.asc ks.ne
          have := (h s.x0 y).1 ((slab_col hS a1 y).2 ⟨Int.le_refl _, hy⟩)
          have := (slab_col hT (by omega) y).1 this
          omega
        · exact k
        · exfalso
          obtain ⟨y, _, hy⟩ := col_some ku.asc ku.ne
          have := (h u.x0 y).2 ((slab_col hT a2 y).2 ⟨Int.le_refl _, hy⟩)
          have := (slab_col hS (by omega) y).1 this
          omega
      have et : s.t = u.t := col_eq ks.asc ku.asc (fun y => by
        rw [Bool.eq_iff_iff]
        have h1 := slab_col hS a1 y
        have h2 := slab_col hT (x := s.x0) (by omega) y
        have h3 := h s.x0 y
        constructor
        · intro q; exact (h2.1 (h3.1 (h1.2 ⟨Int.le_refl _, q⟩))).2
        · intro q; exact (h1.1 (h3.2 (h2.2 ⟨by omega, q⟩))).2)
      -- where one ends first, its next slab would have the same column
      have half : ∀ {s u : Slab} {S T : List Slab}, SlabsOk (s :: S) → SlabsOk (u :: T) → (∀ x y, HasS (s :: S) x y ↔ HasS (u :: T) x y) → s.x0 = u.x0 → s.t = u.t → ¬ s.x1 < u.x1 := by
        intro s u S T hS hT h e0 et hlt
        have ks := hS.head; have ku := hT.head
        have a1 := ks.x.2.1
        have col : ∀ y, HasS S s.x1 y ↔ inT s.t y = true := fun y => by
          rw [← slab_rest hS (Int.le_refl _) y, h s.x1 y, slab_col hT hlt y, et]
          exact ⟨fun q => q.2, fun q => ⟨by omega, q⟩⟩
        obtain ⟨y, _, hy⟩ := col_some ks.asc ks.ne
        obtain ⟨v, hv, v1, v2, v3⟩ := (col y).2 hy
        cases S with
        | nil => cases hv
        | cons z S =>
          have hz := hS.2.1
          have kz := hS.2.2.head
          have ez : z.x0 = s.x1 := by
            rcases List.mem_cons.1 hv with rfl | hv
            · have := hz.1; omega
            · have := hS.2.2.after v hv; have := kz.x.2.1; have := hz.1; omega
          refine hz.2 ez.symm (col_eq ks.asc kz.asc (fun y => ?_))
          rw [Bool.eq_iff_iff, ← col y]
          have := slab_col hS.2.2 (x := s.x1) (by have := kz.x.2.1; omega) y
          rw [this]
          exact ⟨fun q => q.2, fun q => ⟨by omega, q⟩⟩
      have e1 : s.x1 = u.x1 := by
        have h1 := half hS hT h e0 et
        have h2 := half hT hS (fun x y => (h x y).symm) e0.symm et.symm
        omega
      have es : s = u := by cases s; cases u; simp only [] at e0 e1 et; subst e0; subst e1; subst et; rfl
      subst es
      rw [ih hS.tail hT.tail (fun x y => by
        by_cases c : s.x1 ≤ x
        · rw [← slab_rest hS c y, ← slab_rest hT c y]; exact h x y
        · exact ⟨fun q => absurd q (slab_none hS (by omega) y), fun q => absurd q (slab_none hT (by omega) y)⟩)]

/-- a list of rectangles that is a form. -/
def IsForm (l : List Rc) : Prop := ∃ S, SlabsOk S ∧ l = flatS S
/-- a set of cells has one form at most. -/
theorem form_eq {l m : List Rc} (hl : IsForm l) (hm : IsForm m) (h : ∀ x y, HasL l x y ↔ HasL m x y) : l = m := by
  obtain ⟨S, hS, rfl⟩ := hl
  obtain ⟨T, hT, rfl⟩ := hm
  rw [slabs_eq hS hT (fun x y => by rw [← flat_has hS, ← flat_has hT]; exact h x y)]
end Go.Proofs.Ytoalfmdjdplbkaa
