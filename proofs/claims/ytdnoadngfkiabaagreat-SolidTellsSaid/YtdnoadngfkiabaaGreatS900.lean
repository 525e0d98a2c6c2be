/-
  Plain mathematics of rectangles of cells (layer 5), as functions on integers, and what the statements say of them. No program in this text.
  Plain mathematics of regions (layer 6), 1: columns as ascending lists of the numbers at which they begin and end; slabs; that a set of cells has one form at most. No program in this text.
  Plain mathematics of regions (2): combining columns; growing a form slab by slab.
  Plain mathematics of regions (3): the edges of lists of rectangles; the form of a combination of two lists, that there is one.
  Plain mathematics of regions (4): the number of cells of a form; unions and intersections add up.
  What contracts over rectangles and lists of them say, for seats without layer 5's texts (as Ec, Eh, Ei, Eq hold it); lists of ints.
-/
import Derived.Lib.Hide
import Derived.Test.YtdnoadngfkiabaaGreatProg
import Derived.WalkKit
import Derived.WalkLawsBesides
import Derived.WalkSpells
import Derived.Outline
import Derived.BigQuiet
import Derived.Deep.QuietTactic
import Derived.OwnWalk
import Derived.Deep.OwnRows
import Derived.Laws.OwnMore
import Derived.IntWalk
set_option linter.unusedVariables false
set_option maxRecDepth 100000
namespace Go.Proofs.YtdnoadngfkiabaaGreat

structure Rc where
  X0 : Int
  Y0 : Int
  X1 : Int
  Y1 : Int
theorem Rc.eq {a b : Rc} (h0 : a.X0 = b.X0) (h1 : a.Y0 = b.Y0) (h2 : a.X1 = b.X1) (h3 : a.Y1 = b.Y1) : a = b := by
  cases a; cases b; simp at h0 h1 h2 h3; subst h0; subst h1; subst h2; subst h3; rfl
instance : DecidableEq Rc := fun a b => decidable_of_iff (a.X0 = b.X0 ∧ a.Y0 = b.Y0 ∧ a.X1 = b.X1 ∧ a.Y1 = b.Y1) ⟨fun h => Rc.eq h.1 h.2.1 h.2.2.1 h.2.2.2, fun h => by subst h; exact ⟨rfl, rfl, rfl, rfl⟩⟩

def zR : Rc := ⟨0, 0, 0, 0⟩
def Span (a b : Int) : Prop := 0 ≤ a ∧ a < b ∧ b ≤ 1048576
def ROk (r : Rc) : Prop := Span r.X0 r.X1 ∧ Span r.Y0 r.Y1
instance (r : Rc) : Decidable (ROk r) := by unfold ROk Span; infer_instance
def rokB (r : Rc) : Bool := decide (ROk r)
theorem rokB_iff (r : Rc) : rokB r = true ↔ ROk r := by simp [rokB]
theorem rokB_no (r : Rc) : rokB r = false ↔ ¬ ROk r := by simp [rokB]
def areaR (r : Rc) : Int := if ROk r then (r.X1 - r.X0) * (r.Y1 - r.Y0) else 0
def HasR (r : Rc) (x y : Int) : Prop := ROk r ∧ r.X0 ≤ x ∧ x < r.X1 ∧ r.Y0 ≤ y ∧ y < r.Y1
instance (r : Rc) (x y : Int) : Decidable (HasR r x y) := by unfold HasR; infer_instance
def InsideR (a b : Rc) : Prop := ROk a ∧ ROk b ∧ b.X0 ≤ a.X0 ∧ a.X1 ≤ b.X1 ∧ b.Y0 ≤ a.Y0 ∧ a.Y1 ≤ b.Y1
instance (a b : Rc) : Decidable (InsideR a b) := by unfold InsideR; infer_instance
def meetR (a b : Rc) : Rc := ⟨max a.X0 b.X0, max a.Y0 b.Y0, min a.X1 b.X1, min a.Y1 b.Y1⟩
def MeetR (a b : Rc) : Prop := ROk a ∧ ROk b ∧ ROk (meetR a b)
instance (a b : Rc) : Decidable (MeetR a b) := by unfold MeetR; infer_instance
/-- the distance between the nearest members of two intervals. -/
def apartI (a b c d : Int) : Int := if b ≤ c then c - b + 1 else if d ≤ a then a - d + 1 else 0
def TouchR (a b : Rc) : Prop := ROk a ∧ ROk b ∧ apartI a.X0 a.X1 b.X0 b.X1 + apartI a.Y0 a.Y1 b.Y0 b.Y1 = 1
instance (a b : Rc) : Decidable (TouchR a b) := by unfold TouchR; infer_instance
def grownR (r : Rc) (d : Int) : Rc := ⟨max 0 (r.X0 - d), max 0 (r.Y0 - d), min 1048576 (r.X1 + d), min 1048576 (r.Y1 + d)⟩
def shrunkR (r : Rc) (d : Int) : Rc := ⟨r.X0 + d, r.Y0 + d, r.X1 - d, r.Y1 - d⟩
def shrinkR (r : Rc) (d : Int) : Rc × Bool := if ROk r ∧ 0 ≤ d ∧ ROk (shrunkR r d) then (shrunkR r d, true) else (zR, false)

theorem grown_ok {r : Rc} {d : Int} (h : ROk r) (hd : 0 ≤ d) : ROk (grownR r d) := by
  unfold ROk Span at h ⊢; simp only [grownR]; omega
/- RectGap -/
/- RectGrows -/
/- RectMeets -/
theorem area_nn (r : Rc) : 0 ≤ areaR r := by
  unfold areaR; split
  · rename_i h; unfold ROk Span at h; exact Int.mul_nonneg (by omega) (by omega)
  · omega
theorem area_bd (r : Rc) : areaR r ≤ 1099511627776 := by
  unfold areaR; split
  · rename_i h
    unfold ROk Span at h
    have h1 : r.X1 - r.X0 ≤ 1048576 := by omega
    have h2 : r.Y1 - r.Y0 ≤ 1048576 := by omega
    have := Int.mul_le_mul h1 h2 (by omega) (by omega)
    omega
  · omega
/-- the least rectangle around two. -/
def hullR (a b : Rc) : Rc := ⟨min a.X0 b.X0, min a.Y0 b.Y0, max a.X1 b.X1, max a.Y1 b.Y1⟩
theorem hull_ok {a b : Rc} (ha : ROk a) (hb : ROk b) : ROk (hullR a b) := by unfold ROk Span at *; simp only [hullR]; omega
theorem area_ok {r : Rc} (h : ROk r) : areaR r = (r.X1 - r.X0) * (r.Y1 - r.Y0) := by unfold areaR; rw [if_pos h]
theorem area_no {r : Rc} (h : ¬ ROk r) : areaR r = 0 := by unfold areaR; rw [if_neg h]

/- RectBounds -/
def boundsStep (s : Rc × Bool) (r : Rc) : Rc × Bool := if ROk r then (if s.2 then (hullR s.1 r, true) else (r, true)) else s
def boundsR (l : List Rc) : Rc × Bool := l.foldl boundsStep (zR, false)
theorem bounds_snoc (l : List Rc) (r : Rc) : boundsR (l ++ [r]) = boundsStep (boundsR l) r := by simp [boundsR, List.foldl_append]
end Go.Proofs.YtdnoadngfkiabaaGreat
namespace Go.Proofs.YtdnoadngfkiabaaGreat

/-! ### columns: begin and end, one after the other -/
def Asc : List Int → Prop
  | [] => True
  | [_] => True
  | a :: b :: t => a < b ∧ Asc (b :: t)
theorem Asc.tail {a : Int} {t : List Int} (h : Asc (a :: t)) : Asc t := by
  cases t with
  | nil => trivial
  | cons b t => exact h.2
theorem Asc.lt {a : Int} {t : List Int} (h : Asc (a :: t)) : ∀ x ∈ t, a < x := by
  induction t generalizing a with
  | nil => intro x hx; cases hx
  | cons b t ih =>
    intro x hx
    rcases List.mem_cons.1 hx with rfl | hx
    · exact h.1
    · have := ih h.2 x hx; have := h.1; omega
theorem Asc.cons {a : Int} {t : List Int} (h : Asc t) (ha : ∀ x ∈ t, a < x) : Asc (a :: t) := by
  cases t with
  | nil => trivial
  | cons b t => exact ⟨ha b List.mem_cons_self, h⟩
/-- how many numbers of the list are at most y. -/
def cntT (t : List Int) (y : Int) : Nat := (t.filter fun a => decide (a ≤ y)).length
/-- y lies in the column. -/
def inT (t : List Int) (y : Int) : Bool := cntT t y % 2 == 1
theorem cntT_cons (a : Int) (t : List Int) (y : Int) : cntT (a :: t) y = (if a ≤ y then 1 else 0) + cntT t y := by
  unfold cntT
  by_cases h : a ≤ y
  · simp [h]; omega
  · simp [h]
theorem cntT_zero {t : List Int} {y : Int} (h : ∀ x ∈ t, y < x) : cntT t y = 0 := by
  unfold cntT
  rw [List.length_eq_zero_iff, List.filter_eq_nil_iff]
  intro a ha
  have := h a ha
  simp only [decide_eq_true_eq]; omega
theorem cntT_all {t : List Int} {y : Int} (h : ∀ x ∈ t, x ≤ y) : cntT t y = t.length := by
  unfold cntT
  rw [List.filter_eq_self.2 (fun a ha => by simpa using h a ha)]
theorem inT_below {t : List Int} {y : Int} (h : ∀ x ∈ t, y < x) : inT t y = false := by unfold inT; rw [cntT_zero h]; rfl
theorem inT_cons {a : Int} {t : List Int} {y : Int} : inT (a :: t) y = (decide (a ≤ y) != inT t y) := by
  unfold inT
  rw [cntT_cons]
  by_cases h : a ≤ y
  · simp only [h, if_true, decide_true]
    rw [Bool.eq_iff_iff]
    simp only [beq_iff_eq, bne_iff_ne, ne_eq]
    have : cntT t y % 2 = 0 ∨ cntT t y % 2 = 1 := by omega
    rcases this with k | k
    · rw [k]; simp; omega
    · rw [k]; simp; omega
  · simp [h]
/-- a column is written in one way at most. -/
theorem col_eq : ∀ {t s : List Int}, Asc t → Asc s → (∀ y, inT t y = inT s y) → t = s := by
  intro t
  induction t with
  | nil =>
    intro s _ hs h
    cases s with
    | nil => rfl
    | cons b s =>
      have := h b
      rw [inT_cons, inT_below (t := s) hs.lt] at this
      simp [inT, cntT] at this
  | cons a t ih =>
    intro s ht hs h
    cases s with
    | nil =>
      have := h a
      rw [inT_cons, inT_below (t := t) ht.lt] at this
      simp [inT, cntT] at this
    | cons b s =>
      have hab : a = b := by
        rcases Int.lt_trichotomy a b with k | k | k
        · exfalso
          have := h a
          rw [inT_cons, inT_below (t := t) ht.lt, inT_below (t := b :: s) (fun x hx => by rcases List.mem_cons.1 hx with rfl | hx; exact k; have := hs.lt x hx; omega)] at this
          simp at this
        · exact k
        · exfalso
          have := h b
          rw [inT_cons (a := b), inT_below (t := s) hs.lt, inT_below (t := a :: t) (fun x hx => by rcases List.mem_cons.1 hx with rfl | hx; exact k; have := ht.lt x hx; omega)] at this
          simp at this
      subst hab
      rw [ih ht.tail hs.tail (fun y => by
        have := h y
        rw [inT_cons, inT_cons] at this
        cases h1 : decide (a ≤ y) <;> simp only [h1] at this
        · have h2 : ¬ a ≤ y := by simpa using h1
          rw [inT_below (fun x hx => by have := ht.lt x hx; omega), inT_below (fun x hx => by have := hs.lt x hx; omega)]
        · cases h3 : inT t y <;> cases h4 : inT s y <;> rw [h3, h4] at this <;> simp at this <;> rfl)]
theorem col_some {t : List Int} (h : Asc t) (hne : t ≠ []) : ∃ y ∈ t, inT t y = true := by
  cases t with
  | nil => exact absurd rfl hne
  | cons a t => exact ⟨a, List.mem_cons_self, by rw [inT_cons, inT_below h.lt]; simp⟩

/-! ### rectangles of a slab -/
def twos : List Int → List (Int × Int)
  | a :: b :: t => (a, b) :: twos t
  | _ => []
def rectsOf (x0 x1 : Int) (t : List Int) : List Rc := (twos t).map fun p => ⟨x0, p.1, x1, p.2⟩
def HasL (l : List Rc) (x y : Int) : Prop := ∃ r ∈ l, HasR r x y
def Even (t : List Int) : Prop := t.length % 2 = 0
theorem even_ind {P : List Int → Prop} (h0 : P []) (h2 : ∀ a b t, Even t → P t → P (a :: b :: t)) : ∀ t, Even t → P t := by
  have key : ∀ n t, t.length ≤ n → Even t → P t := by
    intro n
    induction n with
    | zero => intro t hl _; rw [List.length_eq_zero_iff.1 (by omega : t.length = 0)]; exact h0
    | succ n ih =>
      intro t hl he
      match t with
      | [] => exact h0
      | [a] => exact absurd he (by unfold Even; simp)
      | a :: b :: t =>
        have e : Even t := by unfold Even at he ⊢; simp at he; omega
        exact h2 a b t e (ih t (by simp at hl; omega) e)
  intro t; exact key t.length t (Nat.le_refl _)
theorem inT_two {a b : Int} {t : List Int} (h : Asc (a :: b :: t)) (y : Int) : inT (a :: b :: t) y = true ↔ (a ≤ y ∧ y < b) ∨ inT t y = true := by
  have hb := h.2.lt
  rw [inT_cons, inT_cons]
  by_cases h1 : a ≤ y
  · by_cases h2 : b ≤ y
    · simp [h1, h2, show ¬ y < b by omega]
    · have := inT_below (t := t) (y := y) (fun x hx => by have := hb x hx; omega)
      rw [this]; simp [h1, h2, show y < b by omega]
  · have := h.1
    have h2 : ¬ b ≤ y := by omega
    simp [h1, h2]
/-- within the grid. -/
def InG (t : List Int) : Prop := ∀ x ∈ t, 0 ≤ x ∧ x ≤ 1048576
theorem rects_has {x0 x1 : Int} (hx : Span x0 x1) : ∀ t, Even t → Asc t → InG t → ∀ x y, HasL (rectsOf x0 x1 t) x y ↔ x0 ≤ x ∧ x < x1 ∧ inT t y = true := by
  intro t he
  refine even_ind (P := fun t => Asc t → InG t → ∀ x y, HasL (rectsOf x0 x1 t) x y ↔ x0 ≤ x ∧ x < x1 ∧ inT t y = true) ?_ ?_ t he
  · intro _ _ x y
    constructor
    · rintro ⟨r, hr, _⟩; cases hr
    · rintro ⟨_, _, h⟩; simp [inT, cntT] at h
  · intro a b t _ ih ha hg x y
    have ht : Asc t := ha.2.tail
    have e : rectsOf x0 x1 (a :: b :: t) = ⟨x0, a, x1, b⟩ :: rectsOf x0 x1 t := rfl
    have hga := hg a List.mem_cons_self
    have hgb := hg b (List.mem_cons_of_mem _ List.mem_cons_self)
    have hs : ROk ⟨x0, a, x1, b⟩ := ⟨hx, hga.1, ha.1, hgb.2⟩
    have ih2 := ih ht (fun x hx => hg x (List.mem_cons_of_mem _ (List.mem_cons_of_mem _ hx))) x y
    rw [e, inT_two ha]
    constructor
    · rintro ⟨r, hr, hh⟩
      rcases List.mem_cons.1 hr with rfl | hr
      · exact ⟨hh.2.1, hh.2.2.1, Or.inl ⟨hh.2.2.2.1, hh.2.2.2.2⟩⟩
      · obtain ⟨h1, h2, h3⟩ := ih2.1 ⟨r, hr, hh⟩
        exact ⟨h1, h2, Or.inr h3⟩
    · rintro ⟨h1, h2, h3 | h3⟩
      · exact ⟨_, List.mem_cons_self, hs, h1, h2, h3.1, h3.2⟩
      · obtain ⟨r, hr, hh⟩ := ih2.2 ⟨h1, h2, h3⟩
        exact ⟨r, List.mem_cons_of_mem _ hr, hh⟩

/-! ### slabs -/
structure Slab where
  x0 : Int
  x1 : Int
  t : List Int
structure SlabOk (s : Slab) : Prop where
  x : Span s.x0 s.x1
  ne : s.t ≠ []
  asc : Asc s.t
  ev : Even s.t
  gr : InG s.t
/-- one slab behind the other; where they meet their columns differ. -/
def Behind (s u : Slab) : Prop := s.x1 ≤ u.x0 ∧ (s.x1 = u.x0 → s.t ≠ u.t)
def SlabsOk : List Slab → Prop
  | [] => True
  | [s] => SlabOk s
  | s :: u :: S => SlabOk s ∧ Behind s u ∧ SlabsOk (u :: S)
theorem SlabsOk.head {s : Slab} {S : List Slab} (h : SlabsOk (s :: S)) : SlabOk s := by
  cases S with
  | nil => exact h
  | cons u S => exact h.1
theorem SlabsOk.tail {s : Slab} {S : List Slab} (h : SlabsOk (s :: S)) : SlabsOk S := by
  cases S with
  | nil => trivial
  | cons u S => exact h.2.2
theorem SlabsOk.after {s : Slab} {S : List Slab} (h : SlabsOk (s :: S)) : ∀ u ∈ S, s.x1 ≤ u.x0 := by
  induction S generalizing s with
  | nil => intro u hu; cases hu
  | cons v S ih =>
    intro u hu
    rcases List.mem_cons.1 hu with rfl | hu
    · exact h.2.1.1
    · have h1 := ih h.2.2 u hu
      have h2 := h.2.1.1
      have h3 := h.2.2.head.x.2.1
      omega
def flatS (S : List Slab) : List Rc := S.flatMap fun s => rectsOf s.x0 s.x1 s.t
/-- a cell of some slabs. -/
def HasS (S : List Slab) (x y : Int) : Prop := ∃ s ∈ S, s.x0 ≤ x ∧ x < s.x1 ∧ inT s.t y = true
theorem SlabsOk.each : ∀ {S : List Slab}, SlabsOk S → ∀ s ∈ S, SlabOk s := by
  intro S
  induction S with
  | nil => intro _ s hs; cases hs
  | cons u S ih =>
    intro h s hs
    rcases List.mem_cons.1 hs with rfl | hs
    · exact h.head
    · exact ih h.tail s hs
theorem flat_has {S : List Slab} (h : SlabsOk S) (x y : Int) : HasL (flatS S) x y ↔ HasS S x y := by
  unfold flatS HasL
  constructor
  · rintro ⟨r, hr, hh⟩
    obtain ⟨s, hs, hr⟩ := List.mem_flatMap.1 hr
    have k := h.each s hs
    obtain ⟨h1, h2, h3⟩ := (rects_has k.x s.t k.ev k.asc k.gr x y).1 ⟨r, hr, hh⟩
    exact ⟨s, hs, h1, h2, h3⟩
  · rintro ⟨s, hs, h1, h2, h3⟩
    have k := h.each s hs
    obtain ⟨r, hr, hh⟩ := (rects_has k.x s.t k.ev k.asc k.gr x y).2 ⟨h1, h2, h3⟩
    exact ⟨r, List.mem_flatMap.2 ⟨s, hs, hr⟩, hh⟩
/-- the column of the first slab. -/
theorem slab_col {s : Slab} {S : List Slab} (h : SlabsOk (s :: S)) {x : Int} (h1 : x < s.x1) (y : Int) : HasS (s :: S) x y ↔ s.x0 ≤ x ∧ inT s.t y = true := by
  constructor
  · rintro ⟨u, hu, h3, h4, h5⟩
    rcases List.mem_cons.1 hu with rfl | hu
    · exact ⟨h3, h5⟩
    · have := h.after u hu; omega
  · rintro ⟨h3, h5⟩; exact ⟨s, List.mem_cons_self, h3, h1, h5⟩
theorem slab_rest {s : Slab} {S : List Slab} (h : SlabsOk (s :: S)) {x : Int} (h1 : s.x1 ≤ x) (y : Int) : HasS (s :: S) x y ↔ HasS S x y := by
  constructor
  · rintro ⟨u, hu, h3, h4, h5⟩
    rcases List.mem_cons.1 hu with rfl | hu
    · omega
    · exact ⟨u, hu, h3, h4, h5⟩
  · rintro ⟨u, hu, h⟩; exact ⟨u, List.mem_cons_of_mem _ hu, h⟩
theorem slab_none {s : Slab} {S : List Slab} (h : SlabsOk (s :: S)) {x : Int} (h1 : x < s.x1) (y : Int) : ¬ HasS S x y := by
  rintro ⟨u, hu, h3, h4, h5⟩
  have := h.after u hu; omega

/-- a set of cells has one form at most, told by slabs. -/
theorem slabs_eq : ∀ {S T : List Slab}, SlabsOk S → SlabsOk T → (∀ x y, HasS S x y ↔ HasS T x y) → S = T := by
  intro S
  induction S with
  | nil =>
    intro T _ hT h
    cases T with
    | nil => rfl
    | cons u T =>
      exfalso
      have k := hT.head
      obtain ⟨y, _, hy⟩ := col_some k.asc k.ne
      obtain ⟨_, hs, _⟩ := (h u.x0 y).2 ((slab_col hT k.x.2.1 y).2 ⟨Int.le_refl _, hy⟩)
      cases hs
  | cons s S ih =>
    intro T hS hT h
    cases T with
    | nil =>
      exfalso
      have k := hS.head
      obtain ⟨y, _, hy⟩ := col_some k.asc k.ne
      obtain ⟨_, hs, _⟩ := (h s.x0 y).1 ((slab_col hS k.x.2.1 y).2 ⟨Int.le_refl _, hy⟩)
      cases hs
    | cons u T =>
      have ks := hS.head; have ku := hT.head
      have a1 := ks.x.2.1; have a2 := ku.x.2.1
      -- the first columns
      have e0 : s.x0 = u.x0 := by
        rcases Int.lt_trichotomy s.x0 u.x0 with k | k | k
        · exfalso
          obtain ⟨y, _, hy⟩ := col_some ks.asc ks.ne
          have := (h s.x0 y).1 ((slab_col hS a1 y).2 ⟨Int.le_refl _, hy⟩)
          have := (slab_col hT (by omega) y).1 this
          omega
        · exact k
        · exfalso
          obtain ⟨y, _, hy⟩ := col_some ku.asc ku.ne
          have := (h u.x0 y).2 ((slab_col hT a2 y).2 ⟨Int.le_refl _, hy⟩)
          have := (slab_col hS (by omega) y).1 this
          omega
      have et : s.t = u.t := col_eq ks.asc ku.asc (fun y => by
        rw [Bool.eq_iff_iff]
        have h1 := slab_col hS a1 y
        have h2 := slab_col hT (x := s.x0) (by omega) y
        have h3 := h s.x0 y
        constructor
        · intro q; exact (h2.1 (h3.1 (h1.2 ⟨Int.le_refl _, q⟩))).2
        · intro q; exact (h1.1 (h3.2 (h2.2 ⟨by omega, q⟩))).2)
      -- where one ends first, its next slab would have the same column
      have half : ∀ {s u : Slab} {S T : List Slab}, SlabsOk (s :: S) → SlabsOk (u :: T) → (∀ x y, HasS (s :: S) x y ↔ HasS (u :: T) x y) → s.x0 = u.x0 → s.t = u.t → ¬ s.x1 < u.x1 := by
        intro s u S T hS hT h e0 et hlt
        have ks := hS.head; have ku := hT.head
        have a1 := ks.x.2.1
        have col : ∀ y, HasS S s.x1 y ↔ inT s.t y = true := fun y => by
          rw [← slab_rest hS (Int.le_refl _) y, h s.x1 y, slab_col hT hlt y, et]
          exact ⟨fun q => q.2, fun q => ⟨by omega, q⟩⟩
        obtain ⟨y, _, hy⟩ := col_some ks.asc ks.ne
        obtain ⟨v, hv, v1, v2, v3⟩ := (col y).2 hy
        cases S with
        | nil => cases hv
        | cons z S =>
          have hz := hS.2.1
          have kz := hS.2.2.head
          have ez : z.x0 = s.x1 := by
            rcases List.mem_cons.1 hv with rfl | hv
            · have := hz.1; omega
            · have := hS.2.2.after v hv; have := kz.x.2.1; have := hz.1; omega
          refine hz.2 ez.symm (col_eq ks.asc kz.asc (fun y => ?_))
          rw [Bool.eq_iff_iff, ← col y]
          have := slab_col hS.2.2 (x := s.x1) (by have := kz.x.2.1; omega) y
          rw [this]
          exact ⟨fun q => q.2, fun q => ⟨by omega, q⟩⟩
      have e1 : s.x1 = u.x1 := by
        have h1 := half hS hT h e0 et
        have h2 := half hT hS (fun x y => (h x y).symm) e0.symm et.symm
        omega
      have es : s = u := by cases s; cases u; simp only [] at e0 e1 et; subst e0; subst e1; subst et; rfl
      subst es
      rw [ih hS.tail hT.tail (fun x y => by
        by_cases c : s.x1 ≤ x
        · rw [← slab_rest hS c y, ← slab_rest hT c y]; exact h x y
        · exact ⟨fun q => absurd q (slab_none hS (by omega) y), fun q => absurd q (slab_none hT (by omega) y)⟩)]

/-- a list of rectangles that is a form. -/
def IsForm (l : List Rc) : Prop := ∃ S, SlabsOk S ∧ l = flatS S
/-- a set of cells has one form at most. -/
theorem form_eq {l m : List Rc} (hl : IsForm l) (hm : IsForm m) (h : ∀ x y, HasL l x y ↔ HasL m x y) : l = m := by
  obtain ⟨S, hS, rfl⟩ := hl
  obtain ⟨T, hT, rfl⟩ := hm
  rw [slabs_eq hS hT (fun x y => by rw [← flat_has hS, ← flat_has hT]; exact h x y)]
end Go.Proofs.YtdnoadngfkiabaaGreat
namespace Go.Proofs.YtdnoadngfkiabaaGreat

/-- the numbers at which the combination of two columns begins and ends; pa, pb: within the first, the second one; was: within the combination. -/
def combGo (op : Bool → Bool → Bool) (a b : List Int) (pa pb was : Bool) : List Int :=
  match a, b with
  | [], [] => []
  | x :: a, [] => if op (!pa) pb != was then x :: combGo op a [] (!pa) pb (op (!pa) pb) else combGo op a [] (!pa) pb (op (!pa) pb)
  | [], y :: b => if op pa (!pb) != was then y :: combGo op [] b pa (!pb) (op pa (!pb)) else combGo op [] b pa (!pb) (op pa (!pb))
  | x :: a, y :: b =>
    if x < y then (if op (!pa) pb != was then x :: combGo op a (y :: b) (!pa) pb (op (!pa) pb) else combGo op a (y :: b) (!pa) pb (op (!pa) pb))
    else if y < x then (if op pa (!pb) != was then y :: combGo op (x :: a) b pa (!pb) (op pa (!pb)) else combGo op (x :: a) b pa (!pb) (op pa (!pb)))
    else (if op (!pa) (!pb) != was then x :: combGo op a b (!pa) (!pb) (op (!pa) (!pb)) else combGo op a b (!pa) (!pb) (op (!pa) (!pb)))
termination_by a.length + b.length

def odd (t : List Int) : Bool := t.length % 2 == 1
theorem odd_cons (x : Int) (t : List Int) : odd (x :: t) = !odd t := by
  unfold odd
  rw [List.length_cons, Bool.eq_iff_iff]
  simp only [beq_iff_eq, Bool.not_eq_true', beq_eq_false_iff_ne, ne_eq]
  omega
theorem odd_even (t : List Int) : odd t = false ↔ Even t := by unfold odd Even; simp
theorem inT_nil (y : Int) : inT [] y = false := rfl

/-- what combining two columns gives. -/
structure CombIs (op : Bool → Bool → Bool) (a b : List Int) (pa pb was : Bool) (c : List Int) : Prop where
  mem : ∀ z ∈ c, z ∈ a ∨ z ∈ b
  asc : Asc c
  inn : ∀ y, (was != inT c y) = op (pa != inT a y) (pb != inT b y)
  par : (was != odd c) = op (pa != odd a) (pb != odd b)

/-- one number z of a or b (or both) is taken first; all others are greater. -/
theorem comb_step {op : Bool → Bool → Bool} {a b a2 b2 : List Int} {pa pb was pa2 pb2 : Bool} {z : Int} {c : List Int}
    (hw : was = op pa pb) (hc : CombIs op a2 b2 pa2 pb2 (op pa2 pb2) c)
    (ha : ∀ x ∈ a2, z < x) (hb : ∀ x ∈ b2, z < x) (h1 : ∀ y, (pa != inT a y) = if z ≤ y then (pa2 != inT a2 y) else pa) (h2 : ∀ y, (pb != inT b y) = if z ≤ y then (pb2 != inT b2 y) else pb)
    (o1 : (pa != odd a) = (pa2 != odd a2)) (o2 : (pb != odd b) = (pb2 != odd b2)) (hz : z ∈ a ∨ z ∈ b) (m1 : ∀ x ∈ a2, x ∈ a) (m2 : ∀ x ∈ b2, x ∈ b) :
    CombIs op a b pa pb was (if op pa2 pb2 != was then z :: c else c) := by
  have hgt : ∀ x ∈ c, z < x := fun x hx => by rcases hc.mem x hx with h | h; exact ha x h; exact hb x h
  have hmem : ∀ x ∈ c, x ∈ a ∨ x ∈ b := fun x hx => (hc.mem x hx).imp (m1 x) (m2 x)
  have low : ∀ y, ¬ z ≤ y → inT c y = false := fun y hy => inT_below (fun x hx => by have := hgt x hx; omega)
  by_cases k : (op pa2 pb2 != was) = true
  · rw [if_pos k]
    have k2 : op pa2 pb2 = !was := by cases h : op pa2 pb2 <;> cases h2 : was <;> rw [h, h2] at k <;> simp_all
    refine ⟨fun x hx => ?_, hc.asc.cons hgt, fun y => ?_, ?_⟩
    · rcases List.mem_cons.1 hx with rfl | hx
      · exact hz
      · exact hmem x hx
    · rw [h1 y, h2 y, inT_cons]
      by_cases q : z ≤ y
      · rw [if_pos q, if_pos q, ← hc.inn y, k2]
        simp [q]
      · rw [if_neg q, if_neg q, low y q, ← hw]; simp [q]
    · rw [odd_cons, o1, o2, ← hc.par, k2]; simp
  · rw [if_neg k]
    have k2 : op pa2 pb2 = was := by cases h : op pa2 pb2 <;> cases h2 : was <;> rw [h, h2] at k <;> simp_all
    refine ⟨hmem, hc.asc, fun y => ?_, ?_⟩
    · rw [h1 y, h2 y]
      by_cases q : z ≤ y
      · rw [if_pos q, if_pos q, ← hc.inn y, k2]
      · rw [if_neg q, if_neg q, low y q, ← hw]; simp
    · rw [o1, o2, ← hc.par, k2]

theorem flip_in {a : List Int} {x : Int} {pa : Bool} (h : ∀ z ∈ a, x < z) (y : Int) : (pa != inT (x :: a) y) = if x ≤ y then ((!pa) != inT a y) else pa := by
  rw [inT_cons]
  by_cases q : x ≤ y
  · rw [if_pos q]; simp [q]
  · rw [if_neg q, inT_below (fun z hz => by have := h z hz; omega)]; simp [q]
theorem stay_in {b : List Int} {x : Int} {pb : Bool} (h : ∀ z ∈ b, x < z) (y : Int) : (pb != inT b y) = if x ≤ y then (pb != inT b y) else pb := by
  by_cases q : x ≤ y
  · rw [if_pos q]
  · rw [if_neg q, inT_below (fun z hz => by have := h z hz; omega)]; simp
theorem flip_odd (a : List Int) (x : Int) (pa : Bool) : (pa != odd (x :: a)) = ((!pa) != odd a) := by rw [odd_cons]; simp
theorem not_mem_nil {P : Int → Prop} : ∀ z ∈ ([] : List Int), P z := fun z hz => by cases hz

theorem comb_is (op : Bool → Bool → Bool) : ∀ (n : Nat) (a b : List Int) (pa pb : Bool), a.length + b.length ≤ n → Asc a → Asc b → CombIs op a b pa pb (op pa pb) (combGo op a b pa pb (op pa pb)) := by
  intro n
  induction n with
  | zero =>
    intro a b pa pb hn _ _
    obtain rfl : a = [] := List.length_eq_zero_iff.1 (by omega)
    obtain rfl : b = [] := List.length_eq_zero_iff.1 (by omega)
    rw [combGo]
    exact ⟨not_mem_nil, trivial, fun y => by simp [inT_nil], by simp [odd]⟩
  | succ n ih =>
    intro a b pa pb hn ha hb
    match a, b, ha, hb with
    | [], [], _, _ =>
      rw [combGo]
      exact ⟨not_mem_nil, trivial, fun y => by simp [inT_nil], by simp [odd]⟩
    | x :: a, [], ha, hb =>
      rw [combGo]
      exact comb_step rfl (ih a [] (!pa) pb (by simp at hn ⊢; omega) ha.tail trivial) ha.lt not_mem_nil (flip_in ha.lt) (stay_in not_mem_nil) (flip_odd a x pa) rfl (Or.inl List.mem_cons_self) (fun z hz => List.mem_cons_of_mem _ hz) (fun z hz => hz)
    | [], y :: b, ha, hb =>
      rw [combGo]
      exact comb_step rfl (ih [] b pa (!pb) (by simp at hn ⊢; omega) trivial hb.tail) not_mem_nil hb.lt (stay_in not_mem_nil) (flip_in hb.lt) rfl (flip_odd b y pb) (Or.inr List.mem_cons_self) (fun z hz => hz) (fun z hz => List.mem_cons_of_mem _ hz)
    | x :: a, y :: b, ha, hb =>
      rw [combGo]
      by_cases h1 : x < y
      · rw [if_pos h1]
        have hy : ∀ z ∈ y :: b, x < z := fun z hz => by rcases List.mem_cons.1 hz with rfl | hz; exact h1; have := hb.lt z hz; omega
        exact comb_step rfl (ih a (y :: b) (!pa) pb (by simp at hn ⊢; omega) ha.tail hb) ha.lt hy (flip_in ha.lt) (stay_in hy) (flip_odd a x pa) rfl (Or.inl List.mem_cons_self) (fun z hz => List.mem_cons_of_mem _ hz) (fun z hz => hz)
      · rw [if_neg h1]
        by_cases h2 : y < x
        · rw [if_pos h2]
          have hx : ∀ z ∈ x :: a, y < z := fun z hz => by rcases List.mem_cons.1 hz with rfl | hz; exact h2; have := ha.lt z hz; omega
          exact comb_step rfl (ih (x :: a) b pa (!pb) (by simp at hn ⊢; omega) ha hb.tail) hx hb.lt (stay_in hx) (flip_in hb.lt) rfl (flip_odd b y pb) (Or.inr List.mem_cons_self) (fun z hz => hz) (fun z hz => List.mem_cons_of_mem _ hz)
        · rw [if_neg h2]
          obtain rfl : x = y := by omega
          exact comb_step rfl (ih a b (!pa) (!pb) (by simp at hn ⊢; omega) ha.tail hb.tail) ha.lt hb.lt (flip_in ha.lt) (flip_in hb.lt) (flip_odd a x pa) (flip_odd b x pb) (Or.inl List.mem_cons_self) (fun z hz => List.mem_cons_of_mem _ hz) (fun z hz => List.mem_cons_of_mem _ hz)

/-- a column. -/
structure ColOk (t : List Int) : Prop where
  asc : Asc t
  ev : Even t
  gr : InG t
def comb (op : Bool → Bool → Bool) (a b : List Int) : List Int := combGo op a b false false false
theorem comb_col {op : Bool → Bool → Bool} (h0 : op false false = false) {a b : List Int} (ha : ColOk a) (hb : ColOk b) : ColOk (comb op a b) ∧ ∀ y, inT (comb op a b) y = op (inT a y) (inT b y) := by
  have h := comb_is op _ a b false false (Nat.le_refl _) ha.asc hb.asc
  rw [h0] at h
  refine ⟨⟨h.asc, ?_, fun z hz => ?_⟩, fun y => ?_⟩
  · rw [← odd_even]
    have := h.par
    rw [(odd_even a).2 ha.ev, (odd_even b).2 hb.ev] at this
    simpa [h0, comb] using this
  · rcases h.mem z hz with k | k
    · exact ha.gr z k
    · exact hb.gr z k
  · have := h.inn y
    simpa [comb] using this
theorem col_nil : ColOk [] := ⟨trivial, (by unfold Even; rfl), not_mem_nil⟩
theorem col_one {a b : Int} (h : Span a b) : ColOk [a, b] := ⟨⟨h.2.1, trivial⟩, (by simp [Even]), fun z hz => by
  obtain ⟨h1, h2, h3⟩ := h
  simp at hz; rcases hz with rfl | rfl <;> omega⟩
theorem one_in {a b : Int} (h : Span a b) (y : Int) : inT [a, b] y = true ↔ a ≤ y ∧ y < b := by
  rw [inT_two (t := []) ⟨h.2.1, trivial⟩]; simp [inT_nil]

/-- the column of a list of rectangles at x. -/
def colS : List Rc → Int → List Int
  | [], _ => []
  | r :: l, x => if r.X0 ≤ x ∧ x < r.X1 then comb or [r.Y0, r.Y1] (colS l x) else colS l x
theorem colS_is {l : List Rc} (hl : ∀ r ∈ l, ROk r) (x : Int) : ColOk (colS l x) ∧ ∀ y, inT (colS l x) y = true ↔ HasL l x y := by
  induction l with
  | nil => exact ⟨col_nil, fun y => ⟨fun h => by simp [colS, inT_nil] at h, fun ⟨r, hr, _⟩ => by cases hr⟩⟩
  | cons r l ih =>
    obtain ⟨h1, h2⟩ := ih (fun q hq => hl q (List.mem_cons_of_mem _ hq))
    have hr := hl r List.mem_cons_self
    unfold colS
    by_cases c : r.X0 ≤ x ∧ x < r.X1
    · rw [if_pos c]
      obtain ⟨k1, k2⟩ := comb_col (op := or) rfl (col_one hr.2) h1
      refine ⟨k1, fun y => ?_⟩
      rw [k2 y, Bool.or_eq_true, one_in hr.2, h2 y]
      constructor
      · rintro (h | ⟨q, hq, hh⟩)
        · exact ⟨r, List.mem_cons_self, hr, c.1, c.2, h.1, h.2⟩
        · exact ⟨q, List.mem_cons_of_mem _ hq, hh⟩
      · rintro ⟨q, hq, hh⟩
        rcases List.mem_cons.1 hq with rfl | hq
        · exact Or.inl ⟨hh.2.2.2.1, hh.2.2.2.2⟩
        · exact Or.inr ⟨q, hq, hh⟩
    · rw [if_neg c]
      refine ⟨h1, fun y => ?_⟩
      rw [h2 y]
      constructor
      · rintro ⟨q, hq, hh⟩; exact ⟨q, List.mem_cons_of_mem _ hq, hh⟩
      · rintro ⟨q, hq, hh⟩
        rcases List.mem_cons.1 hq with rfl | hq
        · exact absurd ⟨hh.2.1, hh.2.2.1⟩ c
        · exact ⟨q, hq, hh⟩

/-! ### a form grows slab by slab -/
theorem SlabsOk.snoc : ∀ {S : List Slab} {u : Slab}, SlabsOk S → SlabOk u → (∀ s, S.getLast? = some s → Behind s u) → SlabsOk (S ++ [u]) := by
  intro S
  induction S with
  | nil => intro u _ hu _; exact hu
  | cons s S ih =>
    intro u hS hu hb
    cases S with
    | nil => exact ⟨hS, hb s rfl, hu⟩
    | cons v S => exact ⟨hS.1, hS.2.1, ih hS.2.2 hu (fun z hz => hb z (by rw [List.getLast?_cons_cons]; exact hz))⟩
theorem SlabsOk.init : ∀ {S : List Slab} {u : Slab}, SlabsOk (S ++ [u]) → SlabsOk S ∧ SlabOk u ∧ ∀ s, S.getLast? = some s → Behind s u := by
  intro S
  induction S with
  | nil => intro u h; exact ⟨trivial, h, fun s hs => by cases hs⟩
  | cons s S ih =>
    intro u h
    cases S with
    | nil => exact ⟨h.1, h.2.2, fun z hz => by simp at hz; subst hz; exact h.2.1⟩
    | cons v S =>
      obtain ⟨h1, h2, h3⟩ := ih h.2.2
      exact ⟨⟨h.1, h.2.1, h1⟩, h2, fun z hz => h3 z (by rw [List.getLast?_cons_cons] at hz; exact hz)⟩
/-- the next column, from a to b. -/
def stepF (S : List Slab) (a b : Int) (c : List Int) : List Slab :=
  if c = [] then S else
  match S.getLast? with
  | some s => if s.x1 = a ∧ s.t = c then S.dropLast ++ [⟨s.x0, b, c⟩] else S ++ [⟨a, b, c⟩]
  | none => [⟨a, b, c⟩]
theorem has_snoc (S : List Slab) (u : Slab) (x y : Int) : HasS (S ++ [u]) x y ↔ HasS S x y ∨ (u.x0 ≤ x ∧ x < u.x1 ∧ inT u.t y = true) := by
  constructor
  · rintro ⟨s, hs, h⟩
    rcases List.mem_append.1 hs with hs | hs
    · exact Or.inl ⟨s, hs, h⟩
    · rw [List.mem_singleton] at hs; subst hs; exact Or.inr h
  · rintro (⟨s, hs, h⟩ | h)
    · exact ⟨s, List.mem_append_left _ hs, h⟩
    · exact ⟨u, List.mem_append_right _ (List.mem_singleton.2 rfl), h⟩
structure Grown (S : List Slab) (a : Int) : Prop where
  ok : SlabsOk S
  to : ∀ s ∈ S, s.x1 ≤ a
theorem step_is {S : List Slab} {a b : Int} {c : List Int} (h : Grown S a) (hab : Span a b) (hc : ColOk c) : Grown (stepF S a b c) b ∧ ∀ x y, HasS (stepF S a b c) x y ↔ HasS S x y ∨ (a ≤ x ∧ x < b ∧ inT c y = true) := by
  have h2 := hab.2.1
  unfold stepF
  by_cases h0 : c = []
  · rw [if_pos h0]
    subst h0
    refine ⟨⟨h.ok, fun s hs => by have := h.to s hs; omega⟩, fun x y => ?_⟩
    simp [inT_nil]
  · rw [if_neg h0]
    rcases List.eq_nil_or_concat S with rfl | ⟨T, s, rfl⟩
    · refine ⟨⟨⟨hab, h0, hc.asc, hc.ev, hc.gr⟩, fun s hs => by simp at hs; subst hs; exact Int.le_refl _⟩, fun x y => ?_⟩
      exact has_snoc [] ⟨a, b, c⟩ x y
    · rw [List.concat_eq_append] at *
      have hl : (T ++ [s]).getLast? = some s := by simp
      rw [hl]
      simp only []
      obtain ⟨k1, k2, k3⟩ := h.ok.init
      have hs1 := h.to s (by simp)
      by_cases hm : s.x1 = a ∧ s.t = c
      · rw [if_pos hm]
        obtain ⟨rfl, rfl⟩ := hm
        rw [List.dropLast_concat]
        have hx := k2.x
        refine ⟨⟨k1.snoc ⟨⟨hx.1, by have := hx.2.1; simp only []; omega, hab.2.2⟩, h0, hc.asc, hc.ev, hc.gr⟩ (fun z hz => ?_), fun z hz => ?_⟩, fun x y => ?_⟩
        · obtain ⟨q1, q2⟩ := k3 z hz
          exact ⟨q1, q2⟩
        · rcases List.mem_append.1 hz with hz | hz
          · have := h.to z (List.mem_append_left _ hz); omega
          · rw [List.mem_singleton] at hz; subst hz; exact Int.le_refl _
        · rw [has_snoc, has_snoc]
          simp only []
          have := hx.2.1
          constructor
          · rintro (q | ⟨q1, q2, q3⟩)
            · exact Or.inl (Or.inl q)
            · by_cases q : x < s.x1
              · exact Or.inl (Or.inr ⟨q1, q, q3⟩)
              · exact Or.inr ⟨by omega, q2, q3⟩
          · rintro ((q | ⟨q1, q2, q3⟩) | ⟨q1, q2, q3⟩)
            · exact Or.inl q
            · exact Or.inr ⟨q1, by omega, q3⟩
            · exact Or.inr ⟨by omega, q2, q3⟩
      · rw [if_neg hm]
        refine ⟨⟨h.ok.snoc ⟨hab, h0, hc.asc, hc.ev, hc.gr⟩ (fun z hz => ?_), fun z hz => ?_⟩, fun x y => has_snoc _ _ x y⟩
        · rw [hl] at hz
          simp only [Option.some.injEq] at hz
          subst hz
          exact ⟨hs1, fun q1 q2 => hm ⟨q1, q2⟩⟩
        · rcases List.mem_append.1 hz with hz | hz
          · have := h.to z hz; omega
          · rw [List.mem_singleton] at hz; subst hz; exact Int.le_refl _
/-- the form that grows along some edges. -/
def growF (c : Int → List Int) : List Slab → List Int → List Slab
  | S, a :: b :: E => growF c (stepF S a b (c a)) (b :: E)
  | S, _ => S
theorem grow_form {c : Int → List Int} (hc : ∀ x, ColOk (c x)) : ∀ (E : List Int) (S : List Slab) (a : Int), Asc (a :: E) → InG (a :: E) → Grown S a →
    SlabsOk (growF c S (a :: E)) ∧ ∀ x y, HasS (growF c S (a :: E)) x y ↔ HasS S x y ∨ ∃ p ∈ List.zip (a :: E) E, p.1 ≤ x ∧ x < p.2 ∧ inT (c p.1) y = true := by
  intro E
  induction E with
  | nil =>
    intro S a _ _ h
    refine ⟨h.ok, fun x y => ?_⟩
    show HasS S x y ↔ _
    simp
  | cons b E ih =>
    intro S a ha hg h
    have hab : Span a b := ⟨(hg a List.mem_cons_self).1, ha.1, (hg b (List.mem_cons_of_mem _ List.mem_cons_self)).2⟩
    obtain ⟨s1, s2⟩ := step_is h hab (hc a)
    obtain ⟨h1, h2⟩ := ih (stepF S a b (c a)) b ha.2 (fun z hz => hg z (List.mem_cons_of_mem _ hz)) s1
    refine ⟨h1, fun x y => ?_⟩
    have e : growF c S (a :: b :: E) = growF c (stepF S a b (c a)) (b :: E) := rfl
    rw [e, h2 x y, s2 x y]
    rw [List.zip_cons_cons]
    simp only [List.mem_cons, exists_eq_or_imp]
    exact or_assoc
end Go.Proofs.YtdnoadngfkiabaaGreat
namespace Go.Proofs.YtdnoadngfkiabaaGreat

/-! ### ascending lists of numbers, each once -/
/-- a number put into an ascending list. -/
def insS (x : Int) : List Int → List Int
  | [] => [x]
  | a :: t => if x < a then x :: a :: t else if x = a then a :: t else a :: insS x t
theorem insS_mem (x : Int) (t : List Int) (z : Int) : z ∈ insS x t ↔ z = x ∨ z ∈ t := by
  induction t with
  | nil => simp [insS]
  | cons a t ih =>
    unfold insS
    by_cases h1 : x < a
    · rw [if_pos h1]; simp
    · rw [if_neg h1]
      by_cases h2 : x = a
      · rw [if_pos h2]; subst h2; simp
      · rw [if_neg h2, List.mem_cons, ih, List.mem_cons]
        constructor
        · rintro (h | h | h); exact Or.inr (Or.inl h); exact Or.inl h; exact Or.inr (Or.inr h)
        · rintro (h | h | h); exact Or.inr (Or.inl h); exact Or.inl h; exact Or.inr (Or.inr h)
theorem insS_asc {x : Int} {t : List Int} (h : Asc t) : Asc (insS x t) := by
  induction t with
  | nil => trivial
  | cons a t ih =>
    unfold insS
    by_cases h1 : x < a
    · rw [if_pos h1]; exact ⟨h1, h⟩
    · rw [if_neg h1]
      by_cases h2 : x = a
      · rw [if_pos h2]; exact h
      · rw [if_neg h2]
        refine (ih h.tail).cons fun z hz => ?_
        rcases (insS_mem x t z).1 hz with rfl | hz
        · omega
        · exact h.lt z hz
def sortS (l : List Int) : List Int := l.foldl (fun t x => insS x t) []
theorem sortS_snoc (l : List Int) (x : Int) : sortS (l ++ [x]) = insS x (sortS l) := by simp [sortS, List.foldl_append]
theorem sortS_is (l : List Int) : Asc (sortS l) ∧ ∀ z, z ∈ sortS l ↔ z ∈ l := by
  have key : ∀ (l : List Int) (t : List Int), Asc t → Asc (l.foldl (fun t x => insS x t) t) ∧ ∀ z, z ∈ l.foldl (fun t x => insS x t) t ↔ z ∈ t ∨ z ∈ l := by
    intro l
    induction l with
    | nil => intro t h; exact ⟨h, fun z => by simp⟩
    | cons x l ih =>
      intro t h
      obtain ⟨h1, h2⟩ := ih (insS x t) (insS_asc h)
      refine ⟨h1, fun z => ?_⟩
      rw [List.foldl_cons, h2 z, insS_mem, List.mem_cons]
      constructor
      · rintro ((h | h) | h); exact Or.inr (Or.inl h); exact Or.inl h; exact Or.inr (Or.inr h)
      · rintro (h | h | h); exact Or.inl (Or.inr h); exact Or.inl (Or.inl h); exact Or.inr h
  obtain ⟨h1, h2⟩ := key l [] trivial
  exact ⟨h1, fun z => by rw [show sortS l = l.foldl (fun t x => insS x t) [] from rfl, h2 z]; simp⟩
/-- an ascending list is told by its members. -/
theorem asc_eq : ∀ {t s : List Int}, Asc t → Asc s → (∀ z, z ∈ t ↔ z ∈ s) → t = s := by
  intro t
  induction t with
  | nil =>
    intro s _ _ h
    cases s with
    | nil => rfl
    | cons b s => have := (h b).2 List.mem_cons_self; cases this
  | cons a t ih =>
    intro s ht hs h
    cases s with
    | nil => have := (h a).1 List.mem_cons_self; cases this
    | cons b s =>
      have hab : a = b := by
        have h1 := (h a).1 List.mem_cons_self
        have h2 := (h b).2 List.mem_cons_self
        rcases List.mem_cons.1 h1 with e | h1
        · exact e
        · rcases List.mem_cons.1 h2 with e | h2
          · exact e.symm
          · have := hs.lt a h1; have := ht.lt b h2; omega
      subst hab
      rw [ih ht.tail hs.tail (fun z => by
        constructor
        · intro hz
          rcases List.mem_cons.1 ((h z).1 (List.mem_cons_of_mem _ hz)) with rfl | k
          · have := ht.lt z hz; omega
          · exact k
        · intro hz
          rcases List.mem_cons.1 ((h z).2 (List.mem_cons_of_mem _ hz)) with rfl | k
          · have := hs.lt z hz; omega
          · exact k)]

/-! ### neighbors in an ascending list -/
theorem zip_mem : ∀ {E : List Int} {a : Int} {p : Int × Int}, p ∈ List.zip (a :: E) E → p.1 ∈ a :: E ∧ p.2 ∈ E := by
  intro E
  induction E with
  | nil => intro a p h; simp at h
  | cons b E ih =>
    intro a p h
    rw [List.zip_cons_cons] at h
    rcases List.mem_cons.1 h with rfl | h
    · exact ⟨List.mem_cons_self, List.mem_cons_self⟩
    · obtain ⟨h1, h2⟩ := ih h
      exact ⟨List.mem_cons_of_mem _ h1, List.mem_cons_of_mem _ h2⟩
theorem zip_gap : ∀ {E : List Int} {a : Int}, Asc (a :: E) → ∀ p ∈ List.zip (a :: E) E, p.1 < p.2 ∧ ∀ e ∈ a :: E, e ≤ p.1 ∨ p.2 ≤ e := by
  intro E
  induction E with
  | nil => intro a _ p h; simp at h
  | cons b E ih =>
    intro a ha p h
    rw [List.zip_cons_cons] at h
    rcases List.mem_cons.1 h with rfl | hq
    · refine ⟨ha.1, fun e he => ?_⟩
      rcases List.mem_cons.1 he with rfl | he
      · exact Or.inl (Int.le_refl _)
      · rcases List.mem_cons.1 he with rfl | he
        · exact Or.inr (Int.le_refl _)
        · exact Or.inr (by have := ha.2.lt e he; simp only []; omega)
    · obtain ⟨h1, h2⟩ := ih ha.2 p hq
      refine ⟨h1, fun e he => ?_⟩
      rcases List.mem_cons.1 he with rfl | he
      · have := (zip_mem hq).1
        left
        have := ha.lt p.1 this
        omega
      · exact h2 e he
theorem zip_cover : ∀ {E : List Int} {a : Int}, Asc (a :: E) → ∀ {x : Int}, a ≤ x → (∃ e ∈ E, x < e) → ∃ p ∈ List.zip (a :: E) E, p.1 ≤ x ∧ x < p.2 := by
  intro E
  induction E with
  | nil => intro a _ x _ ⟨e, he, _⟩; cases he
  | cons b E ih =>
    intro a ha x hx ⟨e, he, hxe⟩
    rw [List.zip_cons_cons]
    by_cases hb : x < b
    · exact ⟨(a, b), List.mem_cons_self, hx, hb⟩
    · have : ∃ e ∈ E, x < e := by
        rcases List.mem_cons.1 he with rfl | he
        · omega
        · exact ⟨e, he, hxe⟩
      obtain ⟨p, hp, h⟩ := ih ha.2 (by omega) this
      exact ⟨p, List.mem_cons_of_mem _ hp, h⟩

/-! ### the form of a combination -/
def sides (l : List Rc) : List Int := l.flatMap fun r => [r.X0, r.X1]
theorem sides_mem {l : List Rc} {r : Rc} (h : r ∈ l) : r.X0 ∈ sides l ∧ r.X1 ∈ sides l :=
  ⟨List.mem_flatMap.2 ⟨r, h, List.mem_cons_self⟩, List.mem_flatMap.2 ⟨r, h, List.mem_cons_of_mem _ List.mem_cons_self⟩⟩
theorem sides_gr {l : List Rc} (h : ∀ r ∈ l, ROk r) : InG (sides l) := fun z hz => by
  obtain ⟨r, hr, hz⟩ := List.mem_flatMap.1 hz
  have := (h r hr).1
  unfold Span at this
  simp at hz; rcases hz with rfl | rfl <;> omega
theorem colS_same {l : List Rc} {x x' : Int} (h : ∀ r ∈ l, (r.X0 ≤ x ∧ x < r.X1) ↔ (r.X0 ≤ x' ∧ x' < r.X1)) : colS l x = colS l x' := by
  induction l with
  | nil => rfl
  | cons r l ih =>
    have e := ih (fun q hq => h q (List.mem_cons_of_mem _ hq))
    unfold colS
    by_cases c : r.X0 ≤ x ∧ x < r.X1
    · rw [if_pos c, if_pos ((h r List.mem_cons_self).1 c), e]
    · rw [if_neg c, if_neg (fun k => c ((h r List.mem_cons_self).2 k)), e]
def formS (op : Bool → Bool → Bool) (a b : List Rc) : List Slab := growF (fun x => comb op (colS a x) (colS b x)) [] (sortS (sides a ++ sides b))
noncomputable def hasB (l : List Rc) (x y : Int) : Bool := @decide (HasL l x y) (Classical.propDecidable _)
theorem hasB_iff (l : List Rc) (x y : Int) : hasB l x y = true ↔ HasL l x y := by unfold hasB; simp
theorem colS_has {l : List Rc} (hl : ∀ r ∈ l, ROk r) (x y : Int) : inT (colS l x) y = hasB l x y := by
  rw [Bool.eq_iff_iff, hasB_iff]; exact (colS_is hl x).2 y
/-- each combination of two lists of valid rectangles has a form. -/
theorem formS_is {op : Bool → Bool → Bool} (h0 : op false false = false) {a b : List Rc} (ha : ∀ r ∈ a, ROk r) (hb : ∀ r ∈ b, ROk r) :
    SlabsOk (formS op a b) ∧ ∀ x y, HasS (formS op a b) x y ↔ op (hasB a x y) (hasB b x y) = true := by
  have hcol : ∀ x, ColOk (comb op (colS a x) (colS b x)) := fun x => (comb_col h0 (colS_is ha x).1 (colS_is hb x).1).1
  have hin : ∀ x y, inT (comb op (colS a x) (colS b x)) y = op (hasB a x y) (hasB b x y) := fun x y => by
    rw [(comb_col h0 (colS_is ha x).1 (colS_is hb x).1).2 y, colS_has ha, colS_has hb]
  obtain ⟨e1, e2⟩ := sortS_is (sides a ++ sides b)
  unfold formS
  generalize hE : sortS (sides a ++ sides b) = E at *
  have some_side : ∀ x y, op (hasB a x y) (hasB b x y) = true → ∃ r, (r ∈ a ∨ r ∈ b) ∧ r.X0 ≤ x ∧ x < r.X1 := fun x y h => by
    cases k1 : hasB a x y
    · cases k2 : hasB b x y
      · rw [k1, k2, h0] at h; cases h
      · obtain ⟨r, hr, hh⟩ := (hasB_iff b x y).1 k2
        exact ⟨r, Or.inr hr, hh.2.1, hh.2.2.1⟩
    · obtain ⟨r, hr, hh⟩ := (hasB_iff a x y).1 k1
      exact ⟨r, Or.inl hr, hh.2.1, hh.2.2.1⟩
  have both_in : ∀ r, (r ∈ a ∨ r ∈ b) → r.X0 ∈ E ∧ r.X1 ∈ E := fun r hr => by
    rw [e2, e2]
    rcases hr with hr | hr
    · exact ⟨List.mem_append_left _ (sides_mem hr).1, List.mem_append_left _ (sides_mem hr).2⟩
    · exact ⟨List.mem_append_right _ (sides_mem hr).1, List.mem_append_right _ (sides_mem hr).2⟩
  cases E with
  | nil =>
    refine ⟨trivial, fun x y => ⟨fun ⟨s, hs, _⟩ => (by cases hs), fun h => ?_⟩⟩
    obtain ⟨r, hr, _⟩ := some_side x y h
    have := (both_in r hr).1
    cases this
  | cons e E =>
    have hg : InG (e :: E) := fun z hz => by
      rcases List.mem_append.1 ((e2 z).1 hz) with h | h
      · exact sides_gr ha z h
      · exact sides_gr hb z h
    obtain ⟨f1, f2⟩ := grow_form hcol E [] e e1 hg ⟨trivial, fun s hs => by cases hs⟩
    refine ⟨f1, fun x y => ?_⟩
    rw [f2 x y]
    have flat : ∀ p ∈ List.zip (e :: E) E, p.1 ≤ x → x < p.2 → inT (comb op (colS a p.1) (colS b p.1)) y = op (hasB a x y) (hasB b x y) := fun p hp h1 h2 => by
      rw [← hin x y]
      obtain ⟨g1, g2⟩ := zip_gap e1 p hp
      have same : ∀ r, (r ∈ a ∨ r ∈ b) → ((r.X0 ≤ x ∧ x < r.X1) ↔ (r.X0 ≤ p.1 ∧ p.1 < r.X1)) := fun r hr => by
        obtain ⟨q1, q2⟩ := both_in r hr
        have w1 := g2 _ q1; have w2 := g2 _ q2
        omega
      rw [colS_same (l := a) (fun r hr => same r (Or.inl hr)), colS_same (l := b) (fun r hr => same r (Or.inr hr))]
    constructor
    · rintro (⟨s, hs, _⟩ | ⟨p, hp, h1, h2, h3⟩)
      · cases hs
      · rw [flat p hp h1 h2] at h3; exact h3
    · intro h
      right
      obtain ⟨r, hr, r1, r2⟩ := some_side x y h
      obtain ⟨q1, q2⟩ := both_in r hr
      have le0 : e ≤ r.X0 := by
        rcases List.mem_cons.1 q1 with k | k
        · omega
        · have := e1.lt _ k; omega
      have inE : r.X1 ∈ E := by
        rcases List.mem_cons.1 q2 with k | k
        · exfalso; omega
        · exact k
      obtain ⟨p, hp, h1, h2⟩ := zip_cover e1 (x := x) (by omega) ⟨_, inE, r2⟩
      exact ⟨p, hp, h1, h2, by rw [flat p hp h1 h2]; exact h⟩
/-- the form of a list of valid rectangles. -/
def formL (l : List Rc) : List Rc := flatS (formS or l [])
def formO (op : Bool → Bool → Bool) (a b : List Rc) : List Rc := flatS (formS op a b)
theorem formO_is {op : Bool → Bool → Bool} (h0 : op false false = false) {a b : List Rc} (ha : ∀ r ∈ a, ROk r) (hb : ∀ r ∈ b, ROk r) : IsForm (formO op a b) ∧ ∀ x y, HasL (formO op a b) x y ↔ op (hasB a x y) (hasB b x y) = true := by
  obtain ⟨h1, h2⟩ := formS_is h0 ha hb
  exact ⟨⟨_, h1, rfl⟩, fun x y => by unfold formO; rw [flat_has h1, h2]⟩
theorem formL_is {l : List Rc} (hl : ∀ r ∈ l, ROk r) : IsForm (formL l) ∧ ∀ x y, HasL (formL l) x y ↔ HasL l x y := by
  obtain ⟨h1, h2⟩ := formO_is (op := or) rfl hl (b := []) (fun r hr => by cases hr)
  refine ⟨h1, fun x y => ?_⟩
  have e : hasB [] x y = false := by rw [← Bool.not_eq_true, hasB_iff]; rintro ⟨r, hr, _⟩; cases hr
  rw [show formL l = formO or l [] from rfl, h2 x y, e, Bool.or_false, hasB_iff]
theorem rects_ok {x0 x1 : Int} (hx : Span x0 x1) : ∀ t, Even t → Asc t → InG t → ∀ r ∈ rectsOf x0 x1 t, ROk r := by
  intro t he
  refine even_ind (P := fun t => Asc t → InG t → ∀ r ∈ rectsOf x0 x1 t, ROk r) ?_ ?_ t he
  · intro _ _ r hr; cases hr
  · intro a b t _ ih ha hg r hr
    rcases List.mem_cons.1 (show r ∈ ⟨x0, a, x1, b⟩ :: rectsOf x0 x1 t from hr) with rfl | hr
    · exact ⟨hx, (hg a List.mem_cons_self).1, ha.1, (hg b (List.mem_cons_of_mem _ List.mem_cons_self)).2⟩
    · exact ih ha.2.tail (fun z hz => hg z (List.mem_cons_of_mem _ (List.mem_cons_of_mem _ hz))) r hr
theorem form_ok {l : List Rc} (h : IsForm l) : ∀ r ∈ l, ROk r := by
  obtain ⟨S, hS, rfl⟩ := h
  intro r hr
  obtain ⟨s, hs, hr⟩ := List.mem_flatMap.1 hr
  have k := hS.each s hs
  exact rects_ok k.x s.t k.ev k.asc k.gr r hr
/-- a list of valid rectangles is a form exactly if it is its own form. -/
theorem form_self {l : List Rc} (hl : ∀ r ∈ l, ROk r) : IsForm l ↔ formL l = l := by
  obtain ⟨h1, h2⟩ := formL_is hl
  constructor
  · intro h; exact form_eq h1 h h2
  · intro h; rw [← h]; exact h1
end Go.Proofs.YtdnoadngfkiabaaGreat
namespace Go.Proofs.YtdnoadngfkiabaaGreat

def sumN : Nat → (Nat → Nat) → Nat
  | 0, _ => 0
  | n + 1, f => sumN n f + f n
theorem sumN_congr {n : Nat} {f g : Nat → Nat} (h : ∀ i, i < n → f i = g i) : sumN n f = sumN n g := by
  induction n with
  | zero => rfl
  | succ n ih => rw [sumN, sumN, ih (fun i hi => h i (by omega)), h n (by omega)]
theorem sumN_add (n : Nat) (f g : Nat → Nat) : sumN n (fun i => f i + g i) = sumN n f + sumN n g := by
  induction n with
  | zero => rfl
  | succ n ih => simp only [sumN]; rw [ih]; omega
theorem sumN_zero (n : Nat) : sumN n (fun _ => 0) = 0 := by
  induction n with
  | zero => rfl
  | succ n ih => rw [sumN, ih]
/-- how many numbers of an interval lie below n. -/
theorem sumN_span {n : Nat} {a b : Int} {k : Nat} (h0 : 0 ≤ a) (h1 : a ≤ b) (h2 : b ≤ (n : Int)) : (sumN n (fun i => if a ≤ (i : Int) ∧ (i : Int) < b then k else 0) : Int) = (b - a) * k := by
  have key : ∀ m : Nat, m ≤ n → (sumN m (fun i => if a ≤ (i : Int) ∧ (i : Int) < b then k else 0) : Int) = (max 0 (min b (m : Int) - a)) * k := by
    intro m
    induction m with
    | zero => intro _; rw [show max 0 (min b ((0 : Nat) : Int) - a) = 0 by omega]; simp [sumN]
    | succ m ih =>
      intro hm
      have e := ih (by omega)
      rw [sumN]
      by_cases c : a ≤ (m : Int) ∧ (m : Int) < b
      · rw [if_pos c]
        have w : max 0 (min b ((m + 1 : Nat) : Int) - a) = max 0 (min b (m : Int) - a) + 1 := by omega
        rw [w, Int.natCast_add, e, Int.add_mul]; simp
      · rw [if_neg c]
        have w : max 0 (min b ((m + 1 : Nat) : Int) - a) = max 0 (min b (m : Int) - a) := by omega
        rw [w, ← e]; simp
  rw [key n (Nat.le_refl _)]
  congr 1
  omega

/-- how many cells with both numbers below n a set has. -/
def cntC (n : Nat) (P : Int → Int → Bool) : Nat := sumN n fun x => sumN n fun y => if P x y = true then 1 else 0
theorem cntC_congr {n : Nat} {P Q : Int → Int → Bool} (h : ∀ x y : Nat, x < n → y < n → P x y = Q x y) : cntC n P = cntC n Q :=
  sumN_congr fun x hx => sumN_congr fun y hy => by rw [h x y hx hy]
theorem cntC_add (n : Nat) (P Q : Int → Int → Bool) : cntC n (fun x y => P x y || Q x y) + cntC n (fun x y => P x y && Q x y) = cntC n P + cntC n Q := by
  unfold cntC
  rw [← sumN_add, ← sumN_add]
  refine sumN_congr fun x _ => ?_
  rw [← sumN_add, ← sumN_add]
  refine sumN_congr fun y _ => ?_
  by_cases h1 : P (x : Int) (y : Int) = true <;> by_cases h2 : Q (x : Int) (y : Int) = true <;> simp [h1, h2]
theorem cntC_none (n : Nat) {P : Int → Int → Bool} (h : ∀ x y, P x y = false) : cntC n P = 0 := by
  have e : cntC n P = sumN n (fun _ => sumN n fun _ => 0) := sumN_congr fun x _ => sumN_congr fun y _ => by rw [h]; rfl
  rw [e, sumN_congr (g := fun _ => 0) (fun _ _ => sumN_zero n), sumN_zero]
theorem cntC_rect {n : Nat} {r : Rc} (h : ROk r) (hx : r.X1 ≤ (n : Int)) (hy : r.Y1 ≤ (n : Int)) : (cntC n (fun x y => decide (HasR r x y)) : Int) = areaR r := by
  rw [area_ok h]
  have k := h
  unfold ROk Span at k
  have col : ∀ x : Nat, sumN n (fun y => if decide (HasR r (x : Int) (y : Int)) = true then 1 else 0) = if r.X0 ≤ (x : Int) ∧ (x : Int) < r.X1 then (r.Y1 - r.Y0).toNat else 0 := fun x => by
    by_cases c : r.X0 ≤ (x : Int) ∧ (x : Int) < r.X1
    · rw [if_pos c]
      have e := sumN_span (n := n) (a := r.Y0) (b := r.Y1) (k := 1) (by omega) (by omega) hy
      have e2 : sumN n (fun y => if decide (HasR r (x : Int) (y : Int)) = true then 1 else 0) = sumN n (fun y => if r.Y0 ≤ (y : Int) ∧ (y : Int) < r.Y1 then 1 else 0) := sumN_congr fun y _ => by
        by_cases q : r.Y0 ≤ (y : Int) ∧ (y : Int) < r.Y1
        · rw [if_pos q, if_pos (decide_eq_true ⟨h, c.1, c.2, q.1, q.2⟩)]
        · rw [if_neg q, if_neg (by rw [decide_eq_true_eq]; exact fun w => q ⟨w.2.2.2.1, w.2.2.2.2⟩)]
      rw [e2]; omega
    · rw [if_neg c]
      rw [sumN_congr (g := fun _ => 0) (fun y _ => if_neg (by rw [decide_eq_true_eq]; exact fun w => c ⟨w.2.1, w.2.2.1⟩)), sumN_zero]
  unfold cntC
  rw [sumN_congr (fun x _ => col x)]
  rw [sumN_span (by omega) (by omega) hx]
  congr 1
  omega

/-- the areas of all rectangles of a list, together. -/
def areaL : List Rc → Int
  | [] => 0
  | r :: l => areaR r + areaL l
theorem areaL_append (l m : List Rc) : areaL (l ++ m) = areaL l + areaL m := by
  induction l with
  | nil => simp [areaL]
  | cons r l ih => simp only [List.cons_append, areaL, ih]; omega
/-- no two rectangles of a list have a common cell. -/
def Disj : List Rc → Prop
  | [] => True
  | r :: l => (∀ q ∈ l, ∀ x y, HasR r x y → ¬ HasR q x y) ∧ Disj l
theorem Disj.append {l m : List Rc} (hl : Disj l) (hm : Disj m) (h : ∀ r ∈ l, ∀ q ∈ m, ∀ x y, HasR r x y → ¬ HasR q x y) : Disj (l ++ m) := by
  induction l with
  | nil => exact hm
  | cons r l ih =>
    refine ⟨fun q hq => ?_, ih hl.2 (fun s hs => h s (List.mem_cons_of_mem _ hs))⟩
    rcases List.mem_append.1 hq with hq | hq
    · exact hl.1 q hq
    · exact h r List.mem_cons_self q hq
def hasD (l : List Rc) (x y : Int) : Bool := l.any fun r => decide (HasR r x y)
theorem hasD_iff (l : List Rc) (x y : Int) : hasD l x y = true ↔ HasL l x y := by
  unfold hasD HasL
  rw [List.any_eq_true]
  constructor
  · rintro ⟨r, hr, h⟩; exact ⟨r, hr, of_decide_eq_true h⟩
  · rintro ⟨r, hr, h⟩; exact ⟨r, hr, decide_eq_true h⟩
theorem area_cnt {n : Nat} : ∀ {l : List Rc}, Disj l → (∀ r ∈ l, ROk r ∧ r.X1 ≤ (n : Int) ∧ r.Y1 ≤ (n : Int)) → areaL l = cntC n (hasD l) := by
  intro l
  induction l with
  | nil => intro _ _; rw [cntC_none n (P := hasD []) (fun x y => rfl)]; rfl
  | cons r l ih =>
    intro hd hl
    obtain ⟨h1, h2, h3⟩ := hl r List.mem_cons_self
    have e := ih hd.2 (fun q hq => hl q (List.mem_cons_of_mem _ hq))
    have e1 := cntC_rect h1 h2 h3
    have s := cntC_add n (fun x y => decide (HasR r x y)) (hasD l)
    have z : cntC n (fun x y => decide (HasR r x y) && hasD l x y) = 0 := cntC_none n (fun x y => by
      rw [← Bool.not_eq_true, Bool.and_eq_true, hasD_iff]
      rintro ⟨k1, q, hq, k2⟩
      exact hd.1 q hq x y (of_decide_eq_true k1) k2)
    have u : cntC n (hasD (r :: l)) = cntC n (fun x y => decide (HasR r x y) || hasD l x y) := cntC_congr fun x y _ _ => rfl
    rw [areaL, u]
    omega
theorem twos_disj {x0 x1 : Int} : ∀ t, Even t → Asc t → Disj (rectsOf x0 x1 t) ∧ ∀ r ∈ rectsOf x0 x1 t, r.X0 = x0 ∧ r.X1 = x1 ∧ (∀ z, (∀ w ∈ t, z < w) → z < r.Y0) := by
  intro t he
  refine even_ind (P := fun t => Asc t → Disj (rectsOf x0 x1 t) ∧ ∀ r ∈ rectsOf x0 x1 t, r.X0 = x0 ∧ r.X1 = x1 ∧ (∀ z, (∀ w ∈ t, z < w) → z < r.Y0)) ?_ ?_ t he
  · intro _; exact ⟨trivial, fun r hr => by cases hr⟩
  · intro a b t _ ih ha
    obtain ⟨h1, h2⟩ := ih ha.2.tail
    refine ⟨⟨fun q hq x y k1 k2 => ?_, h1⟩, fun r hr => ?_⟩
    · have := (h2 q hq).2.2 b ha.2.lt
      have q1 := k1.2.2.2.2; have q2 := k2.2.2.2.1
      simp only [] at q1
      omega
    · rcases List.mem_cons.1 (show r ∈ ⟨x0, a, x1, b⟩ :: rectsOf x0 x1 t from hr) with rfl | hr
      · exact ⟨rfl, rfl, fun z hz => hz a List.mem_cons_self⟩
      · obtain ⟨k1, k2, k3⟩ := h2 r hr
        exact ⟨k1, k2, fun z hz => k3 z (fun w hw => hz w (List.mem_cons_of_mem _ (List.mem_cons_of_mem _ hw)))⟩
theorem slabs_disj : ∀ {S : List Slab}, SlabsOk S → Disj (flatS S) := by
  intro S
  induction S with
  | nil => intro _; trivial
  | cons s S ih =>
    intro h
    have k := h.head
    refine (twos_disj s.t k.ev k.asc).1.append (ih h.tail) (fun r hr q hq x y k1 k2 => ?_)
    obtain ⟨u, hu, hq⟩ := List.mem_flatMap.1 hq
    have ku := h.each u (List.mem_cons_of_mem _ hu)
    have e1 := ((twos_disj (x0 := s.x0) (x1 := s.x1) s.t k.ev k.asc).2 r hr).2.1
    have e2 := ((twos_disj (x0 := u.x0) (x1 := u.x1) u.t ku.ev ku.asc).2 q hq).1
    have := h.after u hu
    have q1 := k1.2.2.1; have q2 := k2.2.1
    omega
/-- the area of a form is the number of its cells. -/
theorem form_area {l : List Rc} (h : IsForm l) : areaL l = cntC 1048576 (hasD l) := by
  have hok := form_ok h
  obtain ⟨S, hS, rfl⟩ := h
  exact area_cnt (slabs_disj hS) (fun r hr => by
    have k := hok r hr
    exact ⟨k, by have := k.1.2.2; omega, by have := k.2.2.2; omega⟩)
def andnot (p q : Bool) : Bool := p && !q
end Go.Proofs.YtdnoadngfkiabaaGreat
namespace Go.Proofs.YtdnoadngfkiabaaGreat
open Go.RowKit

def In64 (n : Int) : Prop := -9223372036854775808 ≤ n ∧ n ≤ 9223372036854775807
def InR (r : Rc) : Prop := In64 r.X0 ∧ In64 r.Y0 ∧ In64 r.X1 ∧ In64 r.Y1
theorem bcell {W w1 : World} (hb : Below W.heap.size W w1) : (∀ b o, b < W.heap.size → w1.cell? ⟨b, o, none⟩ = W.cell? ⟨b, o, none⟩) ∧ (∀ b o, b < W.heap.size → w1.frozen? ⟨b, o, none⟩ = W.frozen? ⟨b, o, none⟩) :=
  ⟨fun b o h => hb.cell (p := ⟨b, o, none⟩) h, fun b o h => hb.frozen (p := ⟨b, o, none⟩) h⟩
theorem ret_bl {a b : Bool} (h : a = b) : Ending.returned (.bool a) = .returned (.bool b) := by rw [h]
/-- a bool, a number, a rectangle with a bool: in new memory. -/
def BlIs (b : Bool) (w : World) (e : Ending) (w' : World) : Prop := e = .returned (.bool b) ∧ Below w.heap.size w w'
def InIs (n : Int) (w : World) (e : Ending) (w' : World) : Prop := e = .returned (.int .i64 n) ∧ Below w.heap.size w w'
def RbIs (x : Rc × Bool) (w : World) (e : Ending) (w' : World) : Prop := e = .returned (.tuple #[.agg #[.int .i64 x.1.X0, .int .i64 x.1.Y0, .int .i64 x.1.X1, .int .i64 x.1.Y1], .bool x.2]) ∧ Below w.heap.size w w'
theorem RbIs.of {x : Rc × Bool} {w w' : World} {a b c d : Int} {f : Bool} (ha : a = x.1.X0) (hb : b = x.1.Y0) (hc : c = x.1.X1) (hd : d = x.1.Y1) (hf : f = x.2) (h : Below w.heap.size w w') :
    RbIs x w (.returned (.tuple #[.agg #[.int .i64 a, .int .i64 b, .int .i64 c, .int .i64 d], .bool f])) w' := by subst ha; subst hb; subst hc; subst hd; subst hf; exact ⟨rfl, h⟩
theorem InIs.of {n m : Int} {w w' : World} (h : n = m) (hb : Below w.heap.size w w') : InIs m w (.returned (.int .i64 n)) w' := by subst h; exact ⟨rfl, hb⟩

/-- block b holds the rectangle r. -/
def RcAt (w : World) (b : Nat) (r : Rc) : Prop := w.heap[b]? = some (.cells #[.int .i64 r.X0, .int .i64 r.Y0, .int .i64 r.X1, .int .i64 r.Y1] 33 (0, 0))
section
variable {w w' : World} {b : Nat} {r : Rc}
theorem RcAt.lt (h : RcAt w b r) : b < w.heap.size := (Array.getElem?_eq_some_iff.1 h).1
theorem RcAt.cell0 (h : RcAt w b r) : w.cell? ⟨b, 0, none⟩ = some (.int .i64 r.X0) := by rw [Lib.cell_of_heap h]; rfl
theorem RcAt.cell1 (h : RcAt w b r) : w.cell? ⟨b, 1, none⟩ = some (.int .i64 r.Y0) := by rw [Lib.cell_of_heap h]; rfl
theorem RcAt.cell2 (h : RcAt w b r) : w.cell? ⟨b, 2, none⟩ = some (.int .i64 r.X1) := by rw [Lib.cell_of_heap h]; rfl
theorem RcAt.cell3 (h : RcAt w b r) : w.cell? ⟨b, 3, none⟩ = some (.int .i64 r.Y1) := by rw [Lib.cell_of_heap h]; rfl
theorem RcAt.froz (h : RcAt w b r) (i : Nat) : w.frozen? ⟨b, i, none⟩ = false := Lib.frozen_of_heap h i
theorem RcAt.below {B : Nat} (h : RcAt w b r) (hg : Below B w w') (hr : b < B) : RcAt w' b r := (hg.block b hr).trans h
theorem RcAt.alloc (h : RcAt w b r) (o : Obj) : RcAt (w.alloc o) b r := h.below ((Below.refl _ _).alloc (Nat.le_refl _) o) h.lt
theorem RcAt.new (w : World) (r : Rc) (k : Nat) (h : k = w.heap.size) : RcAt (w.alloc (.cells #[.int .i64 r.X0, .int .i64 r.Y0, .int .i64 r.X1, .int .i64 r.Y1] 33)) k r := by subst h; exact heap_alloc_new w _
end
/-- a row of rectangles at an address. -/
def RRow (w : World) (A : Option Addr) (l : List Rc) : Prop := 0 < l.length → ∃ b off, A = some ⟨b, off, none⟩ ∧ b < w.heap.size ∧ ∀ j (h : j < l.length), w.cell? ⟨b, off + j * 4, none⟩ = some (.int .i64 l[j].X0) ∧ w.cell? ⟨b, off + j * 4 + 1, none⟩ = some (.int .i64 l[j].Y0) ∧ w.cell? ⟨b, off + j * 4 + 2, none⟩ = some (.int .i64 l[j].X1) ∧ w.cell? ⟨b, off + j * 4 + 3, none⟩ = some (.int .i64 l[j].Y1)
theorem RRow.below {w w' : World} {A : Option Addr} {l : List Rc} (h : RRow w A l) (hb : Below w.heap.size w w') : RRow w' A l := fun h0 => by
  obtain ⟨b, off, rfl, hl, hc⟩ := h h0
  exact ⟨b, off, rfl, Nat.lt_of_lt_of_le hl hb.size, fun j hj => ⟨(hb.cell (p := ⟨b, off + j * 4, none⟩) hl).trans (hc j hj).1, (hb.cell (p := ⟨b, off + j * 4 + 1, none⟩) hl).trans (hc j hj).2.1, (hb.cell (p := ⟨b, off + j * 4 + 2, none⟩) hl).trans (hc j hj).2.2.1, (hb.cell (p := ⟨b, off + j * 4 + 3, none⟩) hl).trans (hc j hj).2.2.2⟩⟩

theorem RcAt.c0 {w : World} {b : Nat} {p q r s : Int} (h : RcAt w b ⟨p, q, r, s⟩) : w.cell? ⟨b, 0, none⟩ = some (.int .i64 p) := h.cell0
theorem RcAt.c1 {w : World} {b : Nat} {p q r s : Int} (h : RcAt w b ⟨p, q, r, s⟩) : w.cell? ⟨b, 1, none⟩ = some (.int .i64 q) := h.cell1
theorem RcAt.c2 {w : World} {b : Nat} {p q r s : Int} (h : RcAt w b ⟨p, q, r, s⟩) : w.cell? ⟨b, 2, none⟩ = some (.int .i64 r) := h.cell2
theorem RcAt.c3 {w : World} {b : Nat} {p q r s : Int} (h : RcAt w b ⟨p, q, r, s⟩) : w.cell? ⟨b, 3, none⟩ = some (.int .i64 s) := h.cell3
/-- the rectangles at these blocks, and that nothing that was there at w0 has turned. -/
def Keep : List (Nat × Rc) → World → World → Prop
  | [], w0, w => Below w0.heap.size w0 w
  | (b, r) :: L, w0, w => RcAt w b r ∧ Keep L w0 w
theorem Keep.go : ∀ {L : List (Nat × Rc)} {w0 w w' : World}, Keep L w0 w → Below w.heap.size w w' → Keep L w0 w'
  | [], _, _, _, h, hb => Below.trans h (Below.mono hb (Below.size h))
  | (_, _) :: _, _, _, _, h, hb => ⟨h.1.below hb h.1.lt, Keep.go h.2 hb⟩
theorem Keep.below : ∀ {L : List (Nat × Rc)} {w0 w : World}, Keep L w0 w → Below w0.heap.size w0 w
  | [], _, _, h => h
  | (_, _) :: _, _, _, h => Keep.below h.2
theorem Keep.alloc {L : List (Nat × Rc)} {w0 w : World} (h : Keep L w0 w) (o : Obj) : Keep L w0 (w.alloc o) := h.go ((Below.refl _ _).alloc (Nat.le_refl _) o)
theorem Keep.drewN {L : List (Nat × Rc)} {w0 w : World} (h : Keep L w0 w) (n : Nat) : Keep L w0 (w.drewN n) := h.go (below_drewN (Below.refl _ _) n)
theorem Keep.new {L : List (Nat × Rc)} {w0 w : World} (h : Keep L w0 w) (r : Rc) : Keep ((w.heap.size, r) :: L) w0 (w.alloc (.cells #[.int .i64 r.X0, .int .i64 r.Y0, .int .i64 r.X1, .int .i64 r.Y1] 33)) := ⟨RcAt.new w r _ rfl, h.alloc _⟩
theorem Keep.nil (w : World) : Keep [] w w := Below.refl _ _

/-! ### lists of ints -/
def icells (l : List Int) : List Value := l.map (Value.int .i64)
/-- a list of ints at an address. -/
def IRow (w : World) (A : Option Addr) (l : List Int) : Prop := 0 < l.length → ∃ b off, A = some ⟨b, off, none⟩ ∧ b < w.heap.size ∧ ∀ j (h : j < l.length), w.cell? ⟨b, off + j, none⟩ = some (.int .i64 l[j])
theorem IRow.below {w w' : World} {A : Option Addr} {l : List Int} (h : IRow w A l) (hb : Below w.heap.size w w') : IRow w' A l := fun h0 => by
  obtain ⟨b, off, rfl, hl, hc⟩ := h h0
  exact ⟨b, off, rfl, Nat.lt_of_lt_of_le hl hb.size, fun j hj => (hb.cell (p := ⟨b, off + j, none⟩) hl).trans (hc j hj)⟩
theorem IRow.nil (w : World) (A : Option Addr) : IRow w A [] := fun h => absurd h (by simp)
theorem own_parts {w : World} {B e size n : Nat} {v : Value} {xs : List Value} (h : w.ownsRow B e size v n xs) :
    ∃ A cap, v = .slice A n cap ∧ (0 < n → ∃ g, A = some ⟨g, 0, none⟩ ∧ g < w.heap.size ∧ ∀ j, j < n * size → w.cell? ⟨g, j, none⟩ = xs[j]?) := by
  obtain ⟨hl, hv⟩ := h
  rcases hv with ⟨rfl, rfl⟩ | ⟨g, cap, cur, rfl, hB, hg, h2⟩
  · exact ⟨none, 0, rfl, fun h => absurd h (Nat.lt_irrefl _)⟩
  · refine ⟨_, cap, rfl, fun _ => ⟨g, rfl, ?_, fun j hj => ?_⟩⟩
    · rcases Nat.lt_or_ge g w.heap.size with hlt | hge
      · exact hlt
      · rw [Array.getElem?_eq_none hge] at hg; cases hg
    · exact World.ownsRow.cellAt ⟨hl, .inr ⟨g, cap, cur, rfl, hB, hg, h2⟩⟩ j hj
theorem IRow.of_own {w : World} {B : Nat} {v : Value} {l : List Int} (h : w.ownsRow B 3 1 v l.length (icells l)) : ∃ A cap, v = .slice A l.length cap ∧ IRow w A l := by
  obtain ⟨A, cap, rfl, hA⟩ := own_parts h
  refine ⟨A, cap, rfl, fun h0 => ?_⟩
  obtain ⟨g, rfl, hg, hc⟩ := hA h0
  exact ⟨g, 0, rfl, hg, fun j hj => by rw [Nat.zero_add, hc j (by omega)]; simp [icells, hj]⟩
end Go.Proofs.YtdnoadngfkiabaaGreat
