/-
  Plain mathematics of rectangles of cells (layer 5), as functions on integers, and what the statements say of them. No program in this text.
  Plain mathematics of regions (layer 6), 1: columns as ascending lists of the numbers at which they begin and end; slabs; that a set of cells has one form at most. No program in this text.
  Plain mathematics of regions (2): combining columns; growing a form slab by slab.
  Plain mathematics of regions (3): the edges of lists of rectangles; the form of a combination of two lists, that there is one.
  Plain mathematics of regions (4): the number of cells of a form; unions and intersections add up.
  What contracts over rectangles and lists of them say, for seats without layer 5's texts (as Ec, Eh, Ei, Eq hold it); lists of ints.
  Plain mathematics of regions (layer 6): the program's way to a column: the counts along the sorted lower and upper sides of the rectangles. No program in this text.
  Plain mathematics of regions (layer 6): what the counts of the sides say of the cells, and the program's loop over the slabs. No program in this text.
  Plain mathematics of regions (layer 6): the program's way to tell that a list is a form, and to add a slab at its end. No program in this text.
  Plain mathematics of regions (layer 6): the sorted sides of some lists, and what is kept between them. No program in this text.
  Plain mathematics of solids (layer 9), 1: lists of slabs, cross-sections, the one form of a set of cubes, and how it grows. No program in this text.
-/
import Derived.Lib.Hide
import Derived.Test.YtngddecpfhlilaaGreatProg
import Derived.WalkKit
import Derived.WalkLawsBesides
import Derived.WalkSpells
import Derived.Outline
import Derived.BigQuiet
import Derived.Deep.QuietTactic
import Derived.OwnWalk
import Derived.Deep.OwnRows
import Derived.Laws.OwnMore
import Derived.IntWalk
set_option linter.unusedVariables false
set_option maxRecDepth 100000
namespace Go.Proofs.YtngddecpfhlilaaGreat
structure Rc where
 X0 : Int
 Y0 : Int
 X1 : Int
 Y1 : Int
theorem Rc.eq {a b : Rc} (h0 : a.X0 = b.X0) (h1 : a.Y0 = b.Y0) (h2 : a.X1 = b.X1) (h3 : a.Y1 = b.Y1) : a = b := by
 cases a; cases b; simp at h0 h1 h2 h3; subst h0; subst h1; subst h2; subst h3; rfl
instance : DecidableEq Rc := fun a b => decidable_of_iff (a.X0 = b.X0 ∧ a.Y0 = b.Y0 ∧ a.X1 = b.X1 ∧ a.Y1 = b.Y1) ⟨fun h => Rc.eq h.1 h.2.1 h.2.2.1 h.2.2.2, fun h => by subst h; exact ⟨rfl, rfl, rfl, rfl⟩⟩
def zR : Rc := ⟨0, 0, 0, 0⟩
def Span (a b : Int) : Prop := 0 ≤ a ∧ a < b ∧ b ≤ 1048576
def ROk (r : Rc) : Prop := Span r.X0 r.X1 ∧ Span r.Y0 r.Y1
instance (r : Rc) : Decidable (ROk r) := by unfold ROk Span; infer_instance
def rokB (r : Rc) : Bool := decide (ROk r)
theorem rokB_iff (r : Rc) : rokB r = true ↔ ROk r := by simp [rokB]
theorem rokB_no (r : Rc) : rokB r = false ↔ ¬ ROk r := by simp [rokB]
def areaR (r : Rc) : Int := if ROk r then (r.X1 - r.X0) * (r.Y1 - r.Y0) else 0
def HasR (r : Rc) (x y : Int) : Prop := ROk r ∧ r.X0 ≤ x ∧ x < r.X1 ∧ r.Y0 ≤ y ∧ y < r.Y1
instance (r : Rc) (x y : Int) : Decidable (HasR r x y) := by unfold HasR; infer_instance
def InsideR (a b : Rc) : Prop := ROk a ∧ ROk b ∧ b.X0 ≤ a.X0 ∧ a.X1 ≤ b.X1 ∧ b.Y0 ≤ a.Y0 ∧ a.Y1 ≤ b.Y1
instance (a b : Rc) : Decidable (InsideR a b) := by unfold InsideR; infer_instance
def meetR (a b : Rc) : Rc := ⟨max a.X0 b.X0, max a.Y0 b.Y0, min a.X1 b.X1, min a.Y1 b.Y1⟩
def MeetR (a b : Rc) : Prop := ROk a ∧ ROk b ∧ ROk (meetR a b)
instance (a b : Rc) : Decidable (MeetR a b) := by unfold MeetR; infer_instance
def apartI (a b c d : Int) : Int := if b ≤ c then c - b + 1 else if d ≤ a then a - d + 1 else 0
def gapR (a b : Rc) : Int := if ROk a ∧ ROk b then max 0 (max (apartI a.X0 a.X1 b.X0 b.X1) (apartI a.Y0 a.Y1 b.Y0 b.Y1) - 1) else -1
def TouchR (a b : Rc) : Prop := ROk a ∧ ROk b ∧ apartI a.X0 a.X1 b.X0 b.X1 + apartI a.Y0 a.Y1 b.Y0 b.Y1 = 1
instance (a b : Rc) : Decidable (TouchR a b) := by unfold TouchR; infer_instance
def grownR (r : Rc) (d : Int) : Rc := ⟨max 0 (r.X0 - d), max 0 (r.Y0 - d), min 1048576 (r.X1 + d), min 1048576 (r.Y1 + d)⟩
def shrunkR (r : Rc) (d : Int) : Rc := ⟨r.X0 + d, r.Y0 + d, r.X1 - d, r.Y1 - d⟩
def shrinkR (r : Rc) (d : Int) : Rc × Bool := if ROk r ∧ 0 ≤ d ∧ ROk (shrunkR r d) then (shrunkR r d, true) else (zR, false)
theorem apart_comm {a b c d : Int} (h1 : a < b) (h2 : c < d) : apartI a b c d = apartI c d a b := by unfold apartI; split <;> split <;> (try split) <;> omega
theorem grown_ok {r : Rc} {d : Int} (h : ROk r) (hd : 0 ≤ d) : ROk (grownR r d) := by
 unfold ROk Span at h ⊢; simp only [grownR]; omega
theorem gap_comm (a b : Rc) : gapR a b = gapR b a := by
 unfold gapR
 by_cases h : ROk a ∧ ROk b
 ·rw [if_pos h, if_pos ⟨h.2, h.1⟩, apart_comm h.1.1.2.1 h.2.1.2.1, apart_comm h.1.2.2.1 h.2.2.2.1]
 ·rw [if_neg h, if_neg (fun k => h ⟨k.2, k.1⟩)]
theorem area_nn (r : Rc) : 0 ≤ areaR r := by
 unfold areaR; split
 ·rename_i h; unfold ROk Span at h; exact Int.mul_nonneg (by omega) (by omega)
 ·omega
theorem area_bd (r : Rc) : areaR r ≤ 1099511627776 := by
 unfold areaR; split
 ·rename_i h
  unfold ROk Span at h
  have h1 : r.X1 - r.X0 ≤ 1048576 := by omega
  have h2 : r.Y1 - r.Y0 ≤ 1048576 := by omega
  have := Int.mul_le_mul h1 h2 (by omega) (by omega)
  omega
 ·omega
def hullR (a b : Rc) : Rc := ⟨min a.X0 b.X0, min a.Y0 b.Y0, max a.X1 b.X1, max a.Y1 b.Y1⟩
theorem hull_ok {a b : Rc} (ha : ROk a) (hb : ROk b) : ROk (hullR a b) := by unfold ROk Span at *; simp only [hullR]; omega
theorem area_ok {r : Rc} (h : ROk r) : areaR r = (r.X1 - r.X0) * (r.Y1 - r.Y0) := by unfold areaR; rw [if_pos h]
theorem area_no {r : Rc} (h : ¬ ROk r) : areaR r = 0 := by unfold areaR; rw [if_neg h]
def boundsStep (s : Rc × Bool) (r : Rc) : Rc × Bool := if ROk r then (if s.2 then (hullR s.1 r, true) else (r, true)) else s
def boundsR (l : List Rc) : Rc × Bool := l.foldl boundsStep (zR, false)
theorem bounds_snoc (l : List Rc) (r : Rc) : boundsR (l ++ [r]) = boundsStep (boundsR l) r := by simp [boundsR, List.foldl_append]
end Go.Proofs.YtngddecpfhlilaaGreat
namespace Go.Proofs.YtngddecpfhlilaaGreat
def Asc : List Int → Prop
 | [] => True
 | [_] => True
 | a :: b :: t => a < b ∧ Asc (b :: t)
theorem Asc.tail {a : Int} {t : List Int} (h : Asc (a :: t)) : Asc t := by
 cases t with
 | nil => trivial
 | cons b t => exact h.2
theorem Asc.lt {a : Int} {t : List Int} (h : Asc (a :: t)) : ∀ x ∈ t, a < x := by
 induction t generalizing a with
 | nil => intro x hx; cases hx
 | cons b t ih =>
  intro x hx
  rcases List.mem_cons.1 hx with rfl | hx
  ·exact h.1
  ·have := ih h.2 x hx; have := h.1; omega
theorem Asc.cons {a : Int} {t : List Int} (h : Asc t) (ha : ∀ x ∈ t, a < x) : Asc (a :: t) := by
 cases t with
 | nil => trivial
 | cons b t => exact ⟨ha b List.mem_cons_self, h⟩
def cntT (t : List Int) (y : Int) : Nat := (t.filter fun a => decide (a ≤ y)).length
def inT (t : List Int) (y : Int) : Bool := cntT t y % 2 == 1
theorem cntT_cons (a : Int) (t : List Int) (y : Int) : cntT (a :: t) y = (if a ≤ y then 1 else 0) + cntT t y := by
 unfold cntT
 by_cases h : a ≤ y
 ·simp [h]; omega
 ·simp [h]
theorem cntT_zero {t : List Int} {y : Int} (h : ∀ x ∈ t, y < x) : cntT t y = 0 := by
 unfold cntT
 rw [List.length_eq_zero_iff, List.filter_eq_nil_iff]
 intro a ha
 have := h a ha
 simp only [decide_eq_true_eq]; omega
theorem cntT_all {t : List Int} {y : Int} (h : ∀ x ∈ t, x ≤ y) : cntT t y = t.length := by
 unfold cntT
 rw [List.filter_eq_self.2 (fun a ha => by simpa using h a ha)]
theorem inT_below {t : List Int} {y : Int} (h : ∀ x ∈ t, y < x) : inT t y = false := by unfold inT; rw [cntT_zero h]; rfl
theorem inT_cons {a : Int} {t : List Int} {y : Int} : inT (a :: t) y = (decide (a ≤ y) != inT t y) := by
 unfold inT
 rw [cntT_cons]
 by_cases h : a ≤ y
 ·simp only [h, if_true, decide_true]
  rw [Bool.eq_iff_iff]
  simp only [beq_iff_eq, bne_iff_ne, ne_eq]
  have : cntT t y % 2 = 0 ∨ cntT t y % 2 = 1 := by omega
  rcases this with k | k
  ·rw [k]; simp; omega
  ·rw [k]; simp; omega
 ·simp [h]
theorem col_eq : ∀ {t s : List Int}, Asc t → Asc s → (∀ y, inT t y = inT s y) → t = s := by
 intro t
 induction t with
 | nil =>
  intro s _ hs h
  cases s with
  | nil => rfl
  | cons b s =>
   have := h b
   rw [inT_cons, inT_below (t := s) hs.lt] at this
   simp [inT, cntT] at this
 | cons a t ih =>
  intro s ht hs h
  cases s with
  | nil =>
   have := h a
   rw [inT_cons, inT_below (t := t) ht.lt] at this
   simp [inT, cntT] at this
  | cons b s =>
   have hab : a = b := by
    rcases Int.lt_trichotomy a b with k | k | k
    ·exfalso
     have := h a
     rw [inT_cons, inT_below (t := t) ht.lt, inT_below (t := b :: s) (fun x hx => by rcases List.mem_cons.1 hx with rfl | hx; exact k; have := hs.lt x hx; omega)] at this
     simp at this
    ·exact k
    ·exfalso
     have := h b
     rw [inT_cons (a := b), inT_below (t := s) hs.lt, inT_below (t := a :: t) (fun x hx => by rcases List.mem_cons.1 hx with rfl | hx; exact k; have := ht.lt x hx; omega)] at this
     simp at this
   subst hab
   rw [ih ht.tail hs.tail (fun y => by
    have := h y
    rw [inT_cons, inT_cons] at this
    cases h1 : decide (a ≤ y) <;> simp only [h1] at this
    ·have h2 : ¬ a ≤ y := by simpa using h1
     rw [inT_below (fun x hx => by have := ht.lt x hx; omega), inT_below (fun x hx => by have := hs.lt x hx; omega)]
    ·cases h3 : inT t y <;> cases h4 : inT s y <;> rw [h3, h4] at this <;> simp at this <;> rfl)]
theorem col_some {t : List Int} (h : Asc t) (hne : t ≠ []) : ∃ y ∈ t, inT t y = true := by
 cases t with
 | nil => exact absurd rfl hne
 | cons a t => exact ⟨a, List.mem_cons_self, by rw [inT_cons, inT_below h.lt]; simp⟩
def twos : List Int → List (Int × Int)
 | a :: b :: t => (a, b) :: twos t
 | _ => []
def rectsOf (x0 x1 : Int) (t : List Int) : List Rc := (twos t).map fun p => ⟨x0, p.1, x1, p.2⟩
def HasL (l : List Rc) (x y : Int) : Prop := ∃ r ∈ l, HasR r x y
def Even (t : List Int) : Prop := t.length % 2 = 0
theorem even_ind {P : List Int → Prop} (h0 : P []) (h2 : ∀ a b t, Even t → P t → P (a :: b :: t)) : ∀ t, Even t → P t := by
 have key : ∀ n t, t.length ≤ n → Even t → P t := by
  intro n
  induction n with
  | zero => intro t hl _; rw [List.length_eq_zero_iff.1 (by omega : t.length = 0)]; exact h0
  | succ n ih =>
   intro t hl he
   match t with
   | [] => exact h0
   | [a] => exact absurd he (by unfold Even; simp)
   | a :: b :: t =>
    have e : Even t := by unfold Even at he ⊢; simp at he; omega
    exact h2 a b t e (ih t (by simp at hl; omega) e)
 intro t; exact key t.length t (Nat.le_refl _)
theorem inT_two {a b : Int} {t : List Int} (h : Asc (a :: b :: t)) (y : Int) : inT (a :: b :: t) y = true ↔ (a ≤ y ∧ y < b) ∨ inT t y = true := by
 have hb := h.2.lt
 rw [inT_cons, inT_cons]
 by_cases h1 : a ≤ y
 ·by_cases h2 : b ≤ y
  ·simp [h1, h2, show ¬ y < b by omega]
  ·have := inT_below (t := t) (y := y) (fun x hx => by have := hb x hx; omega)
   rw [this]; simp [h1, h2, show y < b by omega]
 ·have := h.1
  have h2 : ¬ b ≤ y := by omega
  simp [h1, h2]
def InG (t : List Int) : Prop := ∀ x ∈ t, 0 ≤ x ∧ x ≤ 1048576
theorem rects_has {x0 x1 : Int} (hx : Span x0 x1) : ∀ t, Even t → Asc t → InG t → ∀ x y, HasL (rectsOf x0 x1 t) x y ↔ x0 ≤ x ∧ x < x1 ∧ inT t y = true := by
 intro t he
 refine even_ind (P := fun t => Asc t → InG t → ∀ x y, HasL (rectsOf x0 x1 t) x y ↔ x0 ≤ x ∧ x < x1 ∧ inT t y = true) ?_ ?_ t he
 ·intro _ _ x y
  constructor
  ·rintro ⟨r, hr, _⟩; cases hr
  ·rintro ⟨_, _, h⟩; simp [inT, cntT] at h
 ·intro a b t _ ih ha hg x y
  have ht : Asc t := ha.2.tail
  have e : rectsOf x0 x1 (a :: b :: t) = ⟨x0, a, x1, b⟩ :: rectsOf x0 x1 t := rfl
  have hga := hg a List.mem_cons_self
  have hgb := hg b (List.mem_cons_of_mem _ List.mem_cons_self)
  have hs : ROk ⟨x0, a, x1, b⟩ := ⟨hx, hga.1, ha.1, hgb.2⟩
  have ih2 := ih ht (fun x hx => hg x (List.mem_cons_of_mem _ (List.mem_cons_of_mem _ hx))) x y
  rw [e, inT_two ha]
  constructor
  ·rintro ⟨r, hr, hh⟩
   rcases List.mem_cons.1 hr with rfl | hr
   ·exact ⟨hh.2.1, hh.2.2.1, Or.inl ⟨hh.2.2.2.1, hh.2.2.2.2⟩⟩
   ·obtain ⟨h1, h2, h3⟩ := ih2.1 ⟨r, hr, hh⟩
    exact ⟨h1, h2, Or.inr h3⟩
  ·rintro ⟨h1, h2, h3 | h3⟩
   ·exact ⟨_, List.mem_cons_self, hs, h1, h2, h3.1, h3.2⟩
   ·obtain ⟨r, hr, hh⟩ := ih2.2 ⟨h1, h2, h3⟩
    exact ⟨r, List.mem_cons_of_mem _ hr, hh⟩
structure Slab where
 x0 : Int
 x1 : Int
 t : List Int
structure SlabOk (s : Slab) : Prop where
 x : Span s.x0 s.x1
 ne : s.t ≠ []
 asc : Asc s.t
 ev : Even s.t
 gr : InG s.t
def Behind (s u : Slab) : Prop := s.x1 ≤ u.x0 ∧ (s.x1 = u.x0 → s.t ≠ u.t)
def SlabsOk : List Slab → Prop
 | [] => True
 | [s] => SlabOk s
 | s :: u :: S => SlabOk s ∧ Behind s u ∧ SlabsOk (u :: S)
theorem SlabsOk.head {s : Slab} {S : List Slab} (h : SlabsOk (s :: S)) : SlabOk s := by
 cases S with
 | nil => exact h
 | cons u S => exact h.1
theorem SlabsOk.tail {s : Slab} {S : List Slab} (h : SlabsOk (s :: S)) : SlabsOk S := by
 cases S with
 | nil => trivial
 | cons u S => exact h.2.2
theorem SlabsOk.after {s : Slab} {S : List Slab} (h : SlabsOk (s :: S)) : ∀ u ∈ S, s.x1 ≤ u.x0 := by
 induction S generalizing s with
 | nil => intro u hu; cases hu
 | cons v S ih =>
  intro u hu
  rcases List.mem_cons.1 hu with rfl | hu
  ·exact h.2.1.1
  ·have h1 := ih h.2.2 u hu
   have h2 := h.2.1.1
   have h3 := h.2.2.head.x.2.1
   omega
def flatS (S : List Slab) : List Rc := S.flatMap fun s => rectsOf s.x0 s.x1 s.t
def HasS (S : List Slab) (x y : Int) : Prop := ∃ s ∈ S, s.x0 ≤ x ∧ x < s.x1 ∧ inT s.t y = true
theorem SlabsOk.each : ∀ {S : List Slab}, SlabsOk S → ∀ s ∈ S, SlabOk s := by
 intro S
 induction S with
 | nil => intro _ s hs; cases hs
 | cons u S ih =>
  intro h s hs
  rcases List.mem_cons.1 hs with rfl | hs
  ·exact h.head
  ·exact ih h.tail s hs
theorem flat_has {S : List Slab} (h : SlabsOk S) (x y : Int) : HasL (flatS S) x y ↔ HasS S x y := by
 unfold flatS HasL
 constructor
 ·rintro ⟨r, hr, hh⟩
  obtain ⟨s, hs, hr⟩ := List.mem_flatMap.1 hr
  have k := h.each s hs
  obtain ⟨h1, h2, h3⟩ := (rects_has k.x s.t k.ev k.asc k.gr x y).1 ⟨r, hr, hh⟩
  exact ⟨s, hs, h1, h2, h3⟩
 ·rintro ⟨s, hs, h1, h2, h3⟩
  have k := h.each s hs
  obtain ⟨r, hr, hh⟩ := (rects_has k.x s.t k.ev k.asc k.gr x y).2 ⟨h1, h2, h3⟩
  exact ⟨r, List.mem_flatMap.2 ⟨s, hs, hr⟩, hh⟩
theorem slab_col {s : Slab} {S : List Slab} (h : SlabsOk (s :: S)) {x : Int} (h1 : x < s.x1) (y : Int) : HasS (s :: S) x y ↔ s.x0 ≤ x ∧ inT s.t y = true := by
 constructor
 ·rintro ⟨u, hu, h3, h4, h5⟩
  rcases List.mem_cons.1 hu with rfl | hu
  ·exact ⟨h3, h5⟩
  ·have := h.after u hu; omega
 ·rintro ⟨h3, h5⟩; exact ⟨s, List.mem_cons_self, h3, h1, h5⟩
theorem slab_rest {s : Slab} {S : List Slab} (h : SlabsOk (s :: S)) {x : Int} (h1 : s.x1 ≤ x) (y : Int) : HasS (s :: S) x y ↔ HasS S x y := by
 constructor
 ·rintro ⟨u, hu, h3, h4, h5⟩
  rcases List.mem_cons.1 hu with rfl | hu
  ·omega
  ·exact ⟨u, hu, h3, h4, h5⟩
 ·rintro ⟨u, hu, h⟩; exact ⟨u, List.mem_cons_of_mem _ hu, h⟩
theorem slab_none {s : Slab} {S : List Slab} (h : SlabsOk (s :: S)) {x : Int} (h1 : x < s.x1) (y : Int) : ¬ HasS S x y := by
 rintro ⟨u, hu, h3, h4, h5⟩
 have := h.after u hu; omega
theorem slabs_eq : ∀ {S T : List Slab}, SlabsOk S → SlabsOk T → (∀ x y, HasS S x y ↔ HasS T x y) → S = T := by
 intro S
 induction S with
 | nil =>
  intro T _ hT h
  cases T with
  | nil => rfl
  | cons u T =>
   exfalso
   have k := hT.head
   obtain ⟨y, _, hy⟩ := col_some k.asc k.ne
   obtain ⟨_, hs, _⟩ := (h u.x0 y).2 ((slab_col hT k.x.2.1 y).2 ⟨Int.le_refl _, hy⟩)
   cases hs
 | cons s S ih =>
  intro T hS hT h
  cases T with
  | nil =>
   exfalso
   have k := hS.head
   obtain ⟨y, _, hy⟩ := col_some k.asc k.ne
   obtain ⟨_, hs, _⟩ := (h s.x0 y).1 ((slab_col hS k.x.2.1 y).2 ⟨Int.le_refl _, hy⟩)
   cases hs
  | cons u T =>
   have ks := hS.head; have ku := hT.head
   have a1 := ks.x.2.1; have a2 := ku.x.2.1
   have e0 : s.x0 = u.x0 := by
    rcases Int.lt_trichotomy s.x0 u.x0 with k | k | k
    ·exfalso
     obtain ⟨y, _, hy⟩ := col_some ks.asc ks.ne
     have := (h s.x0 y).1 ((slab_col hS a1 y).2 ⟨Int.le_refl _, hy⟩)
     have := (slab_col hT (by omega) y).1 this
     omega
    ·exact k
    ·exfalso
     obtain ⟨y, _, hy⟩ := col_some ku.asc ku.ne
     have := (h u.x0 y).2 ((slab_col hT a2 y).2 ⟨Int.le_refl _, hy⟩)
     have := (slab_col hS (by omega) y).1 this
     omega
   have et : s.t = u.t := col_eq ks.asc ku.asc (fun y => by
    rw [Bool.eq_iff_iff]
    have h1 := slab_col hS a1 y
    have h2 := slab_col hT (x := s.x0) (by omega) y
    have h3 := h s.x0 y
    constructor
    ·intro q; exact (h2.1 (h3.1 (h1.2 ⟨Int.le_refl _, q⟩))).2
    ·intro q; exact (h1.1 (h3.2 (h2.2 ⟨by omega, q⟩))).2)
   have half : ∀ {s u : Slab} {S T : List Slab}, SlabsOk (s :: S) → SlabsOk (u :: T) → (∀ x y, HasS (s :: S) x y ↔ HasS (u :: T) x y) → s.x0 = u.x0 → s.t = u.t → ¬ s.x1 < u.x1 := by
    intro s u S T hS hT h e0 et hlt
    have ks := hS.head; have ku := hT.head
    have a1 := ks.x.2.1
    have col : ∀ y, HasS S s.x1 y ↔ inT s.t y = true := fun y => by
     rw [← slab_rest hS (Int.le_refl _) y, h s.x1 y, slab_col hT hlt y, et]
     exact ⟨fun q => q.2, fun q => ⟨by omega, q⟩⟩
    obtain ⟨y, _, hy⟩ := col_some ks.asc ks.ne
    obtain ⟨v, hv, v1, v2, v3⟩ := (col y).2 hy
    cases S with
    | nil => cases hv
    | cons z S =>
     have hz := hS.2.1
     have kz := hS.2.2.head
     have ez : z.x0 = s.x1 := by
      rcases List.mem_cons.1 hv with rfl | hv
      ·have := hz.1; omega
      ·have := hS.2.2.after v hv; have := kz.x.2.1; have := hz.1; omega
     refine hz.2 ez.symm (col_eq ks.asc kz.asc (fun y => ?_))
     rw [Bool.eq_iff_iff, ← col y]
     have := slab_col hS.2.2 (x := s.x1) (by have := kz.x.2.1; omega) y
     rw [this]
     exact ⟨fun q => q.2, fun q => ⟨by omega, q⟩⟩
   have e1 : s.x1 = u.x1 := by
    have h1 := half hS hT h e0 et
    have h2 := half hT hS (fun x y => (h x y).symm) e0.symm et.symm
    omega
   have es : s = u := by cases s; cases u; simp only [] at e0 e1 et; subst e0; subst e1; subst et; rfl
   subst es
   rw [ih hS.tail hT.tail (fun x y => by
    by_cases c : s.x1 ≤ x
    ·rw [← slab_rest hS c y, ← slab_rest hT c y]; exact h x y
    ·exact ⟨fun q => absurd q (slab_none hS (by omega) y), fun q => absurd q (slab_none hT (by omega) y)⟩)]
def IsForm (l : List Rc) : Prop := ∃ S, SlabsOk S ∧ l = flatS S
theorem form_eq {l m : List Rc} (hl : IsForm l) (hm : IsForm m) (h : ∀ x y, HasL l x y ↔ HasL m x y) : l = m := by
 obtain ⟨S, hS, rfl⟩ := hl
 obtain ⟨T, hT, rfl⟩ := hm
 rw [slabs_eq hS hT (fun x y => by rw [← flat_has hS, ← flat_has hT]; exact h x y)]
end Go.Proofs.YtngddecpfhlilaaGreat
namespace Go.Proofs.YtngddecpfhlilaaGreat
def combGo (op : Bool → Bool → Bool) (a b : List Int) (pa pb was : Bool) : List Int :=
 match a, b with
 | [], [] => []
 | x :: a, [] => if op (!pa) pb != was then x :: combGo op a [] (!pa) pb (op (!pa) pb) else combGo op a [] (!pa) pb (op (!pa) pb)
 | [], y :: b => if op pa (!pb) != was then y :: combGo op [] b pa (!pb) (op pa (!pb)) else combGo op [] b pa (!pb) (op pa (!pb))
 | x :: a, y :: b =>
  if x < y then (if op (!pa) pb != was then x :: combGo op a (y :: b) (!pa) pb (op (!pa) pb) else combGo op a (y :: b) (!pa) pb (op (!pa) pb))
  else if y < x then (if op pa (!pb) != was then y :: combGo op (x :: a) b pa (!pb) (op pa (!pb)) else combGo op (x :: a) b pa (!pb) (op pa (!pb)))
  else (if op (!pa) (!pb) != was then x :: combGo op a b (!pa) (!pb) (op (!pa) (!pb)) else combGo op a b (!pa) (!pb) (op (!pa) (!pb)))
termination_by a.length + b.length
def odd (t : List Int) : Bool := t.length % 2 == 1
theorem odd_cons (x : Int) (t : List Int) : odd (x :: t) = !odd t := by
 unfold odd
 rw [List.length_cons, Bool.eq_iff_iff]
 simp only [beq_iff_eq, Bool.not_eq_true', beq_eq_false_iff_ne, ne_eq]
 omega
theorem odd_even (t : List Int) : odd t = false ↔ Even t := by unfold odd Even; simp
theorem inT_nil (y : Int) : inT [] y = false := rfl
structure CombIs (op : Bool → Bool → Bool) (a b : List Int) (pa pb was : Bool) (c : List Int) : Prop where
 mem : ∀ z ∈ c, z ∈ a ∨ z ∈ b
 asc : Asc c
 inn : ∀ y, (was != inT c y) = op (pa != inT a y) (pb != inT b y)
 par : (was != odd c) = op (pa != odd a) (pb != odd b)
theorem comb_step {op : Bool → Bool → Bool} {a b a2 b2 : List Int} {pa pb was pa2 pb2 : Bool} {z : Int} {c : List Int}
  (hw : was = op pa pb) (hc : CombIs op a2 b2 pa2 pb2 (op pa2 pb2) c)
  (ha : ∀ x ∈ a2, z < x) (hb : ∀ x ∈ b2, z < x) (h1 : ∀ y, (pa != inT a y) = if z ≤ y then (pa2 != inT a2 y) else pa) (h2 : ∀ y, (pb != inT b y) = if z ≤ y then (pb2 != inT b2 y) else pb)
  (o1 : (pa != odd a) = (pa2 != odd a2)) (o2 : (pb != odd b) = (pb2 != odd b2)) (hz : z ∈ a ∨ z ∈ b) (m1 : ∀ x ∈ a2, x ∈ a) (m2 : ∀ x ∈ b2, x ∈ b) :
  CombIs op a b pa pb was (if op pa2 pb2 != was then z :: c else c) := by
 have hgt : ∀ x ∈ c, z < x := fun x hx => by rcases hc.mem x hx with h | h; exact ha x h; exact hb x h
 have hmem : ∀ x ∈ c, x ∈ a ∨ x ∈ b := fun x hx => (hc.mem x hx).imp (m1 x) (m2 x)
 have low : ∀ y, ¬ z ≤ y → inT c y = false := fun y hy => inT_below (fun x hx => by have := hgt x hx; omega)
 by_cases k : (op pa2 pb2 != was) = true
 ·rw [if_pos k]
  have k2 : op pa2 pb2 = !was := by cases h : op pa2 pb2 <;> cases h2 : was <;> rw [h, h2] at k <;> simp_all
  refine ⟨fun x hx => ?_, hc.asc.cons hgt, fun y => ?_, ?_⟩
  ·rcases List.mem_cons.1 hx with rfl | hx
   ·exact hz
   ·exact hmem x hx
  ·rw [h1 y, h2 y, inT_cons]
   by_cases q : z ≤ y
   ·rw [if_pos q, if_pos q, ← hc.inn y, k2]
    simp [q]
   ·rw [if_neg q, if_neg q, low y q, ← hw]; simp [q]
  ·rw [odd_cons, o1, o2, ← hc.par, k2]; simp
 ·rw [if_neg k]
  have k2 : op pa2 pb2 = was := by cases h : op pa2 pb2 <;> cases h2 : was <;> rw [h, h2] at k <;> simp_all
  refine ⟨hmem, hc.asc, fun y => ?_, ?_⟩
  ·rw [h1 y, h2 y]
   by_cases q : z ≤ y
   ·rw [if_pos q, if_pos q, ← hc.inn y, k2]
   ·rw [if_neg q, if_neg q, low y q, ← hw]; simp
  ·rw [o1, o2, ← hc.par, k2]
theorem flip_in {a : List Int} {x : Int} {pa : Bool} (h : ∀ z ∈ a, x < z) (y : Int) : (pa != inT (x :: a) y) = if x ≤ y then ((!pa) != inT a y) else pa := by
 rw [inT_cons]
 by_cases q : x ≤ y
 ·rw [if_pos q]; simp [q]
 ·rw [if_neg q, inT_below (fun z hz => by have := h z hz; omega)]; simp [q]
theorem stay_in {b : List Int} {x : Int} {pb : Bool} (h : ∀ z ∈ b, x < z) (y : Int) : (pb != inT b y) = if x ≤ y then (pb != inT b y) else pb := by
 by_cases q : x ≤ y
 ·rw [if_pos q]
 ·rw [if_neg q, inT_below (fun z hz => by have := h z hz; omega)]; simp
theorem flip_odd (a : List Int) (x : Int) (pa : Bool) : (pa != odd (x :: a)) = ((!pa) != odd a) := by rw [odd_cons]; simp
theorem not_mem_nil {P : Int → Prop} : ∀ z ∈ ([] : List Int), P z := fun z hz => by cases hz
theorem comb_is (op : Bool → Bool → Bool) : ∀ (n : Nat) (a b : List Int) (pa pb : Bool), a.length + b.length ≤ n → Asc a → Asc b → CombIs op a b pa pb (op pa pb) (combGo op a b pa pb (op pa pb)) := by
 intro n
 induction n with
 | zero =>
  intro a b pa pb hn _ _
  obtain rfl : a = [] := List.length_eq_zero_iff.1 (by omega)
  obtain rfl : b = [] := List.length_eq_zero_iff.1 (by omega)
  rw [combGo]
  exact ⟨not_mem_nil, trivial, fun y => by simp [inT_nil], by simp [odd]⟩
 | succ n ih =>
  intro a b pa pb hn ha hb
  match a, b, ha, hb with
  | [], [], _, _ =>
   rw [combGo]
   exact ⟨not_mem_nil, trivial, fun y => by simp [inT_nil], by simp [odd]⟩
  | x :: a, [], ha, hb =>
   rw [combGo]
   exact comb_step rfl (ih a [] (!pa) pb (by simp at hn ⊢; omega) ha.tail trivial) ha.lt not_mem_nil (flip_in ha.lt) (stay_in not_mem_nil) (flip_odd a x pa) rfl (Or.inl List.mem_cons_self) (fun z hz => List.mem_cons_of_mem _ hz) (fun z hz => hz)
  | [], y :: b, ha, hb =>
   rw [combGo]
   exact comb_step rfl (ih [] b pa (!pb) (by simp at hn ⊢; omega) trivial hb.tail) not_mem_nil hb.lt (stay_in not_mem_nil) (flip_in hb.lt) rfl (flip_odd b y pb) (Or.inr List.mem_cons_self) (fun z hz => hz) (fun z hz => List.mem_cons_of_mem _ hz)
  | x :: a, y :: b, ha, hb =>
   rw [combGo]
   by_cases h1 : x < y
   ·rw [if_pos h1]
    have hy : ∀ z ∈ y :: b, x < z := fun z hz => by rcases List.mem_cons.1 hz with rfl | hz; exact h1; have := hb.lt z hz; omega
    exact comb_step rfl (ih a (y :: b) (!pa) pb (by simp at hn ⊢; omega) ha.tail hb) ha.lt hy (flip_in ha.lt) (stay_in hy) (flip_odd a x pa) rfl (Or.inl List.mem_cons_self) (fun z hz => List.mem_cons_of_mem _ hz) (fun z hz => hz)
   ·rw [if_neg h1]
    by_cases h2 : y < x
    ·rw [if_pos h2]
     have hx : ∀ z ∈ x :: a, y < z := fun z hz => by rcases List.mem_cons.1 hz with rfl | hz; exact h2; have := ha.lt z hz; omega
     exact comb_step rfl (ih (x :: a) b pa (!pb) (by simp at hn ⊢; omega) ha hb.tail) hx hb.lt (stay_in hx) (flip_in hb.lt) rfl (flip_odd b y pb) (Or.inr List.mem_cons_self) (fun z hz => hz) (fun z hz => List.mem_cons_of_mem _ hz)
    ·rw [if_neg h2]
     obtain rfl : x = y := by omega
     exact comb_step rfl (ih a b (!pa) (!pb) (by simp at hn ⊢; omega) ha.tail hb.tail) ha.lt hb.lt (flip_in ha.lt) (flip_in hb.lt) (flip_odd a x pa) (flip_odd b x pb) (Or.inl List.mem_cons_self) (fun z hz => List.mem_cons_of_mem _ hz) (fun z hz => List.mem_cons_of_mem _ hz)
structure ColOk (t : List Int) : Prop where
 asc : Asc t
 ev : Even t
 gr : InG t
def comb (op : Bool → Bool → Bool) (a b : List Int) : List Int := combGo op a b false false false
theorem comb_col {op : Bool → Bool → Bool} (h0 : op false false = false) {a b : List Int} (ha : ColOk a) (hb : ColOk b) : ColOk (comb op a b) ∧ ∀ y, inT (comb op a b) y = op (inT a y) (inT b y) := by
 have h := comb_is op _ a b false false (Nat.le_refl _) ha.asc hb.asc
 rw [h0] at h
 refine ⟨⟨h.asc, ?_, fun z hz => ?_⟩, fun y => ?_⟩
 ·rw [← odd_even]
  have := h.par
  rw [(odd_even a).2 ha.ev, (odd_even b).2 hb.ev] at this
  simpa [h0, comb] using this
 ·rcases h.mem z hz with k | k
  ·exact ha.gr z k
  ·exact hb.gr z k
 ·have := h.inn y
  simpa [comb] using this
theorem col_nil : ColOk [] := ⟨trivial, (by unfold Even; rfl), not_mem_nil⟩
theorem col_one {a b : Int} (h : Span a b) : ColOk [a, b] := ⟨⟨h.2.1, trivial⟩, (by simp [Even]), fun z hz => by
 obtain ⟨h1, h2, h3⟩ := h
 simp at hz; rcases hz with rfl | rfl <;> omega⟩
theorem one_in {a b : Int} (h : Span a b) (y : Int) : inT [a, b] y = true ↔ a ≤ y ∧ y < b := by
 rw [inT_two (t := []) ⟨h.2.1, trivial⟩]; simp [inT_nil]
def colS : List Rc → Int → List Int
 | [], _ => []
 | r :: l, x => if r.X0 ≤ x ∧ x < r.X1 then comb or [r.Y0, r.Y1] (colS l x) else colS l x
theorem colS_is {l : List Rc} (hl : ∀ r ∈ l, ROk r) (x : Int) : ColOk (colS l x) ∧ ∀ y, inT (colS l x) y = true ↔ HasL l x y := by
 induction l with
 | nil => exact ⟨col_nil, fun y => ⟨fun h => by simp [colS, inT_nil] at h, fun ⟨r, hr, _⟩ => by cases hr⟩⟩
 | cons r l ih =>
  obtain ⟨h1, h2⟩ := ih (fun q hq => hl q (List.mem_cons_of_mem _ hq))
  have hr := hl r List.mem_cons_self
  unfold colS
  by_cases c : r.X0 ≤ x ∧ x < r.X1
  ·rw [if_pos c]
   obtain ⟨k1, k2⟩ := comb_col (op := or) rfl (col_one hr.2) h1
   refine ⟨k1, fun y => ?_⟩
   rw [k2 y, Bool.or_eq_true, one_in hr.2, h2 y]
   constructor
   ·rintro (h | ⟨q, hq, hh⟩)
    ·exact ⟨r, List.mem_cons_self, hr, c.1, c.2, h.1, h.2⟩
    ·exact ⟨q, List.mem_cons_of_mem _ hq, hh⟩
   ·rintro ⟨q, hq, hh⟩
    rcases List.mem_cons.1 hq with rfl | hq
    ·exact Or.inl ⟨hh.2.2.2.1, hh.2.2.2.2⟩
    ·exact Or.inr ⟨q, hq, hh⟩
  ·rw [if_neg c]
   refine ⟨h1, fun y => ?_⟩
   rw [h2 y]
   constructor
   ·rintro ⟨q, hq, hh⟩; exact ⟨q, List.mem_cons_of_mem _ hq, hh⟩
   ·rintro ⟨q, hq, hh⟩
    rcases List.mem_cons.1 hq with rfl | hq
    ·exact absurd ⟨hh.2.1, hh.2.2.1⟩ c
    ·exact ⟨q, hq, hh⟩
theorem SlabsOk.snoc : ∀ {S : List Slab} {u : Slab}, SlabsOk S → SlabOk u → (∀ s, S.getLast? = some s → Behind s u) → SlabsOk (S ++ [u]) := by
 intro S
 induction S with
 | nil => intro u _ hu _; exact hu
 | cons s S ih =>
  intro u hS hu hb
  cases S with
  | nil => exact ⟨hS, hb s rfl, hu⟩
  | cons v S => exact ⟨hS.1, hS.2.1, ih hS.2.2 hu (fun z hz => hb z (by rw [List.getLast?_cons_cons]; exact hz))⟩
theorem SlabsOk.init : ∀ {S : List Slab} {u : Slab}, SlabsOk (S ++ [u]) → SlabsOk S ∧ SlabOk u ∧ ∀ s, S.getLast? = some s → Behind s u := by
 intro S
 induction S with
 | nil => intro u h; exact ⟨trivial, h, fun s hs => by cases hs⟩
 | cons s S ih =>
  intro u h
  cases S with
  | nil => exact ⟨h.1, h.2.2, fun z hz => by simp at hz; subst hz; exact h.2.1⟩
  | cons v S =>
   obtain ⟨h1, h2, h3⟩ := ih h.2.2
   exact ⟨⟨h.1, h.2.1, h1⟩, h2, fun z hz => h3 z (by rw [List.getLast?_cons_cons] at hz; exact hz)⟩
def stepF (S : List Slab) (a b : Int) (c : List Int) : List Slab :=
 if c = [] then S else
 match S.getLast? with
 | some s => if s.x1 = a ∧ s.t = c then S.dropLast ++ [⟨s.x0, b, c⟩] else S ++ [⟨a, b, c⟩]
 | none => [⟨a, b, c⟩]
theorem has_snoc (S : List Slab) (u : Slab) (x y : Int) : HasS (S ++ [u]) x y ↔ HasS S x y ∨ (u.x0 ≤ x ∧ x < u.x1 ∧ inT u.t y = true) := by
 constructor
 ·rintro ⟨s, hs, h⟩
  rcases List.mem_append.1 hs with hs | hs
  ·exact Or.inl ⟨s, hs, h⟩
  ·rw [List.mem_singleton] at hs; subst hs; exact Or.inr h
 ·rintro (⟨s, hs, h⟩ | h)
  ·exact ⟨s, List.mem_append_left _ hs, h⟩
  ·exact ⟨u, List.mem_append_right _ (List.mem_singleton.2 rfl), h⟩
structure Grown (S : List Slab) (a : Int) : Prop where
 ok : SlabsOk S
 to : ∀ s ∈ S, s.x1 ≤ a
theorem step_is {S : List Slab} {a b : Int} {c : List Int} (h : Grown S a) (hab : Span a b) (hc : ColOk c) : Grown (stepF S a b c) b ∧ ∀ x y, HasS (stepF S a b c) x y ↔ HasS S x y ∨ (a ≤ x ∧ x < b ∧ inT c y = true) := by
 have h2 := hab.2.1
 unfold stepF
 by_cases h0 : c = []
 ·rw [if_pos h0]
  subst h0
  refine ⟨⟨h.ok, fun s hs => by have := h.to s hs; omega⟩, fun x y => ?_⟩
  simp [inT_nil]
 ·rw [if_neg h0]
  rcases List.eq_nil_or_concat S with rfl | ⟨T, s, rfl⟩
  ·refine ⟨⟨⟨hab, h0, hc.asc, hc.ev, hc.gr⟩, fun s hs => by simp at hs; subst hs; exact Int.le_refl _⟩, fun x y => ?_⟩
   exact has_snoc [] ⟨a, b, c⟩ x y
  ·rw [List.concat_eq_append] at *
   have hl : (T ++ [s]).getLast? = some s := by simp
   rw [hl]
   simp only []
   obtain ⟨k1, k2, k3⟩ := h.ok.init
   have hs1 := h.to s (by simp)
   by_cases hm : s.x1 = a ∧ s.t = c
   ·rw [if_pos hm]
    obtain ⟨rfl, rfl⟩ := hm
    rw [List.dropLast_concat]
    have hx := k2.x
    refine ⟨⟨k1.snoc ⟨⟨hx.1, by have := hx.2.1; simp only []; omega, hab.2.2⟩, h0, hc.asc, hc.ev, hc.gr⟩ (fun z hz => ?_), fun z hz => ?_⟩, fun x y => ?_⟩
    ·obtain ⟨q1, q2⟩ := k3 z hz
     exact ⟨q1, q2⟩
    ·rcases List.mem_append.1 hz with hz | hz
     ·have := h.to z (List.mem_append_left _ hz); omega
     ·rw [List.mem_singleton] at hz; subst hz; exact Int.le_refl _
    ·rw [has_snoc, has_snoc]
     simp only []
     have := hx.2.1
     constructor
     ·rintro (q | ⟨q1, q2, q3⟩)
      ·exact Or.inl (Or.inl q)
      ·by_cases q : x < s.x1
       ·exact Or.inl (Or.inr ⟨q1, q, q3⟩)
       ·exact Or.inr ⟨by omega, q2, q3⟩
     ·rintro ((q | ⟨q1, q2, q3⟩) | ⟨q1, q2, q3⟩)
      ·exact Or.inl q
      ·exact Or.inr ⟨q1, by omega, q3⟩
      ·exact Or.inr ⟨by omega, q2, q3⟩
   ·rw [if_neg hm]
    refine ⟨⟨h.ok.snoc ⟨hab, h0, hc.asc, hc.ev, hc.gr⟩ (fun z hz => ?_), fun z hz => ?_⟩, fun x y => has_snoc _ _ x y⟩
    ·rw [hl] at hz
     simp only [Option.some.injEq] at hz
     subst hz
     exact ⟨hs1, fun q1 q2 => hm ⟨q1, q2⟩⟩
    ·rcases List.mem_append.1 hz with hz | hz
     ·have := h.to z hz; omega
     ·rw [List.mem_singleton] at hz; subst hz; exact Int.le_refl _
def growF (c : Int → List Int) : List Slab → List Int → List Slab
 | S, a :: b :: E => growF c (stepF S a b (c a)) (b :: E)
 | S, _ => S
theorem grow_form {c : Int → List Int} (hc : ∀ x, ColOk (c x)) : ∀ (E : List Int) (S : List Slab) (a : Int), Asc (a :: E) → InG (a :: E) → Grown S a →
  SlabsOk (growF c S (a :: E)) ∧ ∀ x y, HasS (growF c S (a :: E)) x y ↔ HasS S x y ∨ ∃ p ∈ List.zip (a :: E) E, p.1 ≤ x ∧ x < p.2 ∧ inT (c p.1) y = true := by
 intro E
 induction E with
 | nil =>
  intro S a _ _ h
  refine ⟨h.ok, fun x y => ?_⟩
  show HasS S x y ↔ _
  simp
 | cons b E ih =>
  intro S a ha hg h
  have hab : Span a b := ⟨(hg a List.mem_cons_self).1, ha.1, (hg b (List.mem_cons_of_mem _ List.mem_cons_self)).2⟩
  obtain ⟨s1, s2⟩ := step_is h hab (hc a)
  obtain ⟨h1, h2⟩ := ih (stepF S a b (c a)) b ha.2 (fun z hz => hg z (List.mem_cons_of_mem _ hz)) s1
  refine ⟨h1, fun x y => ?_⟩
  have e : growF c S (a :: b :: E) = growF c (stepF S a b (c a)) (b :: E) := rfl
  rw [e, h2 x y, s2 x y]
  rw [List.zip_cons_cons]
  simp only [List.mem_cons, exists_eq_or_imp]
  exact or_assoc
end Go.Proofs.YtngddecpfhlilaaGreat
namespace Go.Proofs.YtngddecpfhlilaaGreat
def insS (x : Int) : List Int → List Int
 | [] => [x]
 | a :: t => if x < a then x :: a :: t else if x = a then a :: t else a :: insS x t
theorem insS_mem (x : Int) (t : List Int) (z : Int) : z ∈ insS x t ↔ z = x ∨ z ∈ t := by
 induction t with
 | nil => simp [insS]
 | cons a t ih =>
  unfold insS
  by_cases h1 : x < a
  ·rw [if_pos h1]; simp
  ·rw [if_neg h1]
   by_cases h2 : x = a
   ·rw [if_pos h2]; subst h2; simp
   ·rw [if_neg h2, List.mem_cons, ih, List.mem_cons]
    constructor
    ·rintro (h | h | h); exact Or.inr (Or.inl h); exact Or.inl h; exact Or.inr (Or.inr h)
    ·rintro (h | h | h); exact Or.inr (Or.inl h); exact Or.inl h; exact Or.inr (Or.inr h)
theorem insS_asc {x : Int} {t : List Int} (h : Asc t) : Asc (insS x t) := by
 induction t with
 | nil => trivial
 | cons a t ih =>
  unfold insS
  by_cases h1 : x < a
  ·rw [if_pos h1]; exact ⟨h1, h⟩
  ·rw [if_neg h1]
   by_cases h2 : x = a
   ·rw [if_pos h2]; exact h
   ·rw [if_neg h2]
    refine (ih h.tail).cons fun z hz => ?_
    rcases (insS_mem x t z).1 hz with rfl | hz
    ·omega
    ·exact h.lt z hz
def sortS (l : List Int) : List Int := l.foldl (fun t x => insS x t) []
theorem sortS_is (l : List Int) : Asc (sortS l) ∧ ∀ z, z ∈ sortS l ↔ z ∈ l := by
 have key : ∀ (l : List Int) (t : List Int), Asc t → Asc (l.foldl (fun t x => insS x t) t) ∧ ∀ z, z ∈ l.foldl (fun t x => insS x t) t ↔ z ∈ t ∨ z ∈ l := by
  intro l
  induction l with
  | nil => intro t h; exact ⟨h, fun z => by simp⟩
  | cons x l ih =>
   intro t h
   obtain ⟨h1, h2⟩ := ih (insS x t) (insS_asc h)
   refine ⟨h1, fun z => ?_⟩
   rw [List.foldl_cons, h2 z, insS_mem, List.mem_cons]
   constructor
   ·rintro ((h | h) | h); exact Or.inr (Or.inl h); exact Or.inl h; exact Or.inr (Or.inr h)
   ·rintro (h | h | h); exact Or.inl (Or.inr h); exact Or.inl (Or.inl h); exact Or.inr h
 obtain ⟨h1, h2⟩ := key l [] trivial
 exact ⟨h1, fun z => by rw [show sortS l = l.foldl (fun t x => insS x t) [] from rfl, h2 z]; simp⟩
theorem asc_eq : ∀ {t s : List Int}, Asc t → Asc s → (∀ z, z ∈ t ↔ z ∈ s) → t = s := by
 intro t
 induction t with
 | nil =>
  intro s _ _ h
  cases s with
  | nil => rfl
  | cons b s => have := (h b).2 List.mem_cons_self; cases this
 | cons a t ih =>
  intro s ht hs h
  cases s with
  | nil => have := (h a).1 List.mem_cons_self; cases this
  | cons b s =>
   have hab : a = b := by
    have h1 := (h a).1 List.mem_cons_self
    have h2 := (h b).2 List.mem_cons_self
    rcases List.mem_cons.1 h1 with e | h1
    ·exact e
    ·rcases List.mem_cons.1 h2 with e | h2
     ·exact e.symm
     ·have := hs.lt a h1; have := ht.lt b h2; omega
   subst hab
   rw [ih ht.tail hs.tail (fun z => by
    constructor
    ·intro hz
     rcases List.mem_cons.1 ((h z).1 (List.mem_cons_of_mem _ hz)) with rfl | k
     ·have := ht.lt z hz; omega
     ·exact k
    ·intro hz
     rcases List.mem_cons.1 ((h z).2 (List.mem_cons_of_mem _ hz)) with rfl | k
     ·have := hs.lt z hz; omega
     ·exact k)]
theorem zip_mem : ∀ {E : List Int} {a : Int} {p : Int × Int}, p ∈ List.zip (a :: E) E → p.1 ∈ a :: E ∧ p.2 ∈ E := by
 intro E
 induction E with
 | nil => intro a p h; simp at h
 | cons b E ih =>
  intro a p h
  rw [List.zip_cons_cons] at h
  rcases List.mem_cons.1 h with rfl | h
  ·exact ⟨List.mem_cons_self, List.mem_cons_self⟩
  ·obtain ⟨h1, h2⟩ := ih h
   exact ⟨List.mem_cons_of_mem _ h1, List.mem_cons_of_mem _ h2⟩
theorem zip_gap : ∀ {E : List Int} {a : Int}, Asc (a :: E) → ∀ p ∈ List.zip (a :: E) E, p.1 < p.2 ∧ ∀ e ∈ a :: E, e ≤ p.1 ∨ p.2 ≤ e := by
 intro E
 induction E with
 | nil => intro a _ p h; simp at h
 | cons b E ih =>
  intro a ha p h
  rw [List.zip_cons_cons] at h
  rcases List.mem_cons.1 h with rfl | hq
  ·refine ⟨ha.1, fun e he => ?_⟩
   rcases List.mem_cons.1 he with rfl | he
   ·exact Or.inl (Int.le_refl _)
   ·rcases List.mem_cons.1 he with rfl | he
    ·exact Or.inr (Int.le_refl _)
    ·exact Or.inr (by have := ha.2.lt e he; simp only []; omega)
  ·obtain ⟨h1, h2⟩ := ih ha.2 p hq
   refine ⟨h1, fun e he => ?_⟩
   rcases List.mem_cons.1 he with rfl | he
   ·have := (zip_mem hq).1
    left
    have := ha.lt p.1 this
    omega
   ·exact h2 e he
theorem zip_cover : ∀ {E : List Int} {a : Int}, Asc (a :: E) → ∀ {x : Int}, a ≤ x → (∃ e ∈ E, x < e) → ∃ p ∈ List.zip (a :: E) E, p.1 ≤ x ∧ x < p.2 := by
 intro E
 induction E with
 | nil => intro a _ x _ ⟨e, he, _⟩; cases he
 | cons b E ih =>
  intro a ha x hx ⟨e, he, hxe⟩
  rw [List.zip_cons_cons]
  by_cases hb : x < b
  ·exact ⟨(a, b), List.mem_cons_self, hx, hb⟩
  ·have : ∃ e ∈ E, x < e := by
    rcases List.mem_cons.1 he with rfl | he
    ·omega
    ·exact ⟨e, he, hxe⟩
   obtain ⟨p, hp, h⟩ := ih ha.2 (by omega) this
   exact ⟨p, List.mem_cons_of_mem _ hp, h⟩
def sides (l : List Rc) : List Int := l.flatMap fun r => [r.X0, r.X1]
theorem sides_mem {l : List Rc} {r : Rc} (h : r ∈ l) : r.X0 ∈ sides l ∧ r.X1 ∈ sides l :=
 ⟨List.mem_flatMap.2 ⟨r, h, List.mem_cons_self⟩, List.mem_flatMap.2 ⟨r, h, List.mem_cons_of_mem _ List.mem_cons_self⟩⟩
theorem sides_gr {l : List Rc} (h : ∀ r ∈ l, ROk r) : InG (sides l) := fun z hz => by
 obtain ⟨r, hr, hz⟩ := List.mem_flatMap.1 hz
 have := (h r hr).1
 unfold Span at this
 simp at hz; rcases hz with rfl | rfl <;> omega
theorem colS_same {l : List Rc} {x x' : Int} (h : ∀ r ∈ l, (r.X0 ≤ x ∧ x < r.X1) ↔ (r.X0 ≤ x' ∧ x' < r.X1)) : colS l x = colS l x' := by
 induction l with
 | nil => rfl
 | cons r l ih =>
  have e := ih (fun q hq => h q (List.mem_cons_of_mem _ hq))
  unfold colS
  by_cases c : r.X0 ≤ x ∧ x < r.X1
  ·rw [if_pos c, if_pos ((h r List.mem_cons_self).1 c), e]
  ·rw [if_neg c, if_neg (fun k => c ((h r List.mem_cons_self).2 k)), e]
def formS (op : Bool → Bool → Bool) (a b : List Rc) : List Slab := growF (fun x => comb op (colS a x) (colS b x)) [] (sortS (sides a ++ sides b))
noncomputable def hasB (l : List Rc) (x y : Int) : Bool := @decide (HasL l x y) (Classical.propDecidable _)
theorem hasB_iff (l : List Rc) (x y : Int) : hasB l x y = true ↔ HasL l x y := by unfold hasB; simp
theorem colS_has {l : List Rc} (hl : ∀ r ∈ l, ROk r) (x y : Int) : inT (colS l x) y = hasB l x y := by
 rw [Bool.eq_iff_iff, hasB_iff]; exact (colS_is hl x).2 y
theorem formS_is {op : Bool → Bool → Bool} (h0 : op false false = false) {a b : List Rc} (ha : ∀ r ∈ a, ROk r) (hb : ∀ r ∈ b, ROk r) :
  SlabsOk (formS op a b) ∧ ∀ x y, HasS (formS op a b) x y ↔ op (hasB a x y) (hasB b x y) = true := by
 have hcol : ∀ x, ColOk (comb op (colS a x) (colS b x)) := fun x => (comb_col h0 (colS_is ha x).1 (colS_is hb x).1).1
 have hin : ∀ x y, inT (comb op (colS a x) (colS b x)) y = op (hasB a x y) (hasB b x y) := fun x y => by
  rw [(comb_col h0 (colS_is ha x).1 (colS_is hb x).1).2 y, colS_has ha, colS_has hb]
 obtain ⟨e1, e2⟩ := sortS_is (sides a ++ sides b)
 unfold formS
 generalize hE : sortS (sides a ++ sides b) = E at *
 have some_side : ∀ x y, op (hasB a x y) (hasB b x y) = true → ∃ r, (r ∈ a ∨ r ∈ b) ∧ r.X0 ≤ x ∧ x < r.X1 := fun x y h => by
  cases k1 : hasB a x y
  ·cases k2 : hasB b x y
   ·rw [k1, k2, h0] at h; cases h
   ·obtain ⟨r, hr, hh⟩ := (hasB_iff b x y).1 k2
    exact ⟨r, Or.inr hr, hh.2.1, hh.2.2.1⟩
  ·obtain ⟨r, hr, hh⟩ := (hasB_iff a x y).1 k1
   exact ⟨r, Or.inl hr, hh.2.1, hh.2.2.1⟩
 have both_in : ∀ r, (r ∈ a ∨ r ∈ b) → r.X0 ∈ E ∧ r.X1 ∈ E := fun r hr => by
  rw [e2, e2]
  rcases hr with hr | hr
  ·exact ⟨List.mem_append_left _ (sides_mem hr).1, List.mem_append_left _ (sides_mem hr).2⟩
  ·exact ⟨List.mem_append_right _ (sides_mem hr).1, List.mem_append_right _ (sides_mem hr).2⟩
 cases E with
 | nil =>
  refine ⟨trivial, fun x y => ⟨fun ⟨s, hs, _⟩ => (by cases hs), fun h => ?_⟩⟩
  obtain ⟨r, hr, _⟩ := some_side x y h
  have := (both_in r hr).1
  cases this
 | cons e E =>
  have hg : InG (e :: E) := fun z hz => by
   rcases List.mem_append.1 ((e2 z).1 hz) with h | h
   ·exact sides_gr ha z h
   ·exact sides_gr hb z h
  obtain ⟨f1, f2⟩ := grow_form hcol E [] e e1 hg ⟨trivial, fun s hs => by cases hs⟩
  refine ⟨f1, fun x y => ?_⟩
  rw [f2 x y]
  have flat : ∀ p ∈ List.zip (e :: E) E, p.1 ≤ x → x < p.2 → inT (comb op (colS a p.1) (colS b p.1)) y = op (hasB a x y) (hasB b x y) := fun p hp h1 h2 => by
   rw [← hin x y]
   obtain ⟨g1, g2⟩ := zip_gap e1 p hp
   have same : ∀ r, (r ∈ a ∨ r ∈ b) → ((r.X0 ≤ x ∧ x < r.X1) ↔ (r.X0 ≤ p.1 ∧ p.1 < r.X1)) := fun r hr => by
    obtain ⟨q1, q2⟩ := both_in r hr
    have w1 := g2 _ q1; have w2 := g2 _ q2
    omega
   rw [colS_same (l := a) (fun r hr => same r (Or.inl hr)), colS_same (l := b) (fun r hr => same r (Or.inr hr))]
  constructor
  ·rintro (⟨s, hs, _⟩ | ⟨p, hp, h1, h2, h3⟩)
   ·cases hs
   ·rw [flat p hp h1 h2] at h3; exact h3
  ·intro h
   right
   obtain ⟨r, hr, r1, r2⟩ := some_side x y h
   obtain ⟨q1, q2⟩ := both_in r hr
   have le0 : e ≤ r.X0 := by
    rcases List.mem_cons.1 q1 with k | k
    ·omega
    ·have := e1.lt _ k; omega
   have inE : r.X1 ∈ E := by
    rcases List.mem_cons.1 q2 with k | k
    ·exfalso; omega
    ·exact k
   obtain ⟨p, hp, h1, h2⟩ := zip_cover e1 (x := x) (by omega) ⟨_, inE, r2⟩
   exact ⟨p, hp, h1, h2, by rw [flat p hp h1 h2]; exact h⟩
def formL (l : List Rc) : List Rc := flatS (formS or l [])
def formO (op : Bool → Bool → Bool) (a b : List Rc) : List Rc := flatS (formS op a b)
theorem formO_is {op : Bool → Bool → Bool} (h0 : op false false = false) {a b : List Rc} (ha : ∀ r ∈ a, ROk r) (hb : ∀ r ∈ b, ROk r) : IsForm (formO op a b) ∧ ∀ x y, HasL (formO op a b) x y ↔ op (hasB a x y) (hasB b x y) = true := by
 obtain ⟨h1, h2⟩ := formS_is h0 ha hb
 exact ⟨⟨_, h1, rfl⟩, fun x y => by unfold formO; rw [flat_has h1, h2]⟩
theorem formL_is {l : List Rc} (hl : ∀ r ∈ l, ROk r) : IsForm (formL l) ∧ ∀ x y, HasL (formL l) x y ↔ HasL l x y := by
 obtain ⟨h1, h2⟩ := formO_is (op := or) rfl hl (b := []) (fun r hr => by cases hr)
 refine ⟨h1, fun x y => ?_⟩
 have e : hasB [] x y = false := by rw [← Bool.not_eq_true, hasB_iff]; rintro ⟨r, hr, _⟩; cases hr
 rw [show formL l = formO or l [] from rfl, h2 x y, e, Bool.or_false, hasB_iff]
theorem rects_ok {x0 x1 : Int} (hx : Span x0 x1) : ∀ t, Even t → Asc t → InG t → ∀ r ∈ rectsOf x0 x1 t, ROk r := by
 intro t he
 refine even_ind (P := fun t => Asc t → InG t → ∀ r ∈ rectsOf x0 x1 t, ROk r) ?_ ?_ t he
 ·intro _ _ r hr; cases hr
 ·intro a b t _ ih ha hg r hr
  rcases List.mem_cons.1 (show r ∈ ⟨x0, a, x1, b⟩ :: rectsOf x0 x1 t from hr) with rfl | hr
  ·exact ⟨hx, (hg a List.mem_cons_self).1, ha.1, (hg b (List.mem_cons_of_mem _ List.mem_cons_self)).2⟩
  ·exact ih ha.2.tail (fun z hz => hg z (List.mem_cons_of_mem _ (List.mem_cons_of_mem _ hz))) r hr
theorem form_ok {l : List Rc} (h : IsForm l) : ∀ r ∈ l, ROk r := by
 obtain ⟨S, hS, rfl⟩ := h
 intro r hr
 obtain ⟨s, hs, hr⟩ := List.mem_flatMap.1 hr
 have k := hS.each s hs
 exact rects_ok k.x s.t k.ev k.asc k.gr r hr
end Go.Proofs.YtngddecpfhlilaaGreat
namespace Go.Proofs.YtngddecpfhlilaaGreat
def sumN : Nat → (Nat → Nat) → Nat
 | 0, _ => 0
 | n + 1, f => sumN n f + f n
theorem sumN_congr {n : Nat} {f g : Nat → Nat} (h : ∀ i, i < n → f i = g i) : sumN n f = sumN n g := by
 induction n with
 | zero => rfl
 | succ n ih => rw [sumN, sumN, ih (fun i hi => h i (by omega)), h n (by omega)]
theorem sumN_add (n : Nat) (f g : Nat → Nat) : sumN n (fun i => f i + g i) = sumN n f + sumN n g := by
 induction n with
 | zero => rfl
 | succ n ih => simp only [sumN]; rw [ih]; omega
theorem sumN_zero (n : Nat) : sumN n (fun _ => 0) = 0 := by
 induction n with
 | zero => rfl
 | succ n ih => rw [sumN, ih]
theorem sumN_span {n : Nat} {a b : Int} {k : Nat} (h0 : 0 ≤ a) (h1 : a ≤ b) (h2 : b ≤ (n : Int)) : (sumN n (fun i => if a ≤ (i : Int) ∧ (i : Int) < b then k else 0) : Int) = (b - a) * k := by
 have key : ∀ m : Nat, m ≤ n → (sumN m (fun i => if a ≤ (i : Int) ∧ (i : Int) < b then k else 0) : Int) = (max 0 (min b (m : Int) - a)) * k := by
  intro m
  induction m with
  | zero => intro _; rw [show max 0 (min b ((0 : Nat) : Int) - a) = 0 by omega]; simp [sumN]
  | succ m ih =>
   intro hm
   have e := ih (by omega)
   rw [sumN]
   by_cases c : a ≤ (m : Int) ∧ (m : Int) < b
   ·rw [if_pos c]
    have w : max 0 (min b ((m + 1 : Nat) : Int) - a) = max 0 (min b (m : Int) - a) + 1 := by omega
    rw [w, Int.natCast_add, e, Int.add_mul]; simp
   ·rw [if_neg c]
    have w : max 0 (min b ((m + 1 : Nat) : Int) - a) = max 0 (min b (m : Int) - a) := by omega
    rw [w, ← e]; simp
 rw [key n (Nat.le_refl _)]
 congr 1
 omega
def cntC (n : Nat) (P : Int → Int → Bool) : Nat := sumN n fun x => sumN n fun y => if P x y = true then 1 else 0
theorem cntC_congr {n : Nat} {P Q : Int → Int → Bool} (h : ∀ x y : Nat, x < n → y < n → P x y = Q x y) : cntC n P = cntC n Q :=
 sumN_congr fun x hx => sumN_congr fun y hy => by rw [h x y hx hy]
theorem cntC_add (n : Nat) (P Q : Int → Int → Bool) : cntC n (fun x y => P x y || Q x y) + cntC n (fun x y => P x y && Q x y) = cntC n P + cntC n Q := by
 unfold cntC
 rw [← sumN_add, ← sumN_add]
 refine sumN_congr fun x _ => ?_
 rw [← sumN_add, ← sumN_add]
 refine sumN_congr fun y _ => ?_
 by_cases h1 : P (x : Int) (y : Int) = true <;> by_cases h2 : Q (x : Int) (y : Int) = true <;> simp [h1, h2]
theorem cntC_none (n : Nat) {P : Int → Int → Bool} (h : ∀ x y, P x y = false) : cntC n P = 0 := by
 have e : cntC n P = sumN n (fun _ => sumN n fun _ => 0) := sumN_congr fun x _ => sumN_congr fun y _ => by rw [h]; rfl
 rw [e, sumN_congr (g := fun _ => 0) (fun _ _ => sumN_zero n), sumN_zero]
theorem cntC_rect {n : Nat} {r : Rc} (h : ROk r) (hx : r.X1 ≤ (n : Int)) (hy : r.Y1 ≤ (n : Int)) : (cntC n (fun x y => decide (HasR r x y)) : Int) = areaR r := by
 rw [area_ok h]
 have k := h
 unfold ROk Span at k
 have col : ∀ x : Nat, sumN n (fun y => if decide (HasR r (x : Int) (y : Int)) = true then 1 else 0) = if r.X0 ≤ (x : Int) ∧ (x : Int) < r.X1 then (r.Y1 - r.Y0).toNat else 0 := fun x => by
  by_cases c : r.X0 ≤ (x : Int) ∧ (x : Int) < r.X1
  ·rw [if_pos c]
   have e := sumN_span (n := n) (a := r.Y0) (b := r.Y1) (k := 1) (by omega) (by omega) hy
   have e2 : sumN n (fun y => if decide (HasR r (x : Int) (y : Int)) = true then 1 else 0) = sumN n (fun y => if r.Y0 ≤ (y : Int) ∧ (y : Int) < r.Y1 then 1 else 0) := sumN_congr fun y _ => by
    by_cases q : r.Y0 ≤ (y : Int) ∧ (y : Int) < r.Y1
    ·rw [if_pos q, if_pos (decide_eq_true ⟨h, c.1, c.2, q.1, q.2⟩)]
    ·rw [if_neg q, if_neg (by rw [decide_eq_true_eq]; exact fun w => q ⟨w.2.2.2.1, w.2.2.2.2⟩)]
   rw [e2]; omega
  ·rw [if_neg c]
   rw [sumN_congr (g := fun _ => 0) (fun y _ => if_neg (by rw [decide_eq_true_eq]; exact fun w => c ⟨w.2.1, w.2.2.1⟩)), sumN_zero]
 unfold cntC
 rw [sumN_congr (fun x _ => col x)]
 rw [sumN_span (by omega) (by omega) hx]
 congr 1
 omega
def areaL : List Rc → Int
 | [] => 0
 | r :: l => areaR r + areaL l
theorem areaL_append (l m : List Rc) : areaL (l ++ m) = areaL l + areaL m := by
 induction l with
 | nil => simp [areaL]
 | cons r l ih => simp only [List.cons_append, areaL, ih]; omega
def Disj : List Rc → Prop
 | [] => True
 | r :: l => (∀ q ∈ l, ∀ x y, HasR r x y → ¬ HasR q x y) ∧ Disj l
theorem Disj.append {l m : List Rc} (hl : Disj l) (hm : Disj m) (h : ∀ r ∈ l, ∀ q ∈ m, ∀ x y, HasR r x y → ¬ HasR q x y) : Disj (l ++ m) := by
 induction l with
 | nil => exact hm
 | cons r l ih =>
  refine ⟨fun q hq => ?_, ih hl.2 (fun s hs => h s (List.mem_cons_of_mem _ hs))⟩
  rcases List.mem_append.1 hq with hq | hq
  ·exact hl.1 q hq
  ·exact h r List.mem_cons_self q hq
def hasD (l : List Rc) (x y : Int) : Bool := l.any fun r => decide (HasR r x y)
theorem hasD_iff (l : List Rc) (x y : Int) : hasD l x y = true ↔ HasL l x y := by
 unfold hasD HasL
 rw [List.any_eq_true]
 constructor
 ·rintro ⟨r, hr, h⟩; exact ⟨r, hr, of_decide_eq_true h⟩
 ·rintro ⟨r, hr, h⟩; exact ⟨r, hr, decide_eq_true h⟩
theorem area_cnt {n : Nat} : ∀ {l : List Rc}, Disj l → (∀ r ∈ l, ROk r ∧ r.X1 ≤ (n : Int) ∧ r.Y1 ≤ (n : Int)) → areaL l = cntC n (hasD l) := by
 intro l
 induction l with
 | nil => intro _ _; rw [cntC_none n (P := hasD []) (fun x y => rfl)]; rfl
 | cons r l ih =>
  intro hd hl
  obtain ⟨h1, h2, h3⟩ := hl r List.mem_cons_self
  have e := ih hd.2 (fun q hq => hl q (List.mem_cons_of_mem _ hq))
  have e1 := cntC_rect h1 h2 h3
  have s := cntC_add n (fun x y => decide (HasR r x y)) (hasD l)
  have z : cntC n (fun x y => decide (HasR r x y) && hasD l x y) = 0 := cntC_none n (fun x y => by
   rw [← Bool.not_eq_true, Bool.and_eq_true, hasD_iff]
   rintro ⟨k1, q, hq, k2⟩
   exact hd.1 q hq x y (of_decide_eq_true k1) k2)
  have u : cntC n (hasD (r :: l)) = cntC n (fun x y => decide (HasR r x y) || hasD l x y) := cntC_congr fun x y _ _ => rfl
  rw [areaL, u]
  omega
theorem twos_disj {x0 x1 : Int} : ∀ t, Even t → Asc t → Disj (rectsOf x0 x1 t) ∧ ∀ r ∈ rectsOf x0 x1 t, r.X0 = x0 ∧ r.X1 = x1 ∧ (∀ z, (∀ w ∈ t, z < w) → z < r.Y0) := by
 intro t he
 refine even_ind (P := fun t => Asc t → Disj (rectsOf x0 x1 t) ∧ ∀ r ∈ rectsOf x0 x1 t, r.X0 = x0 ∧ r.X1 = x1 ∧ (∀ z, (∀ w ∈ t, z < w) → z < r.Y0)) ?_ ?_ t he
 ·intro _; exact ⟨trivial, fun r hr => by cases hr⟩
 ·intro a b t _ ih ha
  obtain ⟨h1, h2⟩ := ih ha.2.tail
  refine ⟨⟨fun q hq x y k1 k2 => ?_, h1⟩, fun r hr => ?_⟩
  ·have := (h2 q hq).2.2 b ha.2.lt
   have q1 := k1.2.2.2.2; have q2 := k2.2.2.2.1
   simp only [] at q1
   omega
  ·rcases List.mem_cons.1 (show r ∈ ⟨x0, a, x1, b⟩ :: rectsOf x0 x1 t from hr) with rfl | hr
   ·exact ⟨rfl, rfl, fun z hz => hz a List.mem_cons_self⟩
   ·obtain ⟨k1, k2, k3⟩ := h2 r hr
    exact ⟨k1, k2, fun z hz => k3 z (fun w hw => hz w (List.mem_cons_of_mem _ (List.mem_cons_of_mem _ hw)))⟩
theorem slabs_disj : ∀ {S : List Slab}, SlabsOk S → Disj (flatS S) := by
 intro S
 induction S with
 | nil => intro _; trivial
 | cons s S ih =>
  intro h
  have k := h.head
  refine (twos_disj s.t k.ev k.asc).1.append (ih h.tail) (fun r hr q hq x y k1 k2 => ?_)
  obtain ⟨u, hu, hq⟩ := List.mem_flatMap.1 hq
  have ku := h.each u (List.mem_cons_of_mem _ hu)
  have e1 := ((twos_disj (x0 := s.x0) (x1 := s.x1) s.t k.ev k.asc).2 r hr).2.1
  have e2 := ((twos_disj (x0 := u.x0) (x1 := u.x1) u.t ku.ev ku.asc).2 q hq).1
  have := h.after u hu
  have q1 := k1.2.2.1; have q2 := k2.2.1
  omega
theorem form_area {l : List Rc} (h : IsForm l) : areaL l = cntC 1048576 (hasD l) := by
 have hok := form_ok h
 obtain ⟨S, hS, rfl⟩ := h
 exact area_cnt (slabs_disj hS) (fun r hr => by
  have k := hok r hr
  exact ⟨k, by have := k.1.2.2; omega, by have := k.2.2.2; omega⟩)
theorem area_adds {l m u i : List Rc} (hl : IsForm l) (hm : IsForm m) (hu : IsForm u) (hi : IsForm i) (h1 : ∀ x y, HasL u x y ↔ HasL l x y ∨ HasL m x y) (h2 : ∀ x y, HasL i x y ↔ HasL l x y ∧ HasL m x y) : areaL u + areaL i = areaL l + areaL m := by
 rw [form_area hl, form_area hm, form_area hu, form_area hi]
 have s := cntC_add 1048576 (hasD l) (hasD m)
 have e1 : cntC 1048576 (hasD u) = cntC 1048576 (fun x y => hasD l x y || hasD m x y) := cntC_congr fun x y _ _ => by
  rw [Bool.eq_iff_iff, Bool.or_eq_true, hasD_iff, hasD_iff, hasD_iff]; exact h1 x y
 have e2 : cntC 1048576 (hasD i) = cntC 1048576 (fun x y => hasD l x y && hasD m x y) := cntC_congr fun x y _ _ => by
  rw [Bool.eq_iff_iff, Bool.and_eq_true, hasD_iff, hasD_iff, hasD_iff]; exact h2 x y
 rw [e1, e2]
 omega
def andnot (p q : Bool) : Bool := p && !q
end Go.Proofs.YtngddecpfhlilaaGreat
namespace Go.Proofs.YtngddecpfhlilaaGreat
open Go.RowKit
def In64 (n : Int) : Prop := -9223372036854775808 ≤ n ∧ n ≤ 9223372036854775807
def InR (r : Rc) : Prop := In64 r.X0 ∧ In64 r.Y0 ∧ In64 r.X1 ∧ In64 r.Y1
theorem bcell {W w1 : World} (hb : Below W.heap.size W w1) : (∀ b o, b < W.heap.size → w1.cell? ⟨b, o, none⟩ = W.cell? ⟨b, o, none⟩) ∧ (∀ b o, b < W.heap.size → w1.frozen? ⟨b, o, none⟩ = W.frozen? ⟨b, o, none⟩) :=
 ⟨fun b o h => hb.cell (p := ⟨b, o, none⟩) h, fun b o h => hb.frozen (p := ⟨b, o, none⟩) h⟩
theorem ret_bl {a b : Bool} (h : a = b) : Ending.returned (.bool a) = .returned (.bool b) := by rw [h]
def BlIs (b : Bool) (w : World) (e : Ending) (w' : World) : Prop := e = .returned (.bool b) ∧ Below w.heap.size w w'
def InIs (n : Int) (w : World) (e : Ending) (w' : World) : Prop := e = .returned (.int .i64 n) ∧ Below w.heap.size w w'
def RbIs (x : Rc × Bool) (w : World) (e : Ending) (w' : World) : Prop := e = .returned (.tuple #[.agg #[.int .i64 x.1.X0, .int .i64 x.1.Y0, .int .i64 x.1.X1, .int .i64 x.1.Y1], .bool x.2]) ∧ Below w.heap.size w w'
theorem RbIs.of {x : Rc × Bool} {w w' : World} {a b c d : Int} {f : Bool} (ha : a = x.1.X0) (hb : b = x.1.Y0) (hc : c = x.1.X1) (hd : d = x.1.Y1) (hf : f = x.2) (h : Below w.heap.size w w') :
  RbIs x w (.returned (.tuple #[.agg #[.int .i64 a, .int .i64 b, .int .i64 c, .int .i64 d], .bool f])) w' := by subst ha; subst hb; subst hc; subst hd; subst hf; exact ⟨rfl, h⟩
theorem InIs.of {n m : Int} {w w' : World} (h : n = m) (hb : Below w.heap.size w w') : InIs m w (.returned (.int .i64 n)) w' := by subst h; exact ⟨rfl, hb⟩
def RcAt (w : World) (b : Nat) (r : Rc) : Prop := w.heap[b]? = some (.cells #[.int .i64 r.X0, .int .i64 r.Y0, .int .i64 r.X1, .int .i64 r.Y1] 68 (0, 0))
section
variable {w w' : World} {b : Nat} {r : Rc}
theorem RcAt.lt (h : RcAt w b r) : b < w.heap.size := (Array.getElem?_eq_some_iff.1 h).1
theorem RcAt.cell0 (h : RcAt w b r) : w.cell? ⟨b, 0, none⟩ = some (.int .i64 r.X0) := by rw [Lib.cell_of_heap h]; rfl
theorem RcAt.cell1 (h : RcAt w b r) : w.cell? ⟨b, 1, none⟩ = some (.int .i64 r.Y0) := by rw [Lib.cell_of_heap h]; rfl
theorem RcAt.cell2 (h : RcAt w b r) : w.cell? ⟨b, 2, none⟩ = some (.int .i64 r.X1) := by rw [Lib.cell_of_heap h]; rfl
theorem RcAt.cell3 (h : RcAt w b r) : w.cell? ⟨b, 3, none⟩ = some (.int .i64 r.Y1) := by rw [Lib.cell_of_heap h]; rfl
theorem RcAt.below {B : Nat} (h : RcAt w b r) (hg : Below B w w') (hr : b < B) : RcAt w' b r := (hg.block b hr).trans h
theorem RcAt.alloc (h : RcAt w b r) (o : Obj) : RcAt (w.alloc o) b r := h.below ((Below.refl _ _).alloc (Nat.le_refl _) o) h.lt
theorem RcAt.new (w : World) (r : Rc) (k : Nat) (h : k = w.heap.size) : RcAt (w.alloc (.cells #[.int .i64 r.X0, .int .i64 r.Y0, .int .i64 r.X1, .int .i64 r.Y1] 68)) k r := by subst h; exact heap_alloc_new w _
end
def RRow (w : World) (A : Option Addr) (l : List Rc) : Prop := 0 < l.length → ∃ b off, A = some ⟨b, off, none⟩ ∧ b < w.heap.size ∧ ∀ j (h : j < l.length), w.cell? ⟨b, off + j * 4, none⟩ = some (.int .i64 l[j].X0) ∧ w.cell? ⟨b, off + j * 4 + 1, none⟩ = some (.int .i64 l[j].Y0) ∧ w.cell? ⟨b, off + j * 4 + 2, none⟩ = some (.int .i64 l[j].X1) ∧ w.cell? ⟨b, off + j * 4 + 3, none⟩ = some (.int .i64 l[j].Y1)
theorem RRow.below {w w' : World} {A : Option Addr} {l : List Rc} (h : RRow w A l) (hb : Below w.heap.size w w') : RRow w' A l := fun h0 => by
 obtain ⟨b, off, rfl, hl, hc⟩ := h h0
 exact ⟨b, off, rfl, Nat.lt_of_lt_of_le hl hb.size, fun j hj => ⟨(hb.cell (p := ⟨b, off + j * 4, none⟩) hl).trans (hc j hj).1, (hb.cell (p := ⟨b, off + j * 4 + 1, none⟩) hl).trans (hc j hj).2.1, (hb.cell (p := ⟨b, off + j * 4 + 2, none⟩) hl).trans (hc j hj).2.2.1, (hb.cell (p := ⟨b, off + j * 4 + 3, none⟩) hl).trans (hc j hj).2.2.2⟩⟩
theorem RcAt.c0 {w : World} {b : Nat} {p q r s : Int} (h : RcAt w b ⟨p, q, r, s⟩) : w.cell? ⟨b, 0, none⟩ = some (.int .i64 p) := h.cell0
theorem RcAt.c1 {w : World} {b : Nat} {p q r s : Int} (h : RcAt w b ⟨p, q, r, s⟩) : w.cell? ⟨b, 1, none⟩ = some (.int .i64 q) := h.cell1
theorem RcAt.c2 {w : World} {b : Nat} {p q r s : Int} (h : RcAt w b ⟨p, q, r, s⟩) : w.cell? ⟨b, 2, none⟩ = some (.int .i64 r) := h.cell2
theorem RcAt.c3 {w : World} {b : Nat} {p q r s : Int} (h : RcAt w b ⟨p, q, r, s⟩) : w.cell? ⟨b, 3, none⟩ = some (.int .i64 s) := h.cell3
def Keep : List (Nat × Rc) → World → World → Prop
 | [], w0, w => Below w0.heap.size w0 w
 | (b, r) :: L, w0, w => RcAt w b r ∧ Keep L w0 w
theorem Keep.go : ∀ {L : List (Nat × Rc)} {w0 w w' : World}, Keep L w0 w → Below w.heap.size w w' → Keep L w0 w'
 | [], _, _, _, h, hb => Below.trans h (Below.mono hb (Below.size h))
 | (_, _) :: _, _, _, _, h, hb => ⟨h.1.below hb h.1.lt, Keep.go h.2 hb⟩
theorem Keep.below : ∀ {L : List (Nat × Rc)} {w0 w : World}, Keep L w0 w → Below w0.heap.size w0 w
 | [], _, _, h => h
 | (_, _) :: _, _, _, h => Keep.below h.2
theorem Keep.alloc {L : List (Nat × Rc)} {w0 w : World} (h : Keep L w0 w) (o : Obj) : Keep L w0 (w.alloc o) := h.go ((Below.refl _ _).alloc (Nat.le_refl _) o)
theorem Keep.drewN {L : List (Nat × Rc)} {w0 w : World} (h : Keep L w0 w) (n : Nat) : Keep L w0 (w.drewN n) := h.go (below_drewN (Below.refl _ _) n)
theorem Keep.new {L : List (Nat × Rc)} {w0 w : World} (h : Keep L w0 w) (r : Rc) : Keep ((w.heap.size, r) :: L) w0 (w.alloc (.cells #[.int .i64 r.X0, .int .i64 r.Y0, .int .i64 r.X1, .int .i64 r.Y1] 68)) := ⟨RcAt.new w r _ rfl, h.alloc _⟩
theorem Keep.nil (w : World) : Keep [] w w := Below.refl _ _
def icells (l : List Int) : List Value := l.map (Value.int .i64)
def IRow (w : World) (A : Option Addr) (l : List Int) : Prop := 0 < l.length → ∃ b off, A = some ⟨b, off, none⟩ ∧ b < w.heap.size ∧ ∀ j (h : j < l.length), w.cell? ⟨b, off + j, none⟩ = some (.int .i64 l[j])
theorem IRow.below {w w' : World} {A : Option Addr} {l : List Int} (h : IRow w A l) (hb : Below w.heap.size w w') : IRow w' A l := fun h0 => by
 obtain ⟨b, off, rfl, hl, hc⟩ := h h0
 exact ⟨b, off, rfl, Nat.lt_of_lt_of_le hl hb.size, fun j hj => (hb.cell (p := ⟨b, off + j, none⟩) hl).trans (hc j hj)⟩
theorem IRow.nil (w : World) (A : Option Addr) : IRow w A [] := fun h => absurd h (by simp)
theorem own_parts {w : World} {B e size n : Nat} {v : Value} {xs : List Value} (h : w.ownsRow B e size v n xs) :
  ∃ A cap, v = .slice A n cap ∧ (0 < n → ∃ g, A = some ⟨g, 0, none⟩ ∧ g < w.heap.size ∧ ∀ j, j < n * size → w.cell? ⟨g, j, none⟩ = xs[j]?) := by
 obtain ⟨hl, hv⟩ := h
 rcases hv with ⟨rfl, rfl⟩ | ⟨g, cap, cur, rfl, hB, hg, h2⟩
 ·exact ⟨none, 0, rfl, fun h => absurd h (Nat.lt_irrefl _)⟩
 ·refine ⟨_, cap, rfl, fun _ => ⟨g, rfl, ?_, fun j hj => ?_⟩⟩
  ·rcases Nat.lt_or_ge g w.heap.size with hlt | hge
   ·exact hlt
   ·rw [Array.getElem?_eq_none hge] at hg; cases hg
  ·exact World.ownsRow.cellAt ⟨hl, .inr ⟨g, cap, cur, rfl, hB, hg, h2⟩⟩ j hj
theorem IRow.of_own {w : World} {B : Nat} {v : Value} {l : List Int} (h : w.ownsRow B 3 1 v l.length (icells l)) : ∃ A cap, v = .slice A l.length cap ∧ IRow w A l := by
 obtain ⟨A, cap, rfl, hA⟩ := own_parts h
 refine ⟨A, cap, rfl, fun h0 => ?_⟩
 obtain ⟨g, rfl, hg, hc⟩ := hA h0
 exact ⟨g, 0, rfl, hg, fun j hj => by rw [Nat.zero_add, hc j (by omega)]; simp [icells, hj]⟩
end Go.Proofs.YtngddecpfhlilaaGreat
namespace Go.Proofs.YtngddecpfhlilaaGreat
structure Ed where
 x0 : Int
 x1 : Int
 y : Int
 l : Nat
 s : Int
def ctE (a b : Int) (k : Nat) (e : Ed) : Int := if (e.x0 ≤ a ∧ b ≤ e.x1) ∧ e.l = k then e.s else 0
def sumE (f : Ed → Int) : List Ed → Int
 | [] => 0
 | e :: E => f e + sumE f E
theorem sumE_append (f : Ed → Int) (E F : List Ed) : sumE f (E ++ F) = sumE f E + sumE f F := by
 induction E with
 | nil => simp [sumE]
 | cons e E ih =>
  show f e + sumE f (E ++ F) = (f e + sumE f E) + sumE f F
  rw [ih]; omega
theorem sumE_perm {E F : List Ed} (h : E.Perm F) (f : Ed → Int) : sumE f E = sumE f F := by
 induction h with
 | nil => rfl
 | cons e _ ih => unfold sumE; rw [ih]
 | swap e g E => unfold sumE; unfold sumE; omega
 | trans _ _ h1 h2 => rw [h1, h2]
theorem sumE_zero {f : Ed → Int} {E : List Ed} (h : ∀ e ∈ E, f e = 0) : sumE f E = 0 := by
 induction E with
 | nil => rfl
 | cons e E ih => unfold sumE; rw [h e List.mem_cons_self, ih (fun g hg => h g (List.mem_cons_of_mem _ hg))]; rfl
def cntsE (a b : Int) (m : Nat) (E : List Ed) : List Int := (List.range m).map fun k => sumE (ctE a b k) E
theorem cntsE_len (a b : Int) (m : Nat) (E : List Ed) : (cntsE a b m E).length = m := by simp [cntsE]
theorem cntsE_at (a b : Int) (m : Nat) (E : List Ed) (k : Nat) (h : k < m) : (cntsE a b m E)[k]'(by rw [cntsE_len]; exact h) = sumE (ctE a b k) E := by simp [cntsE]
theorem cntsE_snoc (a b : Int) (m : Nat) (E : List Ed) (e : Ed) : cntsE a b m (E ++ [e]) = if e.x0 ≤ a ∧ b ≤ e.x1 then (cntsE a b m E).modify e.l (· + e.s) else cntsE a b m E := by
 split
 ·next h =>
  apply List.ext_getElem
  ·simp [cntsE]
  ·intro k h1 h2
   rw [List.getElem_modify]
   simp only [cntsE, List.getElem_map, List.getElem_range]
   rw [sumE_append]
   simp only [sumE, ctE, h, true_and, and_self]
   split <;> omega
 ·next h =>
  unfold cntsE
  apply List.map_congr_left
  intro k _
  rw [sumE_append]
  simp [sumE, ctE, h]
def upTo (y : Int) (E : List Ed) : List Ed := E.filter fun e => decide (e.y ≤ y)
def SortE (E : List Ed) : Prop := ∀ i j (hi : i < E.length) (hj : j < E.length), i ≤ j → E[i].y ≤ E[j].y
theorem upTo_take {E : List Ed} (hs : SortE E) {i : Nat} (hi : i < E.length) {y : Int} (h1 : E[i].y ≤ y) (h2 : ∀ h : i + 1 < E.length, y < E[i + 1].y) : upTo y E = E.take (i + 1) := by
 unfold upTo
 conv => lhs; rw [← List.take_append_drop (i + 1) E]
 rw [List.filter_append, List.filter_eq_self.2, List.filter_eq_nil_iff.2, List.append_nil]
 ·intro e he
  obtain ⟨j, hj, rfl⟩ := List.mem_iff_getElem.1 he
  simp only [List.length_drop] at hj
  rw [List.getElem_drop]
  have := hs (i + 1) (i + 1 + j) (by omega) (by omega) (by omega)
  have := h2 (by omega)
  simp only [decide_eq_true_eq]; omega
 ·intro e he
  obtain ⟨j, hj, rfl⟩ := List.mem_iff_getElem.1 he
  simp only [List.length_take] at hj
  rw [List.getElem_take]
  have := hs j i (by omega) hi (by omega)
  simp only [decide_eq_true_eq]; omega
theorem upTo_none {E : List Ed} (hs : SortE E) {y : Int} (h : ∀ h : 0 < E.length, y < E[0].y) : upTo y E = [] := by
 unfold upTo
 rw [List.filter_eq_nil_iff]
 intro e he
 obtain ⟨j, hj, rfl⟩ := List.mem_iff_getElem.1 he
 have := hs 0 j (by omega) hj (by omega)
 have := h (by omega)
 simp only [decide_eq_true_eq]; omega
theorem upTo_all {E : List Ed} {y : Int} (h : ∀ e ∈ E, e.y ≤ y) : upTo y E = E := by
 unfold upTo
 rw [List.filter_eq_self]
 intro e he; simpa using h e he
theorem Asc.snoc {T : List Int} (h : Asc T) {z : Int} (hz : ∀ x ∈ T, x < z) : Asc (T ++ [z]) := by
 induction T with
 | nil => trivial
 | cons a T ih =>
  rw [List.cons_append]
  refine Asc.cons (ih h.tail (fun x hx => hz x (List.mem_cons_of_mem _ hx))) (fun x hx => ?_)
  rcases List.mem_append.1 hx with hx | hx
  ·exact h.lt x hx
  ·rw [List.mem_singleton] at hx; subst hx; exact hz a List.mem_cons_self
theorem inT_all {T : List Int} {y : Int} (h : ∀ x ∈ T, x ≤ y) : inT T y = odd T := by unfold inT odd; rw [cntT_all h]
theorem inT_snoc_lt {T : List Int} {y z : Int} (h : y < z) : inT (T ++ [z]) y = inT T y := by
 unfold inT cntT
 rw [List.filter_append]
 simp [show ¬ z ≤ y by omega]
theorem odd_snoc (T : List Int) (z : Int) : odd (T ++ [z]) = !odd T := by
 unfold odd
 rw [List.length_append, List.length_singleton, Bool.eq_iff_iff]
 simp only [beq_iff_eq, Bool.not_eq_true', beq_eq_false_iff_ne, ne_eq]; omega
structure ColAt (K : Int → Bool) (E : List Ed) (i : Nat) (kept : Bool) (T : List Int) : Prop where
 asc : Asc T
 par : odd T = kept
 low : ∀ (h : i < E.length), ∀ z ∈ T, z < E[i].y
 inn : ∀ y, (∀ (h : i < E.length), y < E[i].y) → inT T y = K y
 gr : ∀ z ∈ T, ∃ e ∈ E, z = e.y
 len : T.length ≤ i
def TellsK (K : Int → Bool) (kp : List Int → Bool) (a b : Int) (m : Nat) (E : List Ed) : Prop := ∀ y, K y = kp (cntsE a b m (upTo y E))
def ZeroK (kp : List Int → Bool) (m : Nat) : Prop := kp (List.replicate m 0) = false
theorem cnts_nil (a b : Int) (m : Nat) : cntsE a b m [] = List.replicate m 0 := by
 apply List.ext_getElem
 ·simp [cntsE]
 ·intro k h1 h2; simp [cntsE, sumE]
theorem ColAt.start {K : Int → Bool} {kp : List Int → Bool} {a b : Int} {m : Nat} {E : List Ed} (hK : TellsK K kp a b m E) (h0 : ZeroK kp m) (hs : SortE E) : ColAt K E 0 false [] :=
 ⟨trivial, rfl, fun _ z hz => (by cases hz), fun y hy => by rw [hK y, upTo_none hs hy, cnts_nil, h0]; rfl, fun z hz => (by cases hz), Nat.le_refl _⟩
theorem ColAt.skip {K : Int → Bool} {E : List Ed} {i : Nat} {kept : Bool} {T : List Int} (h : ColAt K E i kept T) (hi : i + 1 < E.length) (he : E[i + 1].y = E[i].y) : ColAt K E (i + 1) kept T :=
 ⟨h.asc, h.par, fun _ z hz => by rw [he]; exact h.low (by omega) z hz, fun y hy => h.inn y (fun h' => by have := hy hi; rw [he] at this; exact this), h.gr, by have := h.len; omega⟩
section
variable {K : Int → Bool} {kp : List Int → Bool} {a b : Int} {m : Nat} {E : List Ed} {i : Nat} {kept : Bool} {T : List Int}
theorem ColAt.here (hK : TellsK K kp a b m E) (hs : SortE E) (hi : i < E.length) {y : Int} (h1 : E[i].y ≤ y) (h2 : ∀ h : i + 1 < E.length, y < E[i + 1].y) : K y = kp (cntsE a b m (E.take (i + 1))) := by
 rw [hK y, upTo_take hs hi h1 h2]
theorem ColAt.stay (h : ColAt K E i kept T) (hK : TellsK K kp a b m E) (hs : SortE E) (hi : i < E.length) (hn : ∀ h : i + 1 < E.length, E[i + 1].y ≠ E[i].y) (he : kp (cntsE a b m (E.take (i + 1))) = kept) : ColAt K E (i + 1) kept T := by
 refine ⟨h.asc, h.par, fun h' z hz => ?_, fun y hy => ?_, h.gr, by have := h.len; omega⟩
 ·have := h.low hi z hz; have := hs i (i + 1) hi h' (by omega); omega
 ·by_cases c : y < E[i].y
  ·exact h.inn y (fun _ => c)
  ·rw [ColAt.here hK hs hi (by omega) hy, he, inT_all (fun z hz => by have := h.low hi z hz; omega), h.par]
theorem ColAt.turn (h : ColAt K E i kept T) (hK : TellsK K kp a b m E) (hs : SortE E) (hi : i < E.length) (hn : ∀ h : i + 1 < E.length, E[i + 1].y ≠ E[i].y) {is : Bool} (he : kp (cntsE a b m (E.take (i + 1))) = is) (hne : is ≠ kept) : ColAt K E (i + 1) is (T ++ [E[i].y]) := by
 refine ⟨h.asc.snoc (h.low hi), ?_, fun h' z hz => ?_, fun y hy => ?_, fun z hz => ?_, by have := h.len; simp; omega⟩
 ·rw [odd_snoc, h.par]; cases is <;> cases kept <;> simp at hne ⊢
 ·have h3 := hs i (i + 1) hi h' (by omega)
  have h4 := hn h'
  rcases List.mem_append.1 hz with hz | hz
  ·have := h.low hi z hz; omega
  ·rw [List.mem_singleton] at hz; omega
 ·by_cases c : y < E[i].y
  ·rw [inT_snoc_lt c]; exact h.inn y (fun _ => c)
  ·rw [ColAt.here hK hs hi (by omega) hy, he, inT_all (fun z hz => ?_), odd_snoc, h.par]
   ·cases is <;> cases kept <;> simp at hne ⊢
   ·rcases List.mem_append.1 hz with hz | hz
    ·have := h.low hi z hz; omega
    ·rw [List.mem_singleton] at hz; omega
 ·rcases List.mem_append.1 hz with hz | hz
  ·exact h.gr z hz
  ·rw [List.mem_singleton] at hz; exact ⟨_, List.getElem_mem hi, hz⟩
theorem ColAt.done (h : ColAt K E E.length kept T) (hK : TellsK K kp a b m E) (h0 : ZeroK kp m) (hz : ∀ k, sumE (ctE a b k) E = 0) (hg : ∀ e ∈ E, 0 ≤ e.y ∧ e.y ≤ 1048576) : ColOk T ∧ ∀ y, inT T y = K y := by
 have hin : ∀ y, inT T y = K y := fun y => h.inn y (fun h' => absurd h' (Nat.lt_irrefl _))
 have hT : InG T := fun z hz => by obtain ⟨e, he, rfl⟩ := h.gr z hz; exact hg e he
 refine ⟨⟨h.asc, ?_, hT⟩, hin⟩
 rw [← odd_even, ← inT_all (y := 1048576) (fun z hz => (hT z hz).2), hin, hK, upTo_all (fun e he => (hg e he).2)]
 have : cntsE a b m E = List.replicate m 0 := by
  apply List.ext_getElem
  ·simp [cntsE]
  ·intro k h1 h2; simp [cntsE, hz]
 rw [this]; exact h0
end
def rectsUp (x0 x1 : Int) : List Int → List Rc
 | a :: b :: t => ⟨x0, a, x1, b⟩ :: rectsUp x0 x1 t
 | [a] => [⟨x0, a, x1, 0⟩]
 | [] => []
theorem rectsUp_even (x0 x1 : Int) : ∀ t, Even t → rectsUp x0 x1 t = rectsOf x0 x1 t := by
 intro t he
 refine even_ind (P := fun t => rectsUp x0 x1 t = rectsOf x0 x1 t) rfl (fun a b t _ ih => ?_) t he
 show _ :: _ = _
 rw [ih]; rfl
theorem rectsUp_begin (x0 x1 y : Int) : ∀ t, Even t → rectsUp x0 x1 (t ++ [y]) = rectsUp x0 x1 t ++ [⟨x0, y, x1, 0⟩] := by
 intro t he
 refine even_ind (P := fun t => rectsUp x0 x1 (t ++ [y]) = rectsUp x0 x1 t ++ [⟨x0, y, x1, 0⟩]) rfl (fun a b t _ ih => ?_) t he
 show _ :: rectsUp x0 x1 (t ++ [y]) = _ :: (rectsUp x0 x1 t ++ _)
 rw [ih]
theorem rectsUp_end (x0 x1 y : Int) : ∀ t, odd t = true → ∃ L z, rectsUp x0 x1 t = L ++ [⟨x0, z, x1, 0⟩] ∧ rectsUp x0 x1 (t ++ [y]) = L ++ [⟨x0, z, x1, y⟩] := by
 intro t
 match t with
 | [] => intro h; simp [odd] at h
 | [a] => intro _; exact ⟨[], a, rfl, rfl⟩
 | a :: b :: t =>
  intro h
  obtain ⟨L, z, h1, h2⟩ := rectsUp_end x0 x1 y t (by unfold odd at h ⊢; simp at h ⊢; omega)
  exact ⟨⟨x0, a, x1, b⟩ :: L, z, by unfold rectsUp; rw [h1]; rfl, by show _ :: rectsUp x0 x1 (t ++ [y]) = _; rw [h2]; rfl⟩
theorem rectsUp_len (x0 x1 : Int) : ∀ t : List Int, (rectsUp x0 x1 t).length ≤ t.length := by
 intro t
 match t with
 | [] => exact Nat.le_refl _
 | [a] => exact Nat.le_refl _
 | a :: b :: t =>
  have := rectsUp_len x0 x1 t
  unfold rectsUp; simp only [List.length_cons]; omega
end Go.Proofs.YtngddecpfhlilaaGreat
namespace Go.Proofs.YtngddecpfhlilaaGreat
def edgesOf (k : Nat) (l : List Rc) : List Ed := l.flatMap fun r => [⟨r.X0, r.X1, r.Y0, k, 1⟩, ⟨r.X0, r.X1, r.Y1, k, -1⟩]
def edgesFrom : Nat → List (List Rc) → List Ed
 | _, [] => []
 | k, l :: t => edgesOf k l ++ edgesFrom (k + 1) t
def covN (l : List Rc) (x y : Int) : Int := ((l.filter fun r => decide (HasR r x y)).length : Int)
theorem covN_cons (r : Rc) (l : List Rc) (x y : Int) : covN (r :: l) x y = (if HasR r x y then 1 else 0) + covN l x y := by
 unfold covN
 rw [List.filter_cons]
 by_cases h : HasR r x y
 ·simp [h]; omega
 ·simp [h]
theorem covN_pos (l : List Rc) (x y : Int) : 0 < covN l x y ↔ HasL l x y := by
 unfold covN HasL
 constructor
 ·intro h
  have : (l.filter fun r => decide (HasR r x y)) ≠ [] := by intro e; rw [e] at h; simp at h
  obtain ⟨r, hr⟩ := List.exists_mem_of_ne_nil _ this
  rw [List.mem_filter] at hr
  exact ⟨r, hr.1, by simpa using hr.2⟩
 ·rintro ⟨r, hr, h⟩
  have : r ∈ l.filter fun r => decide (HasR r x y) := List.mem_filter.2 ⟨hr, by simpa using h⟩
  have := List.length_pos_of_mem this
  omega
theorem covN_nn (l : List Rc) (x y : Int) : 0 ≤ covN l x y := by unfold covN; omega
def GapAB (a b : Int) (l : List Rc) : Prop := ∀ r ∈ l, (r.X0 ≤ a ∨ b ≤ r.X0) ∧ (r.X1 ≤ a ∨ b ≤ r.X1)
theorem upTo_append (y : Int) (E F : List Ed) : upTo y (E ++ F) = upTo y E ++ upTo y F := by unfold upTo; rw [List.filter_append]
theorem edges_cons (k : Nat) (r : Rc) (l : List Rc) : edgesOf k (r :: l) = [⟨r.X0, r.X1, r.Y0, k, 1⟩, ⟨r.X0, r.X1, r.Y1, k, -1⟩] ++ edgesOf k l := rfl
theorem edges_snoc (k : Nat) (r : Rc) (l : List Rc) : edgesOf k (l ++ [r]) = edgesOf k l ++ [⟨r.X0, r.X1, r.Y0, k, 1⟩, ⟨r.X0, r.X1, r.Y1, k, -1⟩] := by simp [edgesOf]
theorem edges_len (k : Nat) (l : List Rc) : (edgesOf k l).length = 2 * l.length := by
 induction l with
 | nil => rfl
 | cons r l ih => rw [edges_cons, List.length_append, ih]; simp; omega
theorem edges_list {k : Nat} {l : List Rc} {e : Ed} (h : e ∈ edgesOf k l) : e.l = k ∧ ∃ r ∈ l, (e.y = r.Y0 ∨ e.y = r.Y1) ∧ e.x0 = r.X0 ∧ e.x1 = r.X1 ∧ (e.s = 1 ∨ e.s = -1) := by
 obtain ⟨r, hr, he⟩ := List.mem_flatMap.1 h
 simp at he
 rcases he with rfl | rfl
 ·exact ⟨rfl, r, hr, Or.inl rfl, rfl, rfl, Or.inl rfl⟩
 ·exact ⟨rfl, r, hr, Or.inr rfl, rfl, rfl, Or.inr rfl⟩
theorem sum_list {a b : Int} (hab : a < b) (k : Nat) {l : List Rc} (hl : ∀ r ∈ l, ROk r) (hg : GapAB a b l) (y : Int) : sumE (ctE a b k) (upTo y (edgesOf k l)) = covN l a y := by
 induction l with
 | nil => rfl
 | cons r l ih =>
  rw [edges_cons, upTo_append, sumE_append, ih (fun q hq => hl q (List.mem_cons_of_mem _ hq)) (fun q hq => hg q (List.mem_cons_of_mem _ hq)), covN_cons]
  have hr := hl r List.mem_cons_self
  have h1 := hr.1; have h2 := hr.2
  obtain ⟨g1, g2⟩ := hg r List.mem_cons_self
  unfold Span at h1 h2
  have e : sumE (ctE a b k) (upTo y [⟨r.X0, r.X1, r.Y0, k, 1⟩, ⟨r.X0, r.X1, r.Y1, k, -1⟩]) = if HasR r a y then 1 else 0 := by
   by_cases c1 : r.Y0 ≤ y
   ·by_cases c2 : r.Y1 ≤ y
    ·have hn : ¬ HasR r a y := fun h => by have := h.2; omega
     rw [if_neg hn]
     simp only [upTo, List.filter_cons, c1, c2, decide_true, if_true, List.filter_nil, sumE, ctE]
     split <;> simp
    ·simp only [upTo, List.filter_cons, c1, c2, decide_true, decide_false, if_true, List.filter_nil, sumE, ctE]
     by_cases c3 : r.X0 ≤ a ∧ b ≤ r.X1
     ·have hn : HasR r a y := ⟨hr, by omega, by omega, by omega, by omega⟩
      simp [hn, c3, sumE]
     ·have hn : ¬ HasR r a y := fun h => by obtain ⟨_, q1, q2, q3, q4⟩ := h; omega
      simp [hn, c3, sumE]
   ·have hn : ¬ HasR r a y := fun h => by have := h.2; omega
    have c2 : ¬ r.Y1 ≤ y := by omega
    rw [if_neg hn]
    simp [upTo, c1, c2, sumE]
  rw [e]
theorem sum_other {a b : Int} {k k' : Nat} (h : k ≠ k') (l : List Rc) (y : Int) : sumE (ctE a b k) (upTo y (edgesOf k' l)) = 0 :=
 sumE_zero (fun e he => by
  have := (edges_list (List.mem_filter.1 he).1).1
  unfold ctE
  rw [if_neg]; rintro ⟨_, q⟩; exact h (by rw [← q, this]))
theorem sum_later {a b : Int} {k : Nat} : ∀ (LL : List (List Rc)) {k' : Nat}, k < k' → ∀ y, sumE (ctE a b k) (upTo y (edgesFrom k' LL)) = 0 := by
 intro LL
 induction LL with
 | nil => intro k' _ y; rfl
 | cons l LL ih => intro k' h y; rw [edgesFrom, upTo_append, sumE_append, sum_other (by omega), ih (by omega)]; rfl
theorem sum_from {a b : Int} (hab : a < b) : ∀ (LL : List (List Rc)) (k : Nat), (∀ l ∈ LL, ∀ r ∈ l, ROk r) → (∀ l ∈ LL, GapAB a b l) → ∀ (j : Nat) (h : j < LL.length) (y : Int),
  sumE (ctE a b (k + j)) (upTo y (edgesFrom k LL)) = covN LL[j] a y := by
 intro LL
 induction LL with
 | nil => intro k _ _ j h; simp at h
 | cons l LL ih =>
  intro k h1 h2 j h y
  rw [edgesFrom, upTo_append, sumE_append]
  cases j with
  | zero =>
   rw [Nat.add_zero, sum_list hab k (h1 l List.mem_cons_self) (h2 l List.mem_cons_self), sum_later LL (by omega)]
   simp
  | succ j =>
   rw [sum_other (by omega), show k + (j + 1) = k + 1 + j by omega, ih (k + 1) (fun m hm => h1 m (List.mem_cons_of_mem _ hm)) (fun m hm => h2 m (List.mem_cons_of_mem _ hm)) j (by simpa using h) y]
   simp
def keptB (kp : List Int → Bool) (LL : List (List Rc)) (x y : Int) : Bool := kp (LL.map fun l => covN l x y)
theorem tells {kp : List Int → Bool} {LL : List (List Rc)} {a b : Int} (hab : a < b) (hl : ∀ l ∈ LL, ∀ r ∈ l, ROk r) (hg : ∀ l ∈ LL, GapAB a b l) {E : List Ed} (hE : (edgesFrom 0 LL).Perm E) : TellsK (keptB kp LL a) kp a b LL.length E := by
 intro y
 unfold keptB
 congr 1
 apply List.ext_getElem
 ·simp [cntsE]
 ·intro j h1 h2
  have hj : j < LL.length := by simpa using h1
  rw [cntsE_at _ _ _ _ _ hj, List.getElem_map]
  have := sum_from hab LL 0 hl hg j hj y
  rw [Nat.zero_add] at this
  rw [← this]
  exact sumE_perm (hE.filter _) _
theorem sum_all (a b : Int) (k : Nat) {E F : List Ed} (h : E.Perm F) (hz : sumE (ctE a b k) E = 0) : sumE (ctE a b k) F = 0 := by rw [← sumE_perm h]; exact hz
theorem sum_whole (a b : Int) (k k' : Nat) (l : List Rc) : sumE (ctE a b k) (edgesOf k' l) = 0 := by
 induction l with
 | nil => rfl
 | cons r l ih =>
  rw [edges_cons, sumE_append, ih]
  simp only [sumE, ctE]
  split <;> simp
theorem sum_wholes (a b : Int) (k : Nat) : ∀ (LL : List (List Rc)) (k' : Nat), sumE (ctE a b k) (edgesFrom k' LL) = 0 := by
 intro LL
 induction LL with
 | nil => intro _; rfl
 | cons l LL ih => intro k'; rw [edgesFrom, sumE_append, sum_whole, ih]; rfl
theorem from_grid : ∀ {LL : List (List Rc)} {k : Nat} {e : Ed}, (∀ l ∈ LL, ∀ r ∈ l, ROk r) → e ∈ edgesFrom k LL → (0 ≤ e.y ∧ e.y ≤ 1048576) ∧ (k ≤ e.l ∧ e.l < k + LL.length) ∧ (0 ≤ e.x0 ∧ e.x0 ≤ 1048576) ∧ (0 ≤ e.x1 ∧ e.x1 ≤ 1048576) ∧ (e.s = 1 ∨ e.s = -1) := by
 intro LL
 induction LL with
 | nil => intro k e _ h; cases h
 | cons l LL ih =>
  intro k e hl h
  rcases List.mem_append.1 h with h | h
  ·obtain ⟨h1, r, hr, h2, h3, h4, h5⟩ := edges_list h
   have hr := hl l List.mem_cons_self r hr
   have q1 := hr.1; have q2 := hr.2
   unfold Span at q1 q2
   simp only [List.length_cons]
   refine ⟨by omega, by omega, by omega, by omega, h5⟩
  ·obtain ⟨h1, h2, h3⟩ := ih (fun m hm => hl m (List.mem_cons_of_mem _ hm)) h
   simp only [List.length_cons]
   exact ⟨h1, by omega, h3⟩
structure FmAt (K : Int → Int → Bool) (S : List Int) (i : Nat) (T : List Slab) : Prop where
 grown : ∀ h : i < S.length, Grown T S[i]
 has : ∀ (h : i < S.length) x y, x < S[i] → (HasS T x y ↔ K x y = true)
def SortN (S : List Int) : Prop := ∀ i j (hi : i < S.length) (hj : j < S.length), i ≤ j → S[i] ≤ S[j]
structure SidesOf (K : Int → Int → Bool) (S : List Int) : Prop where
 srt : SortN S
 gr : InG S
 out : ∀ x y, K x y = true → (∃ h : 0 < S.length, S[0] ≤ x) ∧ ∃ h : 0 < S.length, x < S[S.length - 1]
 flat : ∀ i (h : i + 1 < S.length) x y, S[i] ≤ x → x < S[i + 1] → K x y = K S[i] y
theorem FmAt.start {K : Int → Int → Bool} {S : List Int} (hS : SidesOf K S) : FmAt K S 0 [] :=
 ⟨fun _ => ⟨trivial, fun s hs => by cases hs⟩, fun h x y hx => ⟨fun ⟨s, hs, _⟩ => (by cases hs), fun hk => by obtain ⟨⟨_, h1⟩, _⟩ := hS.out x y hk; omega⟩⟩
theorem FmAt.skip {K : Int → Int → Bool} {S : List Int} {i : Nat} {T : List Slab} (h : FmAt K S i T) (hi : i + 1 < S.length) (e : S[i] = S[i + 1]) : FmAt K S (i + 1) T :=
 ⟨fun _ => by rw [← e]; exact h.grown (by omega), fun _ x y hx => h.has (by omega) x y (by rw [e]; exact hx)⟩
theorem FmAt.step {K : Int → Int → Bool} {S : List Int} {i : Nat} {T : List Slab} (h : FmAt K S i T) (hS : SidesOf K S) (hi : i + 1 < S.length) (hne : S[i] ≠ S[i + 1]) {c : List Int} (hc : ColOk c) (hin : ∀ y, inT c y = K S[i] y) : FmAt K S (i + 1) (stepF T S[i] S[i + 1] c) := by
 have hle := hS.srt i (i + 1) (by omega) hi (by omega)
 have hab : Span S[i] S[i + 1] := ⟨(hS.gr _ (List.getElem_mem (by omega))).1, by omega, (hS.gr _ (List.getElem_mem hi)).2⟩
 obtain ⟨h1, h2⟩ := step_is (h.grown (by omega)) hab hc
 refine ⟨fun _ => h1, fun _ x y hx => ?_⟩
 rw [h2 x y]
 by_cases c1 : x < S[i]
 ·rw [h.has (by omega) x y c1]
  exact ⟨fun q => by rcases q with q | q; exact q; omega, Or.inl⟩
 ·rw [hS.flat i hi x y (by omega) hx, ← hin y]
  constructor
  ·rintro (⟨s, hs, q1, q2, q3⟩ | q)
   ·have := (h.grown (by omega)).to s hs; omega
   ·exact q.2.2
  ·intro q; exact Or.inr ⟨by omega, hx, q⟩
theorem FmAt.done {K : Int → Int → Bool} {S : List Int} {T : List Slab} (h : FmAt K S (S.length - 1) T) (hS : SidesOf K S) (h0 : 0 < S.length) : SlabsOk T ∧ ∀ x y, HasS T x y ↔ K x y = true := by
 have hg := h.grown (by omega)
 refine ⟨hg.ok, fun x y => ?_⟩
 by_cases c : x < S[S.length - 1]
 ·exact h.has (by omega) x y c
 ·constructor
  ·rintro ⟨s, hs, q1, q2, q3⟩; have := hg.to s hs; omega
  ·intro q; obtain ⟨_, _, q2⟩ := hS.out x y q; omega
theorem step_len (T : List Slab) (a b : Int) (c : List Int) : (flatS T).length ≤ (flatS (stepF T a b c)).length := by
 unfold stepF
 split
 ·exact Nat.le_refl _
 ·rcases List.eq_nil_or_concat T with rfl | ⟨U, s, rfl⟩
  ·simp [flatS]
  ·rw [List.concat_eq_append]
   have hl : (U ++ [s]).getLast? = some s := by simp
   rw [hl]
   simp only []
   split
   ·next h =>
    rw [List.dropLast_concat]
    simp [flatS, rectsOf, h.2]
   ·simp [flatS]
theorem FmAt.le {K : Int → Int → Bool} {S : List Int} (hS : SidesOf K S) (hcol : ∀ i (h : i + 1 < S.length), ∃ c, ColOk c ∧ ∀ y, inT c y = K S[i] y) {F : List Rc} (hF : IsForm F) (hK : ∀ x y, HasL F x y ↔ K x y = true) :
  ∀ (n i : Nat) (T : List Slab), i + n + 1 = S.length → FmAt K S i T → (flatS T).length ≤ F.length := by
 intro n
 induction n with
 | zero =>
  intro i T hi h
  obtain rfl : i = S.length - 1 := by omega
  obtain ⟨h1, h2⟩ := h.done hS (by omega)
  rw [form_eq (l := flatS T) (m := F) ⟨T, h1, rfl⟩ hF (fun x y => by rw [flat_has h1, h2, hK])]
  exact Nat.le_refl _
 | succ n ih =>
  intro i T hi h
  by_cases e : S[i]'(by omega) = S[i + 1]'(by omega)
  ·exact ih (i + 1) T (by omega) (h.skip (by omega) e)
  ·obtain ⟨c, hc, hin⟩ := hcol i (by omega)
   exact Nat.le_trans (step_len T S[i] S[i + 1] c) (ih (i + 1) _ (by omega) (h.step hS (by omega) e hc hin))
end Go.Proofs.YtngddecpfhlilaaGreat
namespace Go.Proofs.YtngddecpfhlilaaGreat
structure FirstAt (l : List Rc) (n : Nat) : Prop where
 pos : 0 < n
 le : n ≤ l.length
 same : ∀ j (h : j < l.length), j < n → l[j].X0 = (l[0]'(by omega)).X0 ∧ l[j].X1 = (l[0]'(by omega)).X1
 stop : ∀ h : n < l.length, ¬ (l[n].X0 = (l[0]'(by omega)).X0 ∧ l[n].X1 = (l[0]'(by omega)).X1)
structure LastAt (l : List Rc) (n : Nat) : Prop where
 le : n ≤ l.length
 same : ∀ j (h : j < l.length), n ≤ j → l[j].X0 = (l[l.length - 1]'(by omega)).X0
 stop : ∀ h : 0 < n, l[n - 1].X0 ≠ (l[l.length - 1]'(by omega)).X0
def yyB (a b : Rc) : Bool := decide (a.Y0 = b.Y0 ∧ a.Y1 = b.Y1)
def yysB : List Rc → List Rc → Bool
 | [], [] => true
 | a :: l, b :: m => yyB a b && yysB l m
 | _, _ => false
def contB (l m : List Rc) (a b : Int) : Bool := decide (a = b) && yysB l m
def IsColP (l : List Rc) : Prop := ∀ j (h : j < l.length), ROk l[j] ∧ ∀ h0 : 0 < j, l[j - 1].Y1 < l[j].Y0
theorem IsColP.tail {a : Rc} {l : List Rc} (h : IsColP (a :: l)) : IsColP l := fun j hj => by
 obtain ⟨h1, h2⟩ := h (j + 1) (by simpa using hj)
 refine ⟨by simpa using h1, fun h0 => ?_⟩
 obtain ⟨j, rfl⟩ : ∃ i, j = i + 1 := ⟨j - 1, by omega⟩
 have := h2 (by omega)
 simpa using this
def tog (l : List Rc) : List Int := l.flatMap fun r => [r.Y0, r.Y1]
theorem tog_cons (r : Rc) (l : List Rc) : tog (r :: l) = r.Y0 :: r.Y1 :: tog l := rfl
theorem tog_even (l : List Rc) : Even (tog l) := by
 induction l with
 | nil => unfold Even; rfl
 | cons r l ih => rw [tog_cons]; unfold Even at *; simp; omega
theorem tog_ok {l : List Rc} (h : IsColP l) : ColOk (tog l) := by
 refine ⟨?_, tog_even l, ?_⟩
 ·induction l with
  | nil => trivial
  | cons r l ih =>
   rw [tog_cons]
   have hr := (h 0 (by simp)).1
   have ht := ih h.tail
   cases l with
   | nil => exact ⟨hr.2.2.1, trivial⟩
   | cons q l =>
    have := (h 1 (by simp)).2 (by omega)
    simp only [List.getElem_cons_succ, List.getElem_cons_zero, Nat.sub_self] at this
    rw [tog_cons] at ht ⊢
    exact ⟨hr.2.2.1, this, ht⟩
 ·intro z hz
  obtain ⟨r, hr, hz⟩ := List.mem_flatMap.1 hz
  obtain ⟨j, hj, rfl⟩ := List.mem_iff_getElem.1 hr
  have := (h j hj).1.2
  unfold Span at this
  simp at hz; rcases hz with rfl | rfl <;> omega
theorem tog_rects (x0 x1 : Int) : ∀ t, Even t → tog (rectsOf x0 x1 t) = t := by
 intro t he
 refine even_ind (P := fun t => tog (rectsOf x0 x1 t) = t) rfl (fun a b t _ ih => ?_) t he
 show a :: b :: tog (rectsOf x0 x1 t) = _
 rw [ih]
theorem rects_tog {x0 x1 : Int} {l : List Rc} (h : ∀ r ∈ l, r.X0 = x0 ∧ r.X1 = x1) : rectsOf x0 x1 (tog l) = l := by
 induction l with
 | nil => rfl
 | cons r l ih =>
  rw [tog_cons]
  show (⟨x0, r.Y0, x1, r.Y1⟩ : Rc) :: rectsOf x0 x1 (tog l) = _
  rw [ih (fun q hq => h q (List.mem_cons_of_mem _ hq))]
  obtain ⟨h1, h2⟩ := h r List.mem_cons_self
  congr 1
  exact Rc.eq h1.symm rfl h2.symm rfl
theorem rects_x {x0 x1 : Int} {t : List Int} {r : Rc} (h : r ∈ rectsOf x0 x1 t) : r.X0 = x0 ∧ r.X1 = x1 := by
 unfold rectsOf at h
 obtain ⟨p, _, rfl⟩ := List.mem_map.1 h
 exact ⟨rfl, rfl⟩
theorem rects_ne {x0 x1 : Int} {t : List Int} (he : Even t) (hne : t ≠ []) : 0 < (rectsOf x0 x1 t).length := by
 match t with
 | [] => exact absurd rfl hne
 | [a] => exact absurd he (by unfold Even; simp)
 | a :: b :: t => simp [rectsOf, twos]
theorem first_y {x0 x1 b : Int} : ∀ {t : List Int}, Asc (b :: t) → ∀ h : 0 < (rectsOf x0 x1 t).length, b < ((rectsOf x0 x1 t)[0]).Y0 := by
 intro t ha h
 match t with
 | [] => simp [rectsOf, twos] at h
 | [c] => simp [rectsOf, twos] at h
 | c :: d :: t => exact ha.1
theorem tog_len (l : List Rc) : (tog l).length = 2 * l.length := by
 induction l with
 | nil => rfl
 | cons r l ih => rw [tog_cons]; simp [ih]; omega
theorem rects_col {x0 x1 : Int} (hx : Span x0 x1) : ∀ t, Even t → Asc t → InG t → IsColP (rectsOf x0 x1 t) := by
 intro t he
 refine even_ind (P := fun t => Asc t → InG t → IsColP (rectsOf x0 x1 t)) (fun _ _ j h => by simp [rectsOf, twos] at h) (fun a b t he ih ha hg => ?_) t he
 have e : rectsOf x0 x1 (a :: b :: t) = ⟨x0, a, x1, b⟩ :: rectsOf x0 x1 t := rfl
 have hga := hg a List.mem_cons_self
 have hgb := hg b (List.mem_cons_of_mem _ List.mem_cons_self)
 have ih := ih ha.2.tail (fun z hz => hg z (List.mem_cons_of_mem _ (List.mem_cons_of_mem _ hz)))
 intro j hj
 simp only [e] at hj ⊢
 cases j with
 | zero => exact ⟨⟨hx, hga.1, ha.1, hgb.2⟩, fun h => absurd h (Nat.lt_irrefl _)⟩
 | succ j =>
  obtain ⟨k1, k2⟩ := ih j (by simpa using hj)
  refine ⟨by simpa using k1, fun _ => ?_⟩
  cases j with
  | zero =>
   simp only [List.getElem_cons_succ, List.getElem_cons_zero, Nat.add_sub_cancel]
   exact first_y ha.2 _
  | succ j =>
   have := k2 (by omega)
   simpa using this
theorem yys_tog : ∀ {l m : List Rc}, yysB l m = true ↔ tog l = tog m := by
 intro l
 induction l with
 | nil => intro m; cases m with
  | nil => simp [yysB]
  | cons b m => simp [yysB, tog]
 | cons a l ih =>
  intro m
  cases m with
  | nil => simp [yysB, tog]
  | cons b m => rw [tog_cons, tog_cons]; simp [yysB, yyB, ih, and_assoc]
theorem yys_rects {a b c d : Int} {s t : List Int} (hs : Even s) (ht : Even t) : yysB (rectsOf a b s) (rectsOf c d t) = true ↔ s = t := by
 rw [yys_tog, tog_rects _ _ _ hs, tog_rects _ _ _ ht]
theorem flat_cons (t : Slab) (T : List Slab) : flatS (t :: T) = rectsOf t.x0 t.x1 t.t ++ flatS T := by simp [flatS]
theorem flat_append (S T : List Slab) : flatS (S ++ T) = flatS S ++ flatS T := by simp [flatS]
theorem first_slab {t : Slab} {T : List Slab} (h : SlabsOk (t :: T)) {n : Nat} (hn : FirstAt (flatS (t :: T)) n) : n = (rectsOf t.x0 t.x1 t.t).length := by
 have k := h.head
 have hp := rects_ne (x0 := t.x0) (x1 := t.x1) k.ev k.ne
 obtain ⟨h1, h2, h3, h4⟩ := hn
 have e0 : ((flatS (t :: T))[0]'(by rw [flat_cons, List.length_append]; omega)).X0 = t.x0 := by
  simp only [flat_cons]
  rw [List.getElem_append_left hp]
  exact (rects_x (List.getElem_mem hp)).1
 have e1 : ((flatS (t :: T))[0]'(by rw [flat_cons, List.length_append]; omega)).X1 = t.x1 := by
  simp only [flat_cons]
  rw [List.getElem_append_left hp]
  exact (rects_x (List.getElem_mem hp)).2
 rcases Nat.lt_trichotomy n (rectsOf t.x0 t.x1 t.t).length with c | c | c
 ·exfalso
  refine h4 (by rw [flat_cons, List.length_append]; omega) ⟨?_, ?_⟩
  ·rw [e0]; simp only [flat_cons]; rw [List.getElem_append_left c]; exact (rects_x (List.getElem_mem c)).1
  ·rw [e1]; simp only [flat_cons]; rw [List.getElem_append_left c]; exact (rects_x (List.getElem_mem c)).2
 ·exact c
 ·exfalso
  have hlen : (rectsOf t.x0 t.x1 t.t).length < (flatS (t :: T)).length := by omega
  have := (h3 _ hlen c).1
  rw [e0] at this
  simp only [flat_cons] at this hlen
  rw [List.getElem_append_right (Nat.le_refl _)] at this
  rw [List.length_append] at hlen
  have hm : (flatS T)[(rectsOf t.x0 t.x1 t.t).length - (rectsOf t.x0 t.x1 t.t).length]'(by omega) ∈ flatS T := List.getElem_mem _
  obtain ⟨u, hu, hr⟩ := List.mem_flatMap.1 hm
  have g1 := (rects_x hr).1
  have g2 := h.after u hu
  have g3 := k.x.2.1
  rw [g1] at this
  omega
theorem SlabsOk.right : ∀ {S T : List Slab}, SlabsOk (S ++ T) → SlabsOk T := by
 intro S
 induction S with
 | nil => intro T h; exact h
 | cons s S ih => intro T h; exact ih h.tail
theorem SlabsOk.before : ∀ {T : List Slab} {s : Slab}, SlabsOk (T ++ [s]) → ∀ u ∈ T, u.x1 ≤ s.x0 := by
 intro T
 induction T with
 | nil => intro s _ u hu; cases hu
 | cons v T ih =>
  intro s h u hu
  rcases List.mem_cons.1 hu with rfl | hu
  ·exact h.after s (by simp)
  ·exact ih h.tail u hu
structure RightAt (a : List Rc) (k : Nat) (L : List Rc) : Prop where
 le : k ≤ a.length
 ex : ∃ S, SlabsOk S ∧ a.take k = flatS S ∧ (∀ T, SlabsOk T → a = flatS T → ∃ T', T = S ++ T') ∧ ((S = [] ∧ L = []) ∨ ∃ S' s, S = S' ++ [s] ∧ L = rectsOf s.x0 s.x1 s.t)
theorem RightAt.start (a : List Rc) : RightAt a 0 [] := ⟨Nat.zero_le _, [], trivial, rfl, fun T _ _ => ⟨T, rfl⟩, Or.inl ⟨rfl, rfl⟩⟩
theorem RightAt.done {a L : List Rc} (h : RightAt a a.length L) : IsForm a := by
 obtain ⟨S, h1, h2, _⟩ := h.ex
 exact ⟨S, h1, by rw [← h2, List.take_length]⟩
theorem RightAt.form {a L : List Rc} {k n : Nat} (h : RightAt a k L) (hk : k < a.length) (hn : FirstAt (a.drop k) n) (hf : IsForm a) :
  ∃ t, SlabOk t ∧ (a.drop k).take n = rectsOf t.x0 t.x1 t.t ∧ ∀ s : Slab, SlabOk s → L = rectsOf s.x0 s.x1 s.t → s.x1 ≤ t.x0 ∧ (s.x1 = t.x0 → s.t ≠ t.t) := by
 obtain ⟨S, h1, h2, h3, h4⟩ := h.ex
 obtain ⟨T, hT, rfl⟩ := hf
 obtain ⟨T', rfl⟩ := h3 T hT rfl
 rw [flat_append] at *
 have hl : k = (flatS S).length := by
  have := congrArg List.length h2
  rw [List.length_take, List.length_append] at this
  rw [List.length_append] at hk
  omega
 subst hl
 rw [List.drop_left] at *
 cases T' with
 | nil => simp [flatS] at hk
 | cons t T' =>
  have hT2 : SlabsOk (t :: T') := hT.right
  have e := first_slab hT2 hn
  refine ⟨t, hT2.head, by rw [e, flat_cons, List.take_left], fun s hs hL => ?_⟩
  rcases h4 with ⟨rfl, hL2⟩ | ⟨S', s', rfl, hL2⟩
  ·rw [hL2] at hL
   have := rects_ne (x0 := s.x0) (x1 := s.x1) hs.ev hs.ne
   rw [← hL] at this; simp at this
  ·have hs' : SlabOk s' := h1.each s' (by simp)
   have hb : Behind s' t := by
    clear h2 h3 hn hk h h1 hL hL2 e
    induction S' with
    | nil => exact hT.2.1
    | cons u S' ih => exact ih hT.tail
   have e1 : s'.t = s.t := by
    have := congrArg tog (hL2.symm.trans hL)
    rw [tog_rects _ _ _ hs'.ev, tog_rects _ _ _ hs.ev] at this
    exact this
   have e2 : s'.x1 = s.x1 := by
    have hp := rects_ne (x0 := s'.x0) (x1 := s'.x1) hs'.ev hs'.ne
    rw [← hL2] at hp
    obtain ⟨r, hr⟩ : ∃ r, r ∈ L := ⟨L[0], List.getElem_mem hp⟩
    have a1 := hr
    rw [hL2] at a1
    rw [hL] at hr
    rw [← (rects_x a1).2]; exact (rects_x hr).2
   rw [← e1, ← e2]
   exact hb
theorem RightAt.step {a L : List Rc} {k n : Nat} (h : RightAt a k L) (hn : FirstAt (a.drop k) n) (hk : k < a.length) (hc : IsColP ((a.drop k).take n))
  (hb : ∀ (h1 : 0 < L.length) (h2 : 0 < ((a.drop k).take n).length), L[0].X1 ≤ ((a.drop k).take n)[0].X0 ∧ contB L ((a.drop k).take n) L[0].X1 ((a.drop k).take n)[0].X0 = false) : RightAt a (k + n) ((a.drop k).take n) := by
 obtain ⟨S, h1, h2, h3, h4⟩ := h.ex
 obtain ⟨n1, n2, n3, n4⟩ := hn
 rw [List.length_drop] at n2
 generalize hR : (a.drop k).take n = R at *
 have hRl : R.length = n := by rw [← hR, List.length_take, List.length_drop]; omega
 have h0 : 0 < R.length := by omega
 have hx : ∀ r ∈ R, r.X0 = R[0].X0 ∧ r.X1 = R[0].X1 := fun r hr => by
  obtain ⟨j, hj, rfl⟩ := List.mem_iff_getElem.1 hr
  have q := n3 j (by rw [List.length_drop]; omega) (by omega)
  have e1 : R[j] = (a.drop k)[j]'(by rw [List.length_drop]; omega) := by simp only [← hR, List.getElem_take]
  have e2 : R[0] = (a.drop k)[0]'(by rw [List.length_drop]; omega) := by simp only [← hR, List.getElem_take]
  rw [e1, e2]; exact q
 have hrt : rectsOf R[0].X0 R[0].X1 (tog R) = R := rects_tog hx
 have hok := tog_ok hc
 have hu : SlabOk ⟨R[0].X0, R[0].X1, tog R⟩ := by
  refine ⟨(hc 0 h0).1.1, fun e => ?_, hok.asc, hok.ev, hok.gr⟩
  have e' : tog R = [] := e
  have := tog_len R
  rw [e'] at this
  simp at this; omega
 refine ⟨by have := h.le; omega, S ++ [⟨R[0].X0, R[0].X1, tog R⟩], ?_, ?_, fun T hT e => ?_, Or.inr ⟨S, _, rfl, hrt.symm⟩⟩
 ·refine h1.snoc hu (fun s hs => ?_)
  rcases h4 with ⟨rfl, _⟩ | ⟨S', s', rfl, hL⟩
  ·simp at hs
  ·simp at hs
   subst hs
   have hs' : SlabOk s' := h1.each s' (by simp)
   have hp := rects_ne (x0 := s'.x0) (x1 := s'.x1) hs'.ev hs'.ne
   rw [← hL] at hp
   obtain ⟨q1, q2⟩ := hb hp h0
   have e1 : L[0].X1 = s'.x1 := by
    have m : L[0] ∈ rectsOf s'.x0 s'.x1 s'.t := by rw [← hL]; exact List.getElem_mem hp
    exact (rects_x m).2
   rw [e1] at q1 q2
   refine ⟨q1, fun q3 q4 => ?_⟩
   have : contB L R s'.x1 R[0].X0 = true := by
    unfold contB
    rw [decide_eq_true q3, Bool.true_and, hL, yys_tog, tog_rects _ _ _ hs'.ev]
    exact q4
   rw [this] at q2; cases q2
 ·rw [List.take_add, h2, hR, flat_append]
  congr 1
  rw [flat_cons]; simp only []; rw [hrt]; simp [flatS]
 ·obtain ⟨T', rfl⟩ := h3 T hT e
  have hl : k = (flatS S).length := by
   have := congrArg List.length h2
   rw [List.length_take] at this; omega
  have hd : a.drop k = flatS T' := by rw [e, flat_append, hl, List.drop_left]
  cases T' with
  | nil => exfalso; have := congrArg List.length hd; rw [List.length_drop] at this; simp [flatS] at this; omega
  | cons t T' =>
   have hT2 : SlabsOk (t :: T') := hT.right
   have hn' : FirstAt (flatS (t :: T')) n := by rw [← hd]; exact ⟨n1, by rw [List.length_drop]; exact n2, n3, n4⟩
   have en := first_slab hT2 hn'
   have eR : R = rectsOf t.x0 t.x1 t.t := by rw [← hR, hd, en, flat_cons, List.take_left]
   have ht := hT2.head
   have m : R[0] ∈ rectsOf t.x0 t.x1 t.t := by rw [← eR]; exact List.getElem_mem h0
   have g1 := rects_x m
   refine ⟨T', ?_⟩
   rw [List.append_assoc]
   congr 1
   show t :: T' = _ :: T'
   congr 1
   cases t with
   | mk p0 p1 pt =>
    simp only at g1 eR ht
    rw [Slab.mk.injEq]
    exact ⟨g1.1.symm, g1.2.symm, by rw [eR, tog_rects _ _ _ ht.ev]⟩
theorem last_slab {T : List Slab} {s : Slab} (h : SlabsOk (T ++ [s])) {n : Nat} (hn : LastAt (flatS (T ++ [s])) n) (hlt : n < (flatS (T ++ [s])).length) : n = (flatS T).length := by
 have hs := h.each s (by simp)
 have hp := rects_ne (x0 := s.x0) (x1 := s.x1) hs.ev hs.ne
 have e : flatS (T ++ [s]) = flatS T ++ rectsOf s.x0 s.x1 s.t := by rw [flat_append, flat_cons]; simp [flatS]
 obtain ⟨h1, h2, h3⟩ := hn
 have hlen : (flatS (T ++ [s])).length = (flatS T).length + (rectsOf s.x0 s.x1 s.t).length := by rw [e, List.length_append]
 have e0 : ((flatS (T ++ [s]))[(flatS (T ++ [s])).length - 1]'(by omega)).X0 = s.x0 := by
  have m : (flatS (T ++ [s]))[(flatS (T ++ [s])).length - 1]'(by omega) ∈ rectsOf s.x0 s.x1 s.t := by
   simp only [e]
   rw [List.getElem_append_right (by rw [List.length_append]; omega)]
   exact List.getElem_mem _
  exact (rects_x m).1
 rcases Nat.lt_trichotomy n (flatS T).length with c | c | c
 ·exfalso
  have := h2 n hlt (Nat.le_refl _)
  rw [e0] at this
  have hm : (flatS (T ++ [s]))[n] ∈ flatS T := by simp only [e]; rw [List.getElem_append_left c]; exact List.getElem_mem _
  obtain ⟨u, hu, hr⟩ := List.mem_flatMap.1 hm
  have g1 := (rects_x hr).1
  obtain ⟨h5, _, h6⟩ := h.init
  have g4 := h.each u (List.mem_append_left _ hu)
  have g5 : u.x1 ≤ s.x0 := h.before u hu
  have g6 := g4.x.2.1
  rw [g1] at this
  omega
 ·exact c
 ·exfalso
  refine h3 (by omega) ?_
  rw [e0]
  have m : (flatS (T ++ [s]))[n - 1]'(by omega) ∈ rectsOf s.x0 s.x1 s.t := by
   simp only [e]
   rw [List.getElem_append_right (by omega)]
   exact List.getElem_mem _
  exact (rects_x m).1
theorem rects_wide' (x0 x1 b : Int) (t : List Int) : (rectsOf x0 x1 t).map (fun r => (⟨r.X0, r.Y0, b, r.Y1⟩ : Rc)) = rectsOf x0 b t := by
 unfold rectsOf; rw [List.map_map]; rfl
end Go.Proofs.YtngddecpfhlilaaGreat
namespace Go.Proofs.YtngddecpfhlilaaGreat
theorem ColAt.run {K : Int → Bool} {kp : List Int → Bool} {a b : Int} {m : Nat} {E : List Ed} (hK : TellsK K kp a b m E) (h0 : ZeroK kp m) (hs : SortE E) : ∀ i, i ≤ E.length → ∃ kept T, ColAt K E i kept T := by
 intro i
 induction i with
 | zero => intro _; exact ⟨false, [], ColAt.start hK h0 hs⟩
 | succ i ih =>
  intro hi
  obtain ⟨kept, T, h⟩ := ih (by omega)
  by_cases hn : ∃ h : i + 1 < E.length, E[i + 1].y = E[i].y
  ·exact ⟨kept, T, h.skip hn.1 hn.2⟩
  ·have hn' : ∀ h : i + 1 < E.length, E[i + 1].y ≠ E[i].y := fun h e => hn ⟨h, e⟩
   by_cases he : kp (cntsE a b m (E.take (i + 1))) = kept
   ·exact ⟨kept, T, h.stay hK hs (by omega) hn' he⟩
   ·exact ⟨_, _, h.turn hK hs (by omega) hn' rfl he⟩
def sidesAll (LL : List (List Rc)) : List Int := LL.flatMap sides
theorem kept_zero {kp : List Int → Bool} {LL : List (List Rc)} (h0 : ZeroK kp LL.length) {x y : Int} (h : ∀ l ∈ LL, ¬ HasL l x y) : keptB kp LL x y = false := by
 unfold keptB
 have : (LL.map fun l => covN l x y) = List.replicate LL.length 0 := by
  apply List.ext_getElem
  ·simp
  ·intro j h1 h2
   simp only [List.getElem_map, List.getElem_replicate]
   have hj : j < LL.length := by simpa using h1
   have h3 := h _ (List.getElem_mem hj)
   rw [← covN_pos] at h3
   have := covN_nn LL[j] x y
   omega
 rw [this]; exact h0
theorem gap_of {S : List Int} (hs : SortN S) {i : Nat} (hi : i + 1 < S.length) {z : Int} (hz : z ∈ S) : z ≤ S[i] ∨ S[i + 1] ≤ z := by
 obtain ⟨j, hj, rfl⟩ := List.mem_iff_getElem.1 hz
 rcases Nat.lt_or_ge i j with h | h
 ·exact Or.inr (hs _ _ hi hj h)
 ·exact Or.inl (hs _ _ hj (by omega) h)
theorem gapAB {S : List Int} {LL : List (List Rc)} (hs : SortN S) (hp : S.Perm (sidesAll LL)) {i : Nat} (hi : i + 1 < S.length) : ∀ l ∈ LL, GapAB S[i] S[i + 1] l := by
 intro l hl r hr
 have h1 : r.X0 ∈ S := hp.mem_iff.2 (List.mem_flatMap.2 ⟨l, hl, (sides_mem hr).1⟩)
 have h2 : r.X1 ∈ S := hp.mem_iff.2 (List.mem_flatMap.2 ⟨l, hl, (sides_mem hr).2⟩)
 exact ⟨gap_of hs hi h1, gap_of hs hi h2⟩
theorem sides_of {kp : List Int → Bool} {LL : List (List Rc)} {S : List Int} (hl : ∀ l ∈ LL, ∀ r ∈ l, ROk r) (h0 : ZeroK kp LL.length) (hs : SortN S) (hp : S.Perm (sidesAll LL)) : SidesOf (keptB kp LL) S := by
 refine ⟨hs, fun z hz => ?_, fun x y hk => ?_, fun i hi x y h1 h2 => ?_⟩
 ·obtain ⟨l, hl1, hz⟩ := List.mem_flatMap.1 (hp.mem_iff.1 hz)
  exact sides_gr (hl l hl1) z hz
 ·have : ∃ l ∈ LL, HasL l x y := by
   apply Classical.byContradiction
   intro hn
   rw [kept_zero h0 (fun l hl1 h => hn ⟨l, hl1, h⟩)] at hk
   cases hk
  obtain ⟨l, hl1, r, hr, hh⟩ := this
  have m1 : r.X0 ∈ S := hp.mem_iff.2 (List.mem_flatMap.2 ⟨l, hl1, (sides_mem hr).1⟩)
  have m2 : r.X1 ∈ S := hp.mem_iff.2 (List.mem_flatMap.2 ⟨l, hl1, (sides_mem hr).2⟩)
  have hp0 : 0 < S.length := List.length_pos_of_mem m1
  obtain ⟨j1, hj1, e1⟩ := List.mem_iff_getElem.1 m1
  obtain ⟨j2, hj2, e2⟩ := List.mem_iff_getElem.1 m2
  have q1 := hs 0 j1 hp0 hj1 (Nat.zero_le _)
  have q2 := hs j2 (S.length - 1) hj2 (by omega) (by omega)
  have a1 := hh.2.1; have a2 := hh.2.2.1
  exact ⟨⟨hp0, by omega⟩, hp0, by omega⟩
 ·unfold keptB
  congr 1
  apply List.map_congr_left
  intro l hl1
  have hg := gapAB hs hp hi l hl1
  unfold covN
  congr 2
  apply List.filter_congr
  intro r hr
  obtain ⟨g1, g2⟩ := hg r hr
  have : HasR r x y ↔ HasR r S[i] y := by
   unfold HasR
   have e1 : r.X0 ≤ x ↔ r.X0 ≤ S[i] := by omega
   have e2 : x < r.X1 ↔ S[i] < r.X1 := by omega
   rw [e1, e2]
  by_cases h : HasR r x y
  ·simp [h, this.1 h]
  ·rw [decide_eq_false h, decide_eq_false (fun k => h (this.2 k))]
theorem col_ex {kp : List Int → Bool} {LL : List (List Rc)} {S : List Int} {E : List Ed} (hl : ∀ l ∈ LL, ∀ r ∈ l, ROk r) (h0 : ZeroK kp LL.length) (hs : SortN S) (hp : S.Perm (sidesAll LL)) (hE : (edgesFrom 0 LL).Perm E) (hSE : SortE E) :
  ∀ i (h : i + 1 < S.length), S[i] ≠ S[i + 1] → ∃ c, ColOk c ∧ ∀ y, inT c y = keptB kp LL S[i] y := by
 intro i hi hne
 have hlt : S[i] < S[i + 1] := by have := hs i (i + 1) (by omega) hi (by omega); omega
 have hK := tells (kp := kp) hlt hl (gapAB hs hp hi) hE
 obtain ⟨kept, T, h⟩ := ColAt.run hK h0 hSE E.length (Nat.le_refl _)
 exact ⟨T, h.done hK h0 (fun k => sum_all _ _ _ hE (sum_wholes _ _ _ _ _)) (fun e he => (from_grid hl (hE.mem_iff.2 he)).1)⟩
theorem FmAt.le' {K : Int → Int → Bool} {S : List Int} (hS : SidesOf K S) (hcol : ∀ i (h : i + 1 < S.length), S[i] ≠ S[i + 1] → ∃ c, ColOk c ∧ ∀ y, inT c y = K S[i] y) {F : List Rc} (hF : IsForm F) (hK : ∀ x y, HasL F x y ↔ K x y = true) :
  ∀ (n i : Nat) (T : List Slab), i + n + 1 = S.length → FmAt K S i T → (flatS T).length ≤ F.length := by
 intro n
 induction n with
 | zero =>
  intro i T hi h
  obtain rfl : i = S.length - 1 := by omega
  obtain ⟨h1, h2⟩ := h.done hS (by omega)
  rw [form_eq (l := flatS T) (m := F) ⟨T, h1, rfl⟩ hF (fun x y => by rw [flat_has h1, h2, hK])]
  exact Nat.le_refl _
 | succ n ih =>
  intro i T hi h
  by_cases e : S[i]'(by omega) = S[i + 1]'(by omega)
  ·exact ih (i + 1) T (by omega) (h.skip (by omega) e)
  ·obtain ⟨c, hc, hin⟩ := hcol i (by omega) e
   exact Nat.le_trans (step_len T S[i] S[i + 1] c) (ih (i + 1) _ (by omega) (h.step hS (by omega) e hc hin))
theorem sides_len (l : List Rc) : (sides l).length = 2 * l.length := by
 induction l with
 | nil => rfl
 | cons r l ih => have e : sides (r :: l) = r.X0 :: r.X1 :: sides l := rfl; rw [e, List.length_cons, List.length_cons, ih, List.length_cons]; omega
theorem sides_next (l : List Rc) (k : Nat) (h : k < l.length) : sides (l.take (k + 1)) = sides (l.take k) ++ [l[k].X0, l[k].X1] := by
 rw [List.take_succ_eq_append_getElem h]; unfold sides; rw [List.flatMap_append]; rfl
theorem edges_next (i : Nat) (l : List Rc) (k : Nat) (h : k < l.length) : edgesOf i (l.take (k + 1)) = edgesOf i (l.take k) ++ [⟨l[k].X0, l[k].X1, l[k].Y0, i, 1⟩, ⟨l[k].X0, l[k].X1, l[k].Y1, i, -1⟩] := by
 rw [List.take_succ_eq_append_getElem h, edges_snoc]
theorem sidesAll_next (LL : List (List Rc)) (i : Nat) (h : i < LL.length) : sidesAll (LL.take (i + 1)) = sidesAll (LL.take i) ++ sides LL[i] := by
 rw [List.take_succ_eq_append_getElem h]; unfold sidesAll; rw [List.flatMap_append]; simp
theorem edgesFrom_append : ∀ (A B : List (List Rc)) (k : Nat), edgesFrom k (A ++ B) = edgesFrom k A ++ edgesFrom (k + A.length) B := by
 intro A
 induction A with
 | nil => intro B k; rfl
 | cons a A ih => intro B k; rw [List.cons_append, edgesFrom, edgesFrom, ih, List.append_assoc, List.length_cons, show k + 1 + A.length = k + (A.length + 1) by omega]
theorem edgesAll_next (LL : List (List Rc)) (i : Nat) (h : i < LL.length) : edgesFrom 0 (LL.take (i + 1)) = edgesFrom 0 (LL.take i) ++ edgesOf i LL[i] := by
 rw [List.take_succ_eq_append_getElem h, edgesFrom_append, List.length_take, Nat.min_eq_left (by omega), Nat.zero_add]
 simp [edgesFrom]
theorem edges_sides : ∀ (LL : List (List Rc)) (k : Nat), (edgesFrom k LL).length = (sidesAll LL).length := by
 intro LL
 induction LL with
 | nil => intro k; rfl
 | cons l LL ih => intro k; rw [edgesFrom, List.length_append, ih, edges_len]; simp [sidesAll, sides_len]
def total (LL : List (List Rc)) : Nat := (LL.map List.length).sum
theorem sidesAll_len : ∀ LL : List (List Rc), (sidesAll LL).length = 2 * total LL := by
 intro LL
 induction LL with
 | nil => rfl
 | cons l LL ih =>
  have e : sidesAll (l :: LL) = sides l ++ sidesAll LL := rfl
  rw [e, List.length_append, ih, sides_len]; simp [total]; omega
theorem total_append (A B : List (List Rc)) : total (A ++ B) = total A + total B := by simp [total]
theorem total_cons (l : List Rc) (B : List (List Rc)) : total (l :: B) = l.length + total B := by simp [total]
theorem total_take (LL : List (List Rc)) (i : Nat) (h : i < LL.length) (k : Nat) (hk : k ≤ LL[i].length) : (sidesAll (LL.take i) ++ sides (LL[i].take k)).length ≤ 2 * total LL := by
 rw [List.length_append, sides_len, List.length_take]
 have e : LL = LL.take i ++ LL[i] :: LL.drop (i + 1) := by rw [← List.drop_eq_getElem_cons h, List.take_append_drop]
 have : total LL = total (LL.take i) + (LL[i].length + total (LL.drop (i + 1))) := by
  have h := congrArg total e
  rw [total_append, total_cons] at h
  exact h
 rw [sidesAll_len]
 omega
end Go.Proofs.YtngddecpfhlilaaGreat
namespace Go.Proofs.YtngddecpfhlilaaGreat
structure Sl where
 z0 : Int
 z1 : Int
 ar : List Rc
theorem Sl.eq {s u : Sl} (h0 : s.z0 = u.z0) (h1 : s.z1 = u.z1) (h2 : s.ar = u.ar) : s = u := by
 cases s; cases u; simp at h0 h1 h2; subst h0; subst h1; subst h2; rfl
def HOk (a b : Int) : Prop := 0 ≤ a ∧ a < b ∧ b ≤ 4096
instance (a b : Int) : Decidable (HOk a b) := by unfold HOk; infer_instance
structure SlOk (s : Sl) : Prop where
 h : HOk s.z0 s.z1
 ne : s.ar ≠ []
 form : IsForm s.ar
def SlB (s u : Sl) : Prop := s.z1 ≤ u.z0 ∧ (s.z1 = u.z0 → s.ar ≠ u.ar)
def SForm : List Sl → Prop
 | [] => True
 | [s] => SlOk s
 | s :: u :: S => SlOk s ∧ SlB s u ∧ SForm (u :: S)
theorem SForm.head {s : Sl} {S : List Sl} (h : SForm (s :: S)) : SlOk s := by
 cases S with
 | nil => exact h
 | cons u S => exact h.1
theorem SForm.tail {s : Sl} {S : List Sl} (h : SForm (s :: S)) : SForm S := by
 cases S with
 | nil => trivial
 | cons u S => exact h.2.2
theorem SForm.after {s : Sl} {S : List Sl} (h : SForm (s :: S)) : ∀ u ∈ S, s.z1 ≤ u.z0 := by
 induction S generalizing s with
 | nil => intro u hu; cases hu
 | cons v S ih =>
  intro u hu
  rcases List.mem_cons.1 hu with rfl | hu
  ·exact h.2.1.1
  ·have h1 := ih h.2.2 u hu
   have h2 := h.2.1.1
   have h3 := h.2.2.head.h.2.1
   omega
theorem SForm.each : ∀ {S : List Sl}, SForm S → ∀ s ∈ S, SlOk s := by
 intro S
 induction S with
 | nil => intro _ s hs; cases hs
 | cons u S ih =>
  intro h s hs
  rcases List.mem_cons.1 hs with rfl | hs
  ·exact h.head
  ·exact ih h.tail s hs
def secS : List Sl → Int → List Rc
 | [], _ => []
 | s :: S, z => if s.z0 ≤ z ∧ z < s.z1 then s.ar else secS S z
theorem sec_cons (s : Sl) (S : List Sl) (z : Int) : secS (s :: S) z = if s.z0 ≤ z ∧ z < s.z1 then s.ar else secS S z := rfl
theorem sec_below : ∀ {S : List Sl} {z : Int}, (∀ u ∈ S, z < u.z0) → secS S z = [] := by
 intro S
 induction S with
 | nil => intro z _; rfl
 | cons s S ih =>
  intro z h
  have := h s List.mem_cons_self
  rw [sec_cons, if_neg (by omega)]
  exact ih (fun u hu => h u (List.mem_cons_of_mem _ hu))
theorem sec_above : ∀ {S : List Sl} {z : Int}, (∀ u ∈ S, u.z1 ≤ z) → secS S z = [] := by
 intro S
 induction S with
 | nil => intro z _; rfl
 | cons s S ih =>
  intro z h
  have := h s List.mem_cons_self
  rw [sec_cons, if_neg (by omega)]
  exact ih (fun u hu => h u (List.mem_cons_of_mem _ hu))
theorem sec_mem : ∀ {S : List Sl} {z : Int}, secS S z ≠ [] → ∃ s ∈ S, s.z0 ≤ z ∧ z < s.z1 ∧ s.ar = secS S z := by
 intro S
 induction S with
 | nil => intro z h; exact absurd rfl h
 | cons s S ih =>
  intro z h
  rw [sec_cons] at h ⊢
  by_cases c : s.z0 ≤ z ∧ z < s.z1
  ·rw [if_pos c]; exact ⟨s, List.mem_cons_self, c.1, c.2, rfl⟩
  ·rw [if_neg c] at h ⊢
   obtain ⟨u, hu, k⟩ := ih h
   exact ⟨u, List.mem_cons_of_mem _ hu, k⟩
theorem sec_rest {s : Sl} {S : List Sl} {z : Int} (h : s.z1 ≤ z) : secS (s :: S) z = secS S z := by rw [sec_cons, if_neg (by omega)]
theorem sec_low {s : Sl} {S : List Sl} (h : SForm (s :: S)) {z : Int} (hz : z < s.z1) : secS S z = [] := sec_below (fun u hu => by have := h.after u hu; omega)
theorem sec_form {S : List Sl} (h : SForm S) (z : Int) : IsForm (secS S z) := by
 by_cases e : secS S z = []
 ·rw [e]; exact ⟨[], trivial, rfl⟩
 ·obtain ⟨s, hs, _, _, k⟩ := sec_mem e
  rw [← k]; exact (h.each s hs).form
theorem end_le {s u : Sl} {S T : List Sl} (hS : SForm (s :: S)) (hT : SForm (u :: T)) (h0 : s.z0 = u.z0) (ha : s.ar = u.ar) (h : ∀ z, secS (s :: S) z = secS (u :: T) z) : u.z1 ≤ s.z1 := by
 rcases Int.lt_or_le s.z1 u.z1 with c | c
 ·have k := h s.z1
  have k1 := hS.head.h.2.1
  have k2 : secS (u :: T) s.z1 = u.ar := by rw [sec_cons, if_pos (by omega)]
  rw [k2, sec_rest (Int.le_refl _)] at k
  cases S with
  | nil => exact absurd k.symm hT.head.ne
  | cons v S =>
   have b := hS.2.1
   rcases Int.lt_or_le s.z1 v.z0 with d | d
   ·rw [sec_below (fun x hx => by
     rcases List.mem_cons.1 hx with rfl | hx
     ·exact d
     ·have := hS.tail.after x hx
      have := hS.tail.head.h.2.1
      omega)] at k
    exact absurd k.symm hT.head.ne
   ·have e : s.z1 = v.z0 := by have := b.1; omega
    have := hS.tail.head.h.2.1
    rw [sec_cons, if_pos (by omega)] at k
    exact absurd (by rw [ha, k]) (b.2 e)
 ·exact c
theorem solid_eq : ∀ {S T : List Sl}, SForm S → SForm T → (∀ z, secS S z = secS T z) → S = T := by
 intro S
 induction S with
 | nil =>
  intro T _ hT h
  cases T with
  | nil => rfl
  | cons u T =>
   have k := h u.z0
   have := hT.head.h.2.1
   rw [sec_cons, if_pos (by omega)] at k
   exact absurd k.symm hT.head.ne
 | cons s S ih =>
  intro T hS hT h
  cases T with
  | nil =>
   have k := h s.z0
   have := hS.head.h.2.1
   rw [sec_cons, if_pos (by omega)] at k
   exact absurd k hS.head.ne
  | cons u T =>
   have p1 := hS.head.h.2.1
   have p2 := hT.head.h.2.1
   have low : ∀ {s u : Sl} {S T : List Sl}, SForm (s :: S) → SForm (u :: T) → (∀ z, secS (s :: S) z = secS (u :: T) z) → u.z0 ≤ s.z0 := by
    intro s u S T hS hT h
    rcases Int.lt_or_le s.z0 u.z0 with c | c
    ·have k := h s.z0
     have q1 := hS.head.h.2.1
     have q2 := hT.head.h.2.1
     rw [sec_cons, if_pos (by omega), sec_below (fun x hx => by
      rcases List.mem_cons.1 hx with rfl | hx
      ·exact c
      ·have := hT.after x hx; omega)] at k
     exact absurd k hS.head.ne
    ·exact c
   have h0 : s.z0 = u.z0 := by
    have a := low hS hT h
    have b := low hT hS (fun z => (h z).symm)
    omega
   have ha : s.ar = u.ar := by
    have k := h s.z0
    rw [sec_cons, if_pos (by omega), sec_cons, if_pos (by omega)] at k
    exact k
   have h1 : s.z1 = u.z1 := by
    have a := end_le hS hT h0 ha h
    have b := end_le hT hS h0.symm ha.symm (fun z => (h z).symm)
    omega
   have e : s = u := Sl.eq h0 h1 ha
   subst e
   congr 1
   refine ih hS.tail hT.tail (fun z => ?_)
   rcases Int.lt_or_le z s.z1 with c | c
   ·rw [sec_low hS c, sec_low hT c]
   ·have := h z
    rw [sec_rest c, sec_rest c] at this
    exact this
def joinS (F : List Sl) (s : Sl) : List Sl :=
 if s.ar = [] then F else match F.getLast? with
  | some p => if p.z1 = s.z0 ∧ p.ar = s.ar then F.dropLast ++ [⟨p.z0, s.z1, p.ar⟩] else F ++ [s]
  | none => F ++ [s]
theorem join_none {F : List Sl} {s : Sl} (h : s.ar = []) : joinS F s = F := if_pos h
theorem join_first {s : Sl} (h : s.ar ≠ []) : joinS [] s = [s] := by unfold joinS; rw [if_neg h]; rfl
theorem join_wide {F : List Sl} {p s : Sl} (h : s.ar ≠ []) (h1 : p.z1 = s.z0) (h2 : p.ar = s.ar) : joinS (F ++ [p]) s = F ++ [⟨p.z0, s.z1, p.ar⟩] := by
 unfold joinS
 rw [if_neg h]
 simp only [List.getLast?_append, List.getLast?_singleton, Option.some_or, List.dropLast_concat]
 rw [if_pos ⟨h1, h2⟩]
theorem join_new {F : List Sl} {p s : Sl} (h : s.ar ≠ []) (h1 : ¬ (p.z1 = s.z0 ∧ p.ar = s.ar)) : joinS (F ++ [p]) s = F ++ [p] ++ [s] := by
 unfold joinS
 rw [if_neg h]
 simp only [List.getLast?_append, List.getLast?_singleton, Option.some_or]
 rw [if_neg h1]
theorem join_cases (F : List Sl) (s : Sl) : (s.ar = [] ∧ joinS F s = F) ∨ (s.ar ≠ [] ∧ ∃ G p, F = G ++ [p] ∧ p.z1 = s.z0 ∧ p.ar = s.ar ∧ joinS F s = G ++ [⟨p.z0, s.z1, p.ar⟩]) ∨ (s.ar ≠ [] ∧ (∀ G p, F = G ++ [p] → ¬ (p.z1 = s.z0 ∧ p.ar = s.ar)) ∧ joinS F s = F ++ [s]) := by
 by_cases h : s.ar = []
 ·exact Or.inl ⟨h, join_none h⟩
 ·rcases List.eq_nil_or_concat F with rfl | ⟨G, p, rfl⟩
  ·exact Or.inr (Or.inr ⟨h, fun G p e => by simp at e, by rw [join_first h]; rfl⟩)
  ·rw [List.concat_eq_append]
   by_cases c : p.z1 = s.z0 ∧ p.ar = s.ar
   ·exact Or.inr (Or.inl ⟨h, G, p, rfl, c.1, c.2, join_wide h c.1 c.2⟩)
   ·refine Or.inr (Or.inr ⟨h, fun G' p' e => ?_, join_new h c⟩)
    have := List.append_inj' e rfl
    have e2 := this.2
    simp at e2
    rw [← e2]; exact c
theorem join_len (F : List Sl) (s : Sl) : F.length ≤ (joinS F s).length ∧ (joinS F s).length ≤ F.length + 1 := by
 rcases join_cases F s with ⟨_, e⟩ | ⟨_, G, p, rfl, _, _, e⟩ | ⟨_, _, e⟩
 ·rw [e]; omega
 ·rw [e]; simp
 ·rw [e]; simp
theorem join_mem {F : List Sl} {s u : Sl} (h : u ∈ joinS F s) : u.ar = s.ar ∨ ∃ v ∈ F, v.ar = u.ar := by
 rcases join_cases F s with ⟨_, e⟩ | ⟨_, G, p, rfl, _, h2, e⟩ | ⟨_, _, e⟩
 ·rw [e] at h; exact Or.inr ⟨u, h, rfl⟩
 ·rw [e] at h
  rcases List.mem_append.1 h with h | h
  ·exact Or.inr ⟨u, List.mem_append_left _ h, rfl⟩
  ·rw [List.mem_singleton] at h; subst h; exact Or.inl h2
 ·rw [e] at h
  rcases List.mem_append.1 h with h | h
  ·exact Or.inr ⟨u, h, rfl⟩
  ·rw [List.mem_singleton] at h; subst h; exact Or.inl rfl
theorem SForm.snoc : ∀ {S : List Sl} {u : Sl}, SForm S → SlOk u → (∀ G s, S = G ++ [s] → SlB s u) → SForm (S ++ [u]) := by
 intro S
 induction S with
 | nil => intro u _ hu _; exact hu
 | cons s S ih =>
  intro u h hu hb
  cases S with
  | nil => exact ⟨h, hb [] s rfl, hu⟩
  | cons v S => exact ⟨h.1, h.2.1, ih h.2.2 hu (fun G p e => hb (s :: G) p (by rw [e]; rfl))⟩
theorem SForm.init : ∀ {S : List Sl} {u : Sl}, SForm (S ++ [u]) → SForm S ∧ SlOk u ∧ ∀ G s, S = G ++ [s] → SlB s u := by
  intro S
  induction S with
  | nil => intro u h; exact ⟨trivial, h, fun G s e => by simp at e⟩
  | cons s S ih =>
    intro u h
    cases S with
    | nil => exact ⟨h.1, h.2.2, fun G p e => by
        cases G with
        | nil => simp at e; subst e; exact h.2.1
        | cons g G => simp at e⟩
    | cons v S =>
      obtain ⟨k1, k2, k3⟩ := ih h.2.2
      refine ⟨⟨h.1, h.2.1, k1⟩, k2, fun G p e => ?_⟩
      cases G with
      | nil => simp at e
      | cons g G =>
        simp only [List.cons_append, List.cons.injEq] at e
        exact k3 G p e.2
theorem sec_append : ∀ (S T : List Sl) (z : Int), (∀ t ∈ T, ∀ s ∈ S, s.z1 ≤ t.z0) → secS (S ++ T) z = if secS S z = [] then secS T z else secS S z := by
 intro S
 induction S with
 | nil => intro T z _; simp [secS]
 | cons s S ih =>
  intro T z h
  rw [List.cons_append, sec_cons, sec_cons, ih T z (fun t ht u hu => h t ht u (List.mem_cons_of_mem _ hu))]
  by_cases c : s.z0 ≤ z ∧ z < s.z1
  ·rw [if_pos c, if_pos c]
   by_cases e : s.ar = []
   ·rw [if_pos e, e, sec_below]
    intro t ht
    have := h t ht s List.mem_cons_self
    omega
   ·rw [if_neg e]
  ·rw [if_neg c, if_neg c]
structure GrownZ (F : List Sl) (a : Int) : Prop where
 form : SForm F
 le : ∀ u ∈ F, u.z1 ≤ a
theorem sec_snoc {F : List Sl} {s : Sl} (h : ∀ u ∈ F, u.z1 ≤ s.z0) (z : Int) : secS (F ++ [s]) z = if s.z0 ≤ z ∧ z < s.z1 then s.ar else secS F z := by
 rw [sec_append F [s] z (fun t ht u hu => by rw [List.mem_singleton] at ht; subst ht; exact h u hu), sec_cons]
 by_cases c : s.z0 ≤ z ∧ z < s.z1
 ·rw [if_pos c, if_pos (sec_above (fun u hu => by have := h u hu; omega)), if_pos c]
 ·rw [if_neg c, if_neg c]
  split
  ·next e => rw [e]; rfl
  ·rfl
theorem join_is {F : List Sl} {a b : Int} {c : List Rc} (h : GrownZ F a) (hab : HOk a b) (hc : IsForm c) : GrownZ (joinS F ⟨a, b, c⟩) b ∧ ∀ z, secS (joinS F ⟨a, b, c⟩) z = if a ≤ z ∧ z < b then c else secS F z := by
 unfold HOk at hab
 rcases join_cases F ⟨a, b, c⟩ with ⟨h1, e⟩ | ⟨h1, G, p, rfl, h2, h3, e⟩ | ⟨h1, h2, e⟩
 ·rw [e]
  simp only at h1
  refine ⟨⟨h.form, fun u hu => by have := h.le u hu; omega⟩, fun z => ?_⟩
  split
  ·rw [h1]; exact sec_above (fun u hu => by have := h.le u hu; omega)
  ·rfl
 ·rw [e]
  simp only at h1 h2 h3
  obtain ⟨k1, k2, k3⟩ := h.form.init
  have kp := k2.h
  unfold HOk at kp
  have hle : ∀ u ∈ G, u.z1 ≤ p.z0 := by
   intro u hu
   have hh := h.form
   clear h e k1 k3
   induction G with
   | nil => cases hu
   | cons g G ih =>
    rcases List.mem_cons.1 hu with rfl | hu
    ·exact hh.after p (by simp)
    ·exact ih hu hh.tail
  refine ⟨⟨k1.snoc ⟨by unfold HOk; simp only; omega, k2.ne, k2.form⟩ (fun G' s e => k3 G' s e), fun u hu => ?_⟩, fun z => ?_⟩
  ·rcases List.mem_append.1 hu with hu | hu
   ·have := h.le u (List.mem_append_left _ hu); omega
   ·rw [List.mem_singleton] at hu; subst hu; simp only; omega
  ·rw [sec_snoc (s := p) hle, sec_snoc (F := G) (s := ⟨p.z0, b, p.ar⟩) hle]
   simp only
   by_cases c1 : a ≤ z ∧ z < b
   ·rw [if_pos c1, if_pos (by omega), h3]
   ·rw [if_neg c1]
    by_cases c2 : p.z0 ≤ z ∧ z < p.z1
    ·rw [if_pos c2, if_pos (by omega)]
    ·rw [if_neg c2, if_neg (by omega)]
 ·rw [e]
  simp only at h1
  refine ⟨⟨h.form.snoc ⟨hab, h1, hc⟩ (fun G s e => ⟨h.le s (by rw [e]; simp), fun e1 e2 => h2 G s e ⟨e1, e2⟩⟩), fun u hu => ?_⟩, fun z => ?_⟩
  ·rcases List.mem_append.1 hu with hu | hu
   ·have := h.le u hu; omega
   ·rw [List.mem_singleton] at hu; subst hu; simp only; omega
  ·rw [sec_snoc (fun u hu => h.le u hu)]
def solGo (sec : Int → List Rc) : List Sl → List Int → List Sl
 | F, a :: b :: X => solGo sec (joinS F ⟨a, b, sec a⟩) (b :: X)
 | F, _ => F
theorem solGo_step (sec : Int → List Rc) : ∀ (X : List Int) (F : List Sl) (a b : Int), solGo sec F (X ++ [a, b]) = joinS (solGo sec F (X ++ [a])) ⟨a, b, sec a⟩ := by
 intro X
 induction X with
 | nil => intro F a b; rfl
 | cons x X ih =>
  intro F a b
  cases X with
  | nil => rfl
  | cons y X => exact ih _ a b
def InZ (X : List Int) : Prop := ∀ x ∈ X, 0 ≤ x ∧ x ≤ 4096
structure Chg (sec : Int → List Rc) (X : List Int) : Prop where
 same : ∀ z z', z ≤ z' → (∀ x ∈ X, ¬ (z < x ∧ x ≤ z')) → sec z = sec z'
 low : ∀ z, (∀ x ∈ X, z < x) → sec z = []
 high : ∀ z, (∀ x ∈ X, x ≤ z) → sec z = []
theorem Chg.of {sec : Int → List Rc} {X Y : List Int} (h : Chg sec X) (hm : ∀ z, z ∈ X ↔ z ∈ Y) : Chg sec Y :=
 ⟨fun z z' a b => h.same z z' a (fun x hx => b x ((hm x).1 hx)), fun z a => h.low z (fun x hx => a x ((hm x).1 hx)), fun z a => h.high z (fun x hx => a x ((hm x).1 hx))⟩
theorem solGo_is {sec : Int → List Rc} (hf : ∀ z, IsForm (sec z)) : ∀ (X : List Int) (F : List Sl) (a : Int), Asc (a :: X) → InZ (a :: X) → GrownZ F a →
  (∀ z z', a ≤ z → z ≤ z' → (∀ x ∈ X, ¬ (z < x ∧ x ≤ z')) → sec z = sec z') → SForm (solGo sec F (a :: X)) ∧ ∀ z, secS (solGo sec F (a :: X)) z = if a ≤ z ∧ ∃ x ∈ X, z < x then sec z else secS F z := by
 intro X
 induction X with
 | nil =>
  intro F a _ _ hg _
  refine ⟨hg.form, fun z => ?_⟩
  rw [if_neg (by rintro ⟨_, x, hx, _⟩; cases hx)]
  rfl
 | cons b X ih =>
  intro F a hA hZ hg hs
  have hab : a < b := hA.lt b List.mem_cons_self
  have ha := hZ a List.mem_cons_self
  have hb := hZ b (List.mem_cons_of_mem _ List.mem_cons_self)
  obtain ⟨j1, j2⟩ := join_is hg (⟨ha.1, hab, hb.2⟩ : HOk a b) (hf a)
  obtain ⟨k1, k2⟩ := ih (joinS F ⟨a, b, sec a⟩) b hA.tail (fun x hx => hZ x (List.mem_cons_of_mem _ hx)) j1 (fun z z' h1 h2 h3 => hs z z' (by omega) h2 (fun x hx => by
   rcases List.mem_cons.1 hx with rfl | hx
   ·omega
   ·exact h3 x hx))
  refine ⟨k1, fun z => ?_⟩
  show secS (solGo sec (joinS F ⟨a, b, sec a⟩) (b :: X)) z = _
  rw [k2, j2]
  by_cases c1 : b ≤ z ∧ ∃ x ∈ X, z < x
  ·rw [if_pos c1, if_pos ⟨by omega, by obtain ⟨_, x, hx, hh⟩ := c1; exact ⟨x, List.mem_cons_of_mem _ hx, hh⟩⟩]
  ·rw [if_neg c1]
   by_cases c2 : a ≤ z ∧ z < b
   ·rw [if_pos c2, if_pos ⟨c2.1, b, List.mem_cons_self, c2.2⟩]
    refine hs a z (Int.le_refl _) c2.1 (fun x hx => ?_)
    rcases List.mem_cons.1 hx with rfl | hx
    ·omega
    ·have := hA.tail.lt x hx; omega
   ·rw [if_neg c2, if_neg]
    rintro ⟨h1, x, hx, h2⟩
    rcases List.mem_cons.1 hx with rfl | hx
    ·exact c2 ⟨h1, h2⟩
    ·exact c1 ⟨by omega, x, hx, h2⟩
theorem sol_is {sec : Int → List Rc} (hf : ∀ z, IsForm (sec z)) {X : List Int} (hA : Asc X) (hZ : InZ X) (hC : Chg sec X) : SForm (solGo sec [] X) ∧ ∀ z, secS (solGo sec [] X) z = sec z := by
 cases X with
 | nil => exact ⟨trivial, fun z => (hC.low z (fun x hx => by cases hx)).symm⟩
 | cons a X =>
  obtain ⟨k1, k2⟩ := solGo_is hf X [] a hA hZ ⟨trivial, fun u hu => by cases hu⟩ (fun z z' h1 h2 h3 => hC.same z z' h2 (fun x hx => by
   rcases List.mem_cons.1 hx with rfl | hx
   ·omega
   ·exact h3 x hx))
  refine ⟨k1, fun z => ?_⟩
  rw [k2]
  by_cases c : a ≤ z ∧ ∃ x ∈ X, z < x
  ·rw [if_pos c]
  ·rw [if_neg c]
   show [] = sec z
   rcases Int.lt_or_le z a with d | d
   ·refine (hC.low z (fun x hx => ?_)).symm
    rcases List.mem_cons.1 hx with rfl | hx
    ·exact d
    ·have := hA.lt x hx; omega
   ·refine (hC.high z (fun x hx => ?_)).symm
    rcases List.mem_cons.1 hx with rfl | hx
    ·exact d
    ·rcases Int.lt_or_le z x with e | e
     ·exact absurd ⟨d, x, hx, e⟩ c
     ·exact e
theorem solGo_len (sec : Int → List Rc) : ∀ (X : List Int) (F : List Sl), F.length ≤ (solGo sec F X).length ∧ (solGo sec F X).length ≤ F.length + (X.length - 1) := by
 intro X
 induction X with
 | nil => intro F; exact ⟨Nat.le_refl _, by show F.length ≤ _; omega⟩
 | cons a X ih =>
  intro F
  cases X with
  | nil => exact ⟨Nat.le_refl _, by show F.length ≤ _; omega⟩
  | cons b X =>
   obtain ⟨h1, h2⟩ := ih (joinS F ⟨a, b, sec a⟩)
   obtain ⟨h3, h4⟩ := join_len F ⟨a, b, sec a⟩
   have e : solGo sec F (a :: b :: X) = solGo sec (joinS F ⟨a, b, sec a⟩) (b :: X) := rfl
   rw [e]
   simp only [List.length_cons] at h2 ⊢
   omega
theorem solGo_app (sec : Int → List Rc) : ∀ (X Y : List Int) (F : List Sl) (a : Int), solGo sec F (X ++ a :: Y) = solGo sec (solGo sec F (X ++ [a])) (a :: Y) := by
 intro X
 induction X with
 | nil => intro Y F a; rfl
 | cons x X ih =>
  intro Y F a
  cases X with
  | nil => rfl
  | cons y X => exact ih Y _ a
structure SolP (S : List Sl) : Prop where
 form : SForm S
 len : S.length ≤ 80
 rects : ∀ s ∈ S, s.ar.length ≤ 200
def capS (S : List Sl) : List Sl × Int := if S.length ≤ 80 ∧ ∀ s ∈ S, s.ar.length ≤ 200 then (S, 0) else ([], 6)
theorem capS_yes {S : List Sl} (h1 : S.length ≤ 80) (h2 : ∀ s ∈ S, s.ar.length ≤ 200) : capS S = (S, 0) := if_pos ⟨h1, h2⟩
theorem capS_no {S : List Sl} (h : 80 < S.length ∨ ∃ s ∈ S, 200 < s.ar.length) : capS S = ([], 6) := if_neg (by
 rintro ⟨h1, h2⟩
 rcases h with h | ⟨s, hs, h⟩
 ·omega
 ·have := h2 s hs; omega)
theorem SolP.cap {S : List Sl} (h : SolP S) : capS S = (S, 0) := capS_yes h.len h.rects
end Go.Proofs.YtngddecpfhlilaaGreat
