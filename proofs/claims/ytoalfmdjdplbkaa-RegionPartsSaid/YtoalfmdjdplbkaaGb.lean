/-
  Plain mathematics of regions (2): combining columns; growing a form slab by slab.
-/
import Derived.Test.YtoalfmdjdplbkaaGa
set_option linter.unusedVariables false
namespace Go.Proofs.Ytoalfmdjdplbkaa

/-- the numbers at which the combination of two columns begins and ends; pa, pb: within the first, the second one; was: within the combination. -/
def combGo (op : Bool → Bool → Bool) (a b : List Int) (pa pb was : Bool) : List Int :=
  match a, b with
  | [], [] => []
  | x :: a, [] => if op (!pa) pb != was then x :: combGo op a [] (!pa) pb (op (!pa) pb) else combGo op a [] (!pa) pb (op (!pa) pb)
  | [], y :: b => if op pa (!pb) != was then y :: combGo op [] b pa (!pb) (op pa (!pb)) else combGo op [] b pa (!pb) (op pa (!pb))
  | x :: a, y :: b =>
    if x < y then (if op (!pa) pb != was then x :: combGo op a (y :: b) (!pa) pb (op (!pa) pb) else combGo op a (y :: b) (!pa) pb (op (!pa) pb))
    else if y < x then (if op pa (!pb) != was then y :: combGo op (x :: a) b pa (!pb) (op pa (!pb)) else combGo op (x :: a) b pa (!pb) (op pa (!pb)))
    else (if op (!pa) (!pb) != was then x :: combGo op a b (!pa) (!pb) (op (!pa) (!pb)) else combGo op a b (!pa) (!pb) (op (!pa) (!pb)))
termination_by a.length + b.length

def odd (t : List Int) : Bool := t.length % 2 == 1
theorem odd_cons (x : Int) (t : List Int) : odd (x :: t) = !odd t := by
  unfold odd
  rw [List.length_cons, Bool.eq_iff_iff]
  simp only [beq_iff_eq, Bool.not_eq_true', beq_eq_false_iff_ne, ne_eq]
  omega
theorem odd_even (t : List Int) : odd t = false ↔ Even t := by unfold odd Even; simp
theorem inT_nil (y : Int) : inT [] y = false := rfl

/-- what combining two columns gives. -/
structure CombIs (op : Bool → Bool → Bool) (a b : List Int) (pa pb was : Bool) (c : List Int) : Prop where
  mem : ∀ z ∈ c, z ∈ a ∨ z ∈ b
  asc : Asc c
  inn : ∀ y, (was != inT c y) = op (pa != inT a y) (pb != inT b y)
  par : (was != odd c) = op (pa != odd a) (pb != odd b)

/-- one number z of a or b (or both) is taken first; all others are greater. -/
theorem comb_step {op : Bool → Bool → Bool} {a b a2 b2 : List Int} {pa pb was pa2 pb2 : Bool} {z : Int} {c : List Int}
    (hw : was = op pa pb) (hc : CombIs op a2 b2 pa2 pb2 (op pa2 pb2) c)
    (ha : ∀ x ∈ a2, z < x) (hb : ∀ x ∈ b2, z < x) (h1 : ∀ y, (pa != inT a y) = if z ≤ y then (pa2 != inT a2 y) else pa) (h2 : ∀ y, (pb != inT b y) = if z ≤ y then (pb2 != inT b2 y) else pb)
    (o1 : (pa != odd a) = (pa2 != odd a2)) (o2 : (pb != odd b) = (pb2 != odd b2)) (hz : z ∈ a ∨ z ∈ b) (m1 : ∀ x ∈ a2, x ∈ a) (m2 : ∀ x ∈ b2, x ∈ b) :
    CombIs op a b pa pb was (if op pa2 pb2 != was then z :: c else c) := by
  have hgt : ∀ x ∈ c, z < x := fun x hx => by rcases hc.mem x hx with h | h; exact ha x h; exact hb x h
  have hmem : ∀ x ∈ c, x ∈ a ∨ x ∈ b := fun x hx => (hc.mem x hx).imp (m1 x) (m2 x)
  have low : ∀ y, ¬ z ≤ y → inT c y = false := fun y hy => inT_below (fun x hx => by have := hgt x hx; omega)
  by_cases k : (op pa2 pb2 != was) = true
  · rw [if_pos k]
    have k2 : op pa2 pb2 = !was := by cases h : op pa2 pb2 <;> cases h2 : was <;> rw [h, h2] at k <;> simp_all
    refine ⟨fun x hx => ?_, hc.asc.cons hgt, fun y => ?_, ?_⟩
    · rcases List.mem_cons.1 hx with rfl | hx
      · exact hz
      · exact hmem x hx
    · rw [h1 y, h2 y, inT_cons]
      by_cases q : z ≤ y
      · rw [if_pos q, if_pos q, ← hc.inn y, k2]
        simp [q]
      · rw [if_neg q, if_neg q, low y q, ← hw]; simp [q]
    · rw [odd_cons, o1, o2, ← hc.par, k2]; simp
  · rw [if_neg k]
    have k2 : op pa2 pb2 = was := by cases h : op pa2 pb2 <;> cases h2 : was <;> rw [h, h2] at k <;> simp_all
    refine ⟨hmem, hc.asc, fun y => ?_, ?_⟩
    · rw [h1 y, h2 y]
      by_cases q : z ≤ y
      · rw [if_pos q, if_pos q, ← hc.inn y, k2]
      · rw [if_neg q, if_neg q, low y q, ← hw]; simp
    · rw [o1, o2, ← hc.par, k2]

theorem flip_in {a : List Int} {x : Int} {pa : Bool} (h : ∀ z ∈ a, x < z) (y : Int) : (pa != inT (x :: a) y) = if x ≤ y then ((!pa) != inT a y) else pa := by
  rw [inT_cons]
  by_cases q : x ≤ y
  · rw [if_pos q]; simp [q]
  · rw [if_neg q, inT_below (fun z hz => by have := h z hz; omega)]; simp [q]
theorem stay_in {b : List Int} {x : Int} {pb : Bool} (h : ∀ z ∈ b, x < z) (y : Int) : (pb != inT b y) = if x ≤ y then (pb != inT b y) else pb := by
  by_cases q : x ≤ y
  · rw [if_pos q]
  · rw [if_neg q, inT_below (fun z hz => by have := h z hz; omega)]; simp
theorem flip_odd (a : List Int) (x : Int) (pa : Bool) : (pa != odd (x :: a)) = ((!pa) != odd a) := by rw [odd_cons]; simp
theorem not_mem_nil {P : Int → Prop} : ∀ z ∈ ([] : List Int), P z := fun z hz => by cases hz

theorem comb_is (op : Bool → Bool → Bool) : ∀ (n : Nat) (a b : List Int) (pa pb : Bool), a.length + b.length ≤ n → Asc a → Asc b → CombIs op a b pa pb (op pa pb) (combGo op a b pa pb (op pa pb)) := by
  intro n
  induction n with
  | zero =>
    intro a b pa pb hn _ _
    obtain rfl : a = [] := List.length_eq_zero_iff.1 (by omega)
    obtain rfl : b = [] := List.length_eq_zero_iff.1 (by omega)
    rw [combGo]
    exact ⟨not_mem_nil, trivial, fun y => by simp [inT_nil], by simp [odd]⟩
  | succ n ih =>
    intro a b pa pb hn ha hb
    match a, b, ha, hb with
    | [], [], _, _ =>
      rw [combGo]
      exact ⟨not_mem_nil, trivial, fun y => by simp [inT_nil], by simp [odd]⟩
    | x :: a, [], ha, hb =>
      rw [combGo]
      exact comb_step rfl (ih a [] (!pa) pb (by simp at hn ⊢; omega) ha.tail trivial) ha.lt not_mem_nil (flip_in ha.lt) (stay_in not_mem_nil) (flip_odd a x pa) rfl (Or.inl List.mem_cons_self) (fun z hz => List.mem_cons_of_mem _ hz) (fun z hz => hz)
    | [], y :: b, ha, hb =>
      rw [combGo]
      exact comb_step rfl (ih [] b pa (!pb) (by simp at hn ⊢; omega) trivial hb.tail) not_mem_nil hb.lt (stay_in not_mem_nil) (flip_in hb.lt) rfl (flip_odd b y pb) (Or.inr List.mem_cons_self) (fun z hz => hz) (fun z hz => List.mem_cons_of_mem _ hz)
    | x :: a, y :: b, ha, hb =>
      rw [combGo]
      by_cases h1 : x < y
      · rw [if_pos h1]
        have hy : ∀ z ∈ y :: b, x < z := fun z hz => by rcases List.mem_cons.1 hz with rfl | hz; exact h1; have := hb.lt z hz; omega
        exact comb_step rfl (ih a (y :: b) (!pa) pb (by simp at hn ⊢; omega) ha.tail hb) ha.lt hy (flip_in ha.lt) (stay_in hy) (flip_odd a x pa) rfl (Or.inl List.mem_cons_self) (fun z hz => List.mem_cons_of_mem _ hz) (fun z hz => hz)
      · rw [if_neg h1]
        by_cases h2 : y < x
        · rw [if_pos h2]
          have hx : ∀ z ∈ x :: a, y < z := fun z hz => by rcases List.mem_cons.1 hz with rfl | hz; exact h2; have := ha.lt z hz; omega
          exact comb_step rfl (ih (x :: a) b pa (!pb) (by simp at hn ⊢; omega) ha hb.tail) hx hb.lt (stay_in hx) (flip_in hb.lt) rfl (flip_odd b y pb) (Or.inr List.mem_cons_self) (fun z hz => hz) (fun z hz => List.mem_cons_of_mem _ hz)
        · rw [if_neg h2]
          obtain rfl : x = y := by omega
          exact comb_step rfl (ih a b (!pa) (!pb) (by simp at hn ⊢; omega) ha.tail hb.tail) ha.lt hb.lt (flip_in ha.lt) (flip_in hb.lt) (flip_odd a x pa) (flip_odd b x pb) (Or.inl List.mem_cons_self) (fun z hz => List.mem_cons_of_mem _ hz) (fun z hz => List.mem_cons_of_mem _ hz)

/-- a column. -/
structure ColOk (t : List Int) : Prop where
  asc : Asc t
  ev : Even t
  gr : InG t
def comb (op : Bool → Bool → Bool) (a b : List Int) : List Int := combGo op a b false false false
theorem comb_col {op : Bool → Bool → Bool} (h0 : op false false = false) {a b : List Int} (ha : ColOk a) (hb : ColOk b) : ColOk (comb op a b) ∧ ∀ y, inT (comb op a b) y = op (inT a y) (inT b y) := by
  have h := comb_is op _ a b false false (Nat.le_refl _) ha.asc hb.asc
  rw [h0] at h
  refine ⟨⟨h.asc, ?_, fun z hz => ?_⟩, fun y => ?_⟩
  · rw [← odd_even]
    have := h.par
    rw [(odd_even a).2 ha.ev, (odd_even b).2 hb.ev] at this
    simpa [h0, comb] using this
  · rcases h.mem z hz with k | k
    · exact ha.gr z k
    · exact hb.gr z k
  · have := h.inn y
    simpa [comb] using this
theorem col_nil : ColOk [] := ⟨trivial, (by unfold Even; rfl), not_mem_nil⟩
theorem col_one {a b : Int} (h : Span a b) : ColOk [a, b] := ⟨⟨h.2.1, trivial⟩, (by simp [Even]), fun z hz => by
  obtain ⟨h1, h2, h3⟩ := h
  simp at hz; rcases hz with rfl | rfl <;> omega⟩
theorem one_in {a b : Int} (h : Span a b) (y : Int) : inT [a, b] y = true ↔ a ≤ y ∧ y < b := by
  rw [inT_two (t := []) ⟨h.2.1, trivial⟩]; simp [inT_nil]

/-- the column of a list of rectangles at x. -/
def colS : List Rc → Int → List Int
  | [], _ => []
  | r :: l, x => if r.X0 ≤ x ∧ x < r.X1 then comb or [r.Y0, r.Y1] (colS l x) else colS l x
theorem colS_is {l : List Rc} (hl : ∀ r ∈ l, ROk r) (x : Int) : ColOk (colS l x) ∧ ∀ y, inT (colS l x) y = true ↔ HasL l x y := by
  induction l with
  | nil => exact ⟨col_nil, fun y => ⟨fun h => by simp [colS, inT_nil] at h, fun ⟨r, hr, _⟩ => by cases hr⟩⟩
  | cons r l ih =>
    obtain ⟨h1, h2⟩ := ih (fun q hq => hl q (List.mem_cons_of_mem _ hq))
    have hr := hl r List.mem_cons_self
    unfold colS
    by_cases c : r.X0 ≤ x ∧ x < r.X1
    · rw [if_pos c]
      obtain ⟨k1, k2⟩ := comb_col (op := or) rfl (col_one hr.2) h1
      refine ⟨k1, fun y => ?_⟩
      rw [k2 y, Bool.or_eq_true, one_in hr.2, h2 y]
      constructor
      · rintro (h | ⟨q, hq, hh⟩)
        · exact ⟨r, List.mem_cons_self, hr, c.1, c.2, h.1, h.2⟩
        · exact ⟨q, List.mem_cons_of_mem _ hq, hh⟩
      · rintro ⟨q, hq, hh⟩
        rcases List.mem_cons.1 hq with rfl | hq
        · exact Or.inl ⟨hh.2.2.2.1, hh.2.2.2.2⟩
        · exact Or.inr ⟨q, hq, hh⟩
    · rw [if_neg c]
      refine ⟨h1, fun y => ?_⟩
      rw [h2 y]
      constructor
      · rintro ⟨q, hq, hh⟩; exact ⟨q, List.mem_cons_of_mem _ hq, hh⟩
      · rintro ⟨q, hq, hh⟩
        rcases List.mem_cons.1 hq with rfl | hq
        · exact absurd ⟨hh.2.1, hh.2.2.1⟩ c
        · exact ⟨q, hq, hh⟩

/-! ### a form grows slab by slab -/
theorem SlabsOk.snoc : ∀ {S : List Slab} {u : Slab}, SlabsOk S → SlabOk u → (∀ s, S.getLast? = some s → Behind s u) → SlabsOk (S ++ [u]) := by
  intro S
  induction S with
  | nil => intro u _ hu _; exact hu
  | cons s S ih =>
    intro u hS hu hb
    cases S with
    | nil => exact ⟨hS, hb s rfl, hu⟩
    | cons v S => exact ⟨hS.1, hS.2.1, ih hS.2.2 hu (fun z hz => hb z (by rw [List.getLast?_cons_cons]; exact hz))⟩
theorem SlabsOk.init : ∀ {S : List Slab} {u : Slab}, SlabsOk (S ++ [u]) → SlabsOk S ∧ SlabOk u ∧ ∀ s, S.getLast? = some s → Behind s u := by
  intro S
  induction S with
  | nil => intro u h; exact ⟨trivial, h, fun s hs => by cases hs⟩
  | cons s S ih =>
    intro u h
    cases S with
    | nil => exact ⟨h.1, h.2.2, fun z hz => by simp at hz; subst hz; exact h.2.1⟩
    | cons v S =>
      obtain ⟨h1, h2, h3⟩ := ih h.2.2
      exact ⟨⟨h.1, h.2.1, h1⟩, h2, fun z hz => h3 z (by rw [List.getLast?_cons_cons] at hz; exact hz)⟩
/-- the next column, from a to b. -/
def stepF (S : List Slab) (a b : Int) (c : List Int) : List Slab :=
  if c = [] then S else
  match S.getLast? with
  | some s => if s.x1 = a ∧ s.t = c then S.dropLast ++ [⟨s.x0, b, c⟩] else S ++ [⟨a, b, c⟩]
  | none => [⟨a, b, c⟩]
theorem has_snoc (S : List Slab) (u : Slab) (x y : Int) : HasS (S ++ [u]) x y ↔ HasS S x y ∨ (u.x0 ≤ x ∧ x < u.x1 ∧ inT u.t y = true) := by
  constructor
  · rintro ⟨s, hs, h⟩
    rcases List.mem_append.1 hs with hs | hs
    · exact Or.inl ⟨s, hs, h⟩
    · rw [List.mem_singleton] at hs; subst hs; exact Or.inr h
  · rintro (⟨s, hs, h⟩ | h)
    · exact ⟨s, List.mem_append_left _ hs, h⟩
    · exact ⟨u, List.mem_append_right _ (List.mem_singleton.2 rfl), h⟩
structure Grown (S : List Slab) (a : Int) : Prop where
  ok : SlabsOk S
  to : ∀ s ∈ S, s.x1 ≤ a
theorem step_is {S : List Slab} {a b : Int} {c : List Int} (h : Grown S a) (hab : Span a b) (hc : ColOk c) : Grown (stepF S a b c) b ∧ ∀ x y, HasS (stepF S a b c) x y ↔ HasS S x y ∨ (a ≤ x ∧ x < b ∧ inT c y = true) := by
  have h2 := hab.2.1
  unfold stepF
  by_cases h0 : c = []
  · rw [if_pos h0]
    subst h0
    refine ⟨⟨h.ok, fun s hs => by have := h.to s hs; omega⟩, fun x y => ?_⟩
    simp [inT_nil]
  · rw [if_neg h0]
    rcases List.eq_nil_or_concat S with rfl | ⟨T, s, rfl⟩
    · refine ⟨⟨⟨hab, h0, hc.asc, hc.ev, hc.gr⟩, fun s hs => by simp at hs; subst hs; exact Int.le_refl _⟩, fun x y => ?_⟩
      exact has_snoc [] ⟨a, b, c⟩ x y
    · rw [List.concat_eq_append] at *
      have hl : (T ++ [s]).getLast? = some s := by simp
      rw [hl]
      simp only []
      obtain ⟨k1, k2, k3⟩ := h.ok.init
      have hs1 := h.to s (by simp)
      by_cases hm : s.x1 = a ∧ s.t = c
      · rw [if_pos hm]
        obtain ⟨rfl, rfl⟩ := hm
        rw [List.dropLast_concat]
        have hx := k2.x
        refine ⟨⟨k1.snoc ⟨⟨hx.1, by have := hx.2.1; simp only []; omega, hab.2.2⟩, h0, hc.asc, hc.ev, hc.gr⟩ (fun z hz => ?_), fun z hz => ?_⟩, fun x y => ?_⟩
        · obtain ⟨q1, q2⟩ := k3 z hz
          exact ⟨q1, q2⟩
        · rcases List.mem_append.1 hz with hz | hz
          · have := h.to z (List.mem_append_left _ hz); omega
          · rw [List.mem_singleton] at hz; subst hz; exact Int.le_refl _
        · rw [has_snoc, has_snoc]
          simp only []
          have := hx.2.1
          constructor
          · rintro (q | ⟨q1, q2, q3⟩)
            · exact Or.inl (Or.inl q)
            · by_cases q : x < s.x1
              · exact Or.inl (Or.inr ⟨q1, q, q3⟩)
              · exact Or.inr ⟨by omega, q2, q3⟩
          · rintro ((q | ⟨q1, q2, q3⟩) | ⟨q1, q2, q3⟩)
            · exact Or.inl q
            · exact Or.inr ⟨q1, by omega, q3⟩
            · exact Or.inr ⟨by omega, q2, q3⟩
      · rw [if_neg hm]
        refine ⟨⟨h.ok.snoc ⟨hab, h0, hc.asc, hc.ev, hc.gr⟩ (fun z hz => ?_), fun z hz => ?_⟩, fun x y => has_snoc _ _ x y⟩
        · rw [hl] at hz
          simp only [Option.some.injEq] at hz
          subst hz
          exact ⟨hs1, fun q1 q2 => hm ⟨q1, q2⟩⟩
        · rcases List.mem_append.1 hz with hz | hz
          · have := h.to z hz; omega
          · rw [List.mem_singleton] at hz; subst hz; exact Int.le_refl _
/-- the form that grows along some edges. -/
def growF (c : Int → List Int) : List Slab → List Int → List Slab
  | S, a :: b :: E => growF c (stepF S a b (c a)) (b :: E)
  | S, _ => S
theorem grow_form {c : Int → List Int} (hc : ∀ x, ColOk (c x)) : ∀ (E : List Int) (S : List Slab) (a : Int), Asc (a :: E) → InG (a :: E) → Grown S a →
    SlabsOk (growF c S (a :: E)) ∧ ∀ x y, HasS (growF c S (a :: E)) x y ↔ HasS S x y ∨ ∃ p ∈ List.zip (a :: E) E, p.1 ≤ x ∧ x < p.2 ∧ inT (c p.1) y = true := by
  intro E
  induction E with
  | nil =>
    intro S a _ _ h
    refine ⟨h.ok, fun x y => ?_⟩
    show HasS S x y ↔ _
    simp
  | cons b E ih =>
    intro S a ha hg h
    have hab : Span a b := ⟨(hg a List.mem_cons_self).1, ha.1, (hg b (List.mem_cons_of_mem _ List.mem_cons_self)).2⟩
    obtain ⟨s1, s2⟩ := step_is h hab (hc a)
    obtain ⟨h1, h2⟩ := ih (stepF S a b (c a)) b ha.2 (fun z hz => hg z (List.mem_cons_of_mem _ hz)) s1
    refine ⟨h1, fun x y => ?_⟩
    have e : growF c S (a :: b :: E) = growF c (stepF S a b (c a)) (b :: E) := rfl
    rw [e, h2 x y, s2 x y]
    rw [List.zip_cons_cons]
    simp only [List.mem_cons, exists_eq_or_imp]
    exact or_assoc
end Go.Proofs.Ytoalfmdjdplbkaa
