/-
  Plain mathematics of regions (4): the number of cells of a form; unions and intersections add up.
-/
import Derived.Test.YtoalfmdjdplbkaaGc
set_option linter.unusedVariables false
namespace Go.Proofs.Ytoalfmdjdplbkaa

def sumN : Nat → (Nat → Nat) → Nat
  | 0, _ => 0
  | n + 1, f => sumN n f + f n
theorem sumN_congr {n : Nat} {f g : Nat → Nat} (h : ∀ i, i < n → f i = g i) : sumN n f = sumN n g := by
  induction n with
  | zero => rfl
  | succ n ih => rw [sumN, sumN, ih (fun i hi => h i (by omega)), h n (by omega)]
theorem sumN_add (n : Nat) (f g : Nat → Nat) : sumN n (fun i => f i + g i) = sumN n f + sumN n g := by
  induction n with
  | zero => rfl
  | succ n ih => simp only [sumN]; rw [ih]; omega
theorem sumN_zero (n : Nat) : sumN n (fun _ => 0) = 0 := by
  induction n with
  | zero => rfl
  | succ n ih => rw [sumN, ih]
/-- how many numbers of an interval lie below n. -/
theorem sumN_span {n : Nat} {a b : Int} {k : Nat} (h0 : 0 ≤ a) (h1 : a ≤ b) (h2 : b ≤ (n : Int)) : (sumN n (fun i => if a ≤ (i : Int) ∧ (i : Int) < b then k else 0) : Int) = (b - a) * k := by
  have key : ∀ m : Nat, m ≤ n → (sumN m (fun i => if a ≤ (i : Int) ∧ (i : Int) < b then k else 0) : Int) = (max 0 (min b (m : Int) - a)) * k := by
    intro m
    induction m with
    | zero => intro _; rw [show max 0 (min b ((0 : Nat) : Int) - a) = 0 by omega]; simp [sumN]
    | succ m ih =>
      intro hm
      have e := ih (by omega)
      rw [sumN]
      by_cases c : a ≤ (m : Int) ∧ (m : Int) < b
      · rw [if_pos c]
        have w : max 0 (min b ((m + 1 : Nat) : Int) - a) = max 0 (min b (m : Int) - a) + 1 := by omega
        rw [w, Int.natCast_add, e, Int.add_mul]; simp
      · rw [if_neg c]
        have w : max 0 (min b ((m + 1 : Nat) : Int) - a) = max 0 (min b (m : Int) - a) := by omega
        rw [w, ← e]; simp
  rw [key n (Nat.le_refl _)]
  congr 1
  omega

/-- how many cells with both numbers below n a set has. -/
def cntC (n : Nat) (P : Int → Int → Bool) : Nat := sumN n fun x => sumN n fun y => if P x y = true then 1 else 0
theorem cntC_congr {n : Nat} {P Q : Int → Int → Bool} (h : ∀ x y : Nat, x < n → y < n → P x y = Q x y) : cntC n P = cntC n Q :=
  sumN_congr fun x hx => sumN_congr fun y hy => by rw [h x y hx hy]
theorem cntC_add (n : Nat) (P Q : Int → Int → Bool) : cntC n (fun x y => P x y || Q x y) + cntC n (fun x y => P x y && Q x y) = cntC n P + cntC n Q := by
  unfold cntC
  rw [← sumN_add, ← sumN_add]
  refine sumN_congr fun x _ => ?_
  rw [← sumN_add, ← sumN_add]
  refine sumN_congr fun y _ => ?_
  by_cases h1 : P (x : Int) (y : Int) = true <;> by_cases h2 : Q (x : Int) (y : Int) = true <;> simp [h1, h2]
theorem cntC_none (n : Nat) {P : Int → Int → Bool} (h : ∀ x y, P x y = false) : cntC n P = 0 := by
  have e : cntC n P = sumN n (fun _ => sumN n fun _ => 0) := sumN_congr fun x _ => sumN_congr fun y _ => by rw [h]; rfl
  rw [e, sumN_congr (g := fun _ => 0) (fun _ _ => sumN_zero n), sumN_zero]
theorem cntC_rect {n : Nat} {r : Rc} (h : ROk r) (hx : r.X1 ≤ (n : Int)) (hy : r.Y1 ≤ (n : Int)) : (cntC n (fun x y => decide (HasR r x y)) : Int) = areaR r := by
  rw [area_ok h]
  have k := h
  unfold ROk Span at k
  have col : ∀ x : Nat, sumN n (fun y => if decide (HasR r (x : Int) (y : Int)) = true then 1 else 0) = if r.X0 ≤ (x : Int) ∧ (x : Int) < r.X1 then (r.Y1 - r.Y0).toNat else 0 := fun x => by
    by_cases c : r.X0 ≤ (x : Int) ∧ (x : Int) < r.X1
    · rw [if_pos c]
      have e := sumN_span (n := n) (a := r.Y0) (b := r.Y1) (k := 1) (by omega) (by omega) hy
      have e2 : sumN n (fun y => if decide (HasR r (x : Int) (y : Int)) = true then 1 else 0) = sumN n (fun y => if r.Y0 ≤ (y : Int) ∧ (y : Int) < r.Y1 then 1 else 0) := sumN_congr fun y _ => by
        by_cases q : r.Y0 ≤ (y : Int) ∧ (y : Int) < r.Y1
        · rw [if_pos q, if_pos (decide_eq_true ⟨h, c.1, c.2, q.1, q.2⟩)]
        · rw [if_neg q, if_neg (by rw [decide_eq_true_eq]; exact fun w => q ⟨w.2.2.2.1, w.2.2.2.2⟩)]
      rw [e2]; omega
    · rw [if_neg c]
      rw [sumN_congr (g := fun _ => 0) (fun y _ => if_neg (by rw [decide_eq_true_eq]; exact fun w => c ⟨w.2.1, w.2.2.1⟩)), sumN_zero]
  unfold cntC
  rw [sumN_congr (fun x _ => col x)]
  rw [sumN_span (by omega) (by omega) hx]
  congr 1
  omega

/-- the areas of all rectangles of a list, together. -/
def areaL : List Rc → Int
  | [] => 0
  | r :: l => areaR r + areaL l
theorem areaL_append (l m : List Rc) : areaL (l ++ m) = areaL l + areaL m := by
  induction l with
  | nil => simp [areaL]
  | cons r l ih => simp only [List.cons_append, areaL, ih]; omega
/-- no two rectangles of a list have a common cell. -/
def Disj : List Rc → Prop
  | [] => True
  | r :: l => (∀ q ∈ l, ∀ x y, HasR r x y → ¬ HasR q x y) ∧ Disj l
theorem Disj.append {l m : List Rc} (hl : Disj l) (hm : Disj m) (h : ∀ r ∈ l, ∀ q ∈ m, ∀ x y, HasR r x y → ¬ HasR q x y) : Disj (l ++ m) := by
  induction l with
  | nil => exact hm
  | cons r l ih =>
    refine ⟨fun q hq => ?_, ih hl.2 (fun s hs => h s (List.mem_cons_of_mem _ hs))⟩
    rcases List.mem_append.1 hq with hq | hq
    · exact hl.1 q hq
    · exact h r List.mem_cons_self q hq
def hasD (l : List Rc) (x y : Int) : Bool := l.any fun r => decide (HasR r x y)
theorem hasD_iff (l : List Rc) (x y : Int) : hasD l x y = true ↔ HasL l x y := by
  unfold hasD HasL
  rw [List.any_eq_true]
  constructor
  · rintro ⟨r, hr, h⟩; exact ⟨r, hr, of_decide_eq_true h⟩
  · rintro ⟨r, hr, h⟩; exact ⟨r, hr, decide_eq_true h⟩
theorem area_cnt {n : Nat} : ∀ {l : List Rc}, Disj l → (∀ r ∈ l, ROk r ∧ r.X1 ≤ (n : Int) ∧ r.Y1 ≤ (n : Int)) → areaL l = cntC n (hasD l) := by
  intro l
  induction l with
  | nil => intro _ _; rw [cntC_none n (P := hasD []) (fun x y => rfl)]; rfl
  | cons r l ih =>
    intro hd hl
    obtain ⟨h1, h2, h3⟩ := hl r List.mem_cons_self
    have e := ih hd.2 (fun q hq => hl q (List.mem_cons_of_mem _ hq))
    have e1 := cntC_rect h1 h2 h3
    have s := cntC_add n (fun x y => decide (HasR r x y)) (hasD l)
    have z : cntC n (fun x y => decide (HasR r x y) && hasD l x y) = 0 := cntC_none n (fun x y => by
      rw [← Bool.not_eq_true, Bool.and_eq_true, hasD_iff]
      rintro ⟨k1, q, hq, k2⟩
      exact hd.1 q hq x y (of_decide_eq_true k1) k2)
    have u : cntC n (hasD (r :: l)) = cntC n (fun x y => decide (HasR r x y) || hasD l x y) := cntC_congr fun x y _ _ => rfl
    rw [areaL, u]
    omega
theorem twos_disj {x0 x1 : Int} : ∀ t, Even t → Asc t → Disj (rectsOf x0 x1 t) ∧ ∀ r ∈ rectsOf x0 x1 t, r.X0 = x0 ∧ r.X1 = x1 ∧ (∀ z, (∀ w ∈ t, z < w) → z < r.Y0) := by
  intro t he
  refine even_ind (P := fun t => Asc t → Disj (rectsOf x0 x1 t) ∧ ∀ r ∈ rectsOf x0 x1 t, r.X0 = x0 ∧ r.X1 = x1 ∧ (∀ z, (∀ w ∈ t, z < w) → z < r.Y0)) ?_ ?_ t he
  · intro _; exact ⟨trivial, fun r hr => by cases hr⟩
  · intro a b t _ ih ha
    obtain ⟨h1, h2⟩ := ih ha.2.tail
    refine ⟨⟨fun q hq x y k1 k2 => ?_, h1⟩, fun r hr => ?_⟩
    · have := (h2 q hq).2.2 b ha.2.lt
      have q1 := k1.2.2.2.2; have q2 := k2.2.2.2.1
      simp only [] at q1
      omega
    · rcases List.mem_cons.1 (show r ∈ ⟨x0, a, x1, b⟩ :: rectsOf x0 x1 t from hr) with rfl | hr
      · exact ⟨rfl, rfl, fun z hz => hz a List.mem_cons_self⟩
      · obtain ⟨k1, k2, k3⟩ := h2 r hr
        exact ⟨k1, k2, fun z hz => k3 z (fun w hw => hz w (List.mem_cons_of_mem _ (List.mem_cons_of_mem _ hw)))⟩
theorem slabs_disj : ∀ {S : List Slab}, SlabsOk S → Disj (flatS S) := by
  intro S
  induction S with
  | nil => intro _; trivial
  | cons s S ih =>
    intro h
    have k := h.head
    refine (twos_disj s.t k.ev k.asc).1.append (ih h.tail) (fun r hr q hq x y k1 k2 => ?_)
    obtain ⟨u, hu, hq⟩ := List.mem_flatMap.1 hq
    have ku := h.each u (List.mem_cons_of_mem _ hu)
    have e1 := ((twos_disj (x0 := s.x0) (x1 := s.x1) s.t k.ev k.asc).2 r hr).2.1
    have e2 := ((twos_disj (x0 := u.x0) (x1 := u.x1) u.t ku.ev ku.asc).2 q hq).1
    have := h.after u hu
    have q1 := k1.2.2.1; have q2 := k2.2.1
    omega
/-- the area of a form is the number of its cells. -/
theorem form_area {l : List Rc} (h : IsForm l) : areaL l = cntC 1048576 (hasD l) := by
  have hok := form_ok h
  obtain ⟨S, hS, rfl⟩ := h
  exact area_cnt (slabs_disj hS) (fun r hr => by
    have k := hok r hr
    exact ⟨k, by have := k.1.2.2; omega, by have := k.2.2.2; omega⟩)
/-- unions and intersections add up. -/
theorem area_adds {l m u i : List Rc} (hl : IsForm l) (hm : IsForm m) (hu : IsForm u) (hi : IsForm i) (h1 : ∀ x y, HasL u x y ↔ HasL l x y ∨ HasL m x y) (h2 : ∀ x y, HasL i x y ↔ HasL l x y ∧ HasL m x y) : areaL u + areaL i = areaL l + areaL m := by
  rw [form_area hl, form_area hm, form_area hu, form_area hi]
  have s := cntC_add 1048576 (hasD l) (hasD m)
  have e1 : cntC 1048576 (hasD u) = cntC 1048576 (fun x y => hasD l x y || hasD m x y) := cntC_congr fun x y _ _ => by
    rw [Bool.eq_iff_iff, Bool.or_eq_true, hasD_iff, hasD_iff, hasD_iff]; exact h1 x y
  have e2 : cntC 1048576 (hasD i) = cntC 1048576 (fun x y => hasD l x y && hasD m x y) := cntC_congr fun x y _ _ => by
    rw [Bool.eq_iff_iff, Bool.and_eq_true, hasD_iff, hasD_iff, hasD_iff]; exact h2 x y
  rw [e1, e2]
  omega
/-- counted in a window that has all cells. -/
theorem area_window {l : List Rc} (h : IsForm l) {n : Nat} (hn : ∀ r ∈ l, r.X1 ≤ (n : Int) ∧ r.Y1 ≤ (n : Int)) : areaL l = cntC n (hasD l) := by
  have hok := form_ok h
  obtain ⟨S, hS, rfl⟩ := h
  exact area_cnt (slabs_disj hS) (fun r hr => ⟨hok r hr, hn r hr⟩)
end Go.Proofs.Ytoalfmdjdplbkaa
