/-
  Plain mathematics of RegionCells: cells counted one by one, from -1 to 24.
-/
import Derived.Test.YtoalfmdjdplbkaaGd
set_option linter.unusedVariables false
namespace Go.Proofs.Ytoalfmdjdplbkaa

theorem sumN_front (n : Nat) (f : Nat → Nat) : sumN (n + 1) f = f 0 + sumN n (fun i => f (i + 1)) := by
  induction n with
  | zero => simp [sumN]
  | succ n ih => rw [sumN, ih, sumN]; omega
theorem sumN_le {n k : Nat} {f : Nat → Nat} (h : ∀ i, f i ≤ k) : sumN n f ≤ n * k := by
  induction n with
  | zero => simp [sumN]
  | succ n ih => rw [sumN, Nat.succ_mul]; have := h n; omega
/-- how many of the first cells of a column a set has, from -1 on. -/
def rowN (f : Int → Int → Bool) (X Y : Nat) : Nat := sumN Y fun j => if f ((X : Int) - 1) ((j : Int) - 1) = true then 1 else 0
/-- how many cells of the first columns. -/
def cntN (f : Int → Int → Bool) (X : Nat) : Nat := sumN X fun i => rowN f i 26
theorem rowN_succ (f : Int → Int → Bool) (X Y : Nat) : rowN f X (Y + 1) = rowN f X Y + if f ((X : Int) - 1) ((Y : Int) - 1) = true then 1 else 0 := rfl
theorem cntN_succ (f : Int → Int → Bool) (X : Nat) : cntN f (X + 1) = cntN f X + rowN f X 26 := rfl
theorem rowN_le (f : Int → Int → Bool) (X Y : Nat) : rowN f X Y ≤ Y := by
  have := sumN_le (n := Y) (k := 1) (f := fun j => if f ((X : Int) - 1) ((j : Int) - 1) = true then 1 else 0) (fun i => by split <;> omega)
  unfold rowN; omega
theorem cntN_le (f : Int → Int → Bool) (X : Nat) : cntN f X ≤ X * 26 := sumN_le fun i => rowN_le f i 26
def eqR (p q : Int → Int → Bool) (X : Nat) : Nat → Bool
  | 0 => true
  | Y + 1 => eqR p q X Y && (p ((X : Int) - 1) ((Y : Int) - 1) == q ((X : Int) - 1) ((Y : Int) - 1))
def eqC (p q : Int → Int → Bool) : Nat → Bool
  | 0 => true
  | X + 1 => eqC p q X && eqR p q X 26
theorem eqR_iff (p q : Int → Int → Bool) (X Y : Nat) : eqR p q X Y = true ↔ ∀ j : Nat, j < Y → p ((X : Int) - 1) ((j : Int) - 1) = q ((X : Int) - 1) ((j : Int) - 1) := by
  induction Y with
  | zero => exact ⟨fun _ j hj => absurd hj (Nat.not_lt_zero _), fun _ => rfl⟩
  | succ Y ih =>
    rw [eqR, Bool.and_eq_true, ih, beq_iff_eq]
    constructor
    · rintro ⟨h1, h2⟩ j hj
      by_cases e : j = Y
      · subst e; exact h2
      · exact h1 j (by omega)
    · exact fun h => ⟨fun j hj => h j (by omega), h Y (by omega)⟩
theorem eqC_iff (p q : Int → Int → Bool) (X : Nat) : eqC p q X = true ↔ ∀ i : Nat, i < X → ∀ j : Nat, j < 26 → p ((i : Int) - 1) ((j : Int) - 1) = q ((i : Int) - 1) ((j : Int) - 1) := by
  induction X with
  | zero => exact ⟨fun _ j hj => absurd hj (Nat.not_lt_zero _), fun _ => rfl⟩
  | succ X ih =>
    rw [eqC, Bool.and_eq_true, ih, eqR_iff]
    constructor
    · rintro ⟨h1, h2⟩ j hj
      by_cases e : j = X
      · subst e; exact h2
      · exact h1 j (by omega)
    · exact fun h => ⟨fun j hj => h j (by omega), h X (by omega)⟩
/-- all cells of a set are between 0 and 23. -/
def Win (p : Int → Int → Bool) : Prop := ∀ x y, p x y = true → 0 ≤ x ∧ x < 24 ∧ 0 ≤ y ∧ y < 24
theorem win_rects {l : List Rc} (hl : ∀ r ∈ l, ROk r) (h : ∀ x y, HasL l x y → x < 24 ∧ y < 24) : ∀ r ∈ l, r.X1 ≤ 24 ∧ r.Y1 ≤ 24 := fun r hr => by
  obtain ⟨⟨a1, a2, a3⟩, a4, a5, a6⟩ := hl r hr
  have := h (r.X1 - 1) (r.Y1 - 1) ⟨r, hr, ⟨⟨a1, a2, a3⟩, a4, a5, a6⟩, by omega, by omega, by omega, by omega⟩
  omega
theorem rowN_first {f : Int → Int → Bool} (hw : Win f) (Y : Nat) : rowN f 0 Y = 0 := by
  unfold rowN
  rw [sumN_congr (g := fun _ => 0) (fun j _ => if_neg (fun h => by have := hw _ _ h; omega)), sumN_zero]
theorem cntN_area {f : Int → Int → Bool} {l : List Rc} (h : IsForm l) (hw : Win f) (he : ∀ x y, f x y = true ↔ HasL l x y) : (cntN f 26 : Int) = areaL l := by
  have hb := win_rects (form_ok h) (fun x y hh => by have := hw x y ((he x y).2 hh); omega)
  rw [area_window h (n := 25) (fun r hr => by have := hb r hr; omega)]
  congr 1
  unfold cntN cntC
  rw [show (26 : Nat) = 25 + 1 from rfl, sumN_front, rowN_first hw, Nat.zero_add]
  refine sumN_congr fun i _ => ?_
  unfold rowN
  rw [sumN_front]
  have z : (if f (((i + 1 : Nat) : Int) - 1) (((0 : Nat) : Int) - 1) = true then 1 else 0) = 0 := if_neg (fun h => by have := hw _ _ h; omega)
  rw [z, Nat.zero_add]
  refine sumN_congr fun j _ => ?_
  have e1 : ((i + 1 : Nat) : Int) - 1 = (i : Int) := by omega
  have e2 : ((j + 1 : Nat) : Int) - 1 = (j : Int) := by omega
  rw [e1, e2]
  have : f (i : Int) (j : Int) = hasD l i j := by rw [Bool.eq_iff_iff, he, hasD_iff]
  rw [this]
theorem eqC_all {p q : Int → Int → Bool} (hp : Win p) (hq : Win q) : eqC p q 26 = true ↔ ∀ x y, p x y = q x y := by
  rw [eqC_iff]
  constructor
  · intro h x y
    by_cases c : (0 ≤ x ∧ x < 24) ∧ (0 ≤ y ∧ y < 24)
    · have := h (x + 1).toNat (by omega) (y + 1).toNat (by omega)
      rw [show (((x + 1).toNat : Nat) : Int) - 1 = x by omega, show (((y + 1).toNat : Nat) : Int) - 1 = y by omega] at this
      exact this
    · have h1 : p x y = false := by rw [← Bool.not_eq_true]; exact fun h => c (by have := hp _ _ h; omega)
      have h2 : q x y = false := by rw [← Bool.not_eq_true]; exact fun h => c (by have := hq _ _ h; omega)
      rw [h1, h2]
  · exact fun h i _ j _ => h _ _
/-- a list near the origin. -/
def Near24 (l : List Rc) : Prop := ∀ r ∈ l, (0 ≤ r.X0 ∧ r.X0 < r.X1 ∧ r.X1 ≤ 24) ∧ 0 ≤ r.Y0 ∧ r.Y0 < r.Y1 ∧ r.Y1 ≤ 24
noncomputable def nearB (l : List Rc) (n : Nat) : Bool := @decide (l.length ≤ n ∧ Near24 l) (Classical.propDecidable _)
theorem nearB_iff (l : List Rc) (n : Nat) : nearB l n = true ↔ l.length ≤ n ∧ Near24 l := by unfold nearB; simp
theorem near_ok {l : List Rc} (h : Near24 l) : ∀ r ∈ l, ROk r := fun r hr => by
  have := h r hr
  refine ⟨⟨?_, ?_, ?_⟩, ?_, ?_, ?_⟩ <;> omega
theorem near_win {l : List Rc} (h : Near24 l) : Win (hasB l) := fun x y hh => by
  obtain ⟨r, hr, k⟩ := (hasB_iff _ _ _).1 hh
  have := h r hr
  obtain ⟨_, k1, k2, k3, k4⟩ := k
  omega
end Go.Proofs.Ytoalfmdjdplbkaa
