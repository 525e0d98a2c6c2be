/-
  Plain mathematics of SolidCubes: cubes counted one by one. No program in this text.
-/
import Derived.Test.YteecfgdicckplaaAr
set_option linter.unusedVariables false
set_option maxRecDepth 100000
namespace Go.Proofs.Yteecfgdicckplaa

def F3 := Int → Int → Int → Bool
def row9 (f : F3) (Z X Y : Nat) : Nat := sumN Y fun j => if f (X : Int) (j : Int) (Z : Int) = true then 1 else 0
def col9 (f : F3) (Z X : Nat) : Nat := sumN X fun i => row9 f Z i 8
def cub9 (f : F3) (Z : Nat) : Nat := sumN Z fun k => col9 f k 8
def cnt9 (f : F3) (Z X Y : Nat) : Int := ((cub9 f Z + col9 f Z X + row9 f Z X Y : Nat) : Int)
def up9 (b : Bool) (n : Int) : Int := if b = true then n + 1 else n
theorem cnt9_y (f : F3) (Z X Y : Nat) : cnt9 f Z X (Y + 1) = up9 (f (X : Int) (Y : Int) (Z : Int)) (cnt9 f Z X Y) := by
  unfold cnt9 up9
  rw [show row9 f Z X (Y + 1) = row9 f Z X Y + if f (X : Int) (Y : Int) (Z : Int) = true then 1 else 0 from rfl]
  split <;> omega
theorem cnt9_x (f : F3) (Z X : Nat) : cnt9 f Z (X + 1) 0 = cnt9 f Z X 8 := by
  unfold cnt9
  rw [show col9 f Z (X + 1) = col9 f Z X + row9 f Z X 8 from rfl, show row9 f Z (X + 1) 0 = 0 from rfl]
  all_goals omega
theorem cnt9_z (f : F3) (Z : Nat) : cnt9 f (Z + 1) 0 0 = cnt9 f Z 8 0 := by
  unfold cnt9
  rw [show cub9 f (Z + 1) = cub9 f Z + col9 f Z 8 from rfl, show col9 f (Z + 1) 0 = 0 from rfl, show row9 f (Z + 1) 0 0 = 0 from rfl, show row9 f Z 8 0 = 0 from rfl]
  all_goals omega
theorem cnt9_0 (f : F3) : cnt9 f 0 0 0 = 0 := rfl
theorem row9_le (f : F3) (Z X Y : Nat) : row9 f Z X Y ≤ Y * 1 := sumN_le fun i _ => by split <;> omega
theorem col9_le (f : F3) (Z X : Nat) : col9 f Z X ≤ X * 8 := sumN_le fun i _ => by have := row9_le f Z i 8; omega
theorem cub9_le (f : F3) (Z : Nat) : cub9 f Z ≤ Z * 64 := sumN_le fun i _ => by have := col9_le f i 8; omega
theorem cnt9_bd (f : F3) {Z X Y : Nat} (hz : Z ≤ 8) (hx : X ≤ 8) (hy : Y ≤ 8) : 0 ≤ cnt9 f Z X Y ∧ cnt9 f Z X Y ≤ 1000 := by
  have h1 := row9_le f Z X Y
  have h2 := col9_le f Z X
  have h3 := cub9_le f Z
  unfold cnt9
  omega
theorem cnt9_end (f : F3) : cnt9 f 8 0 0 = (cub9 f 8 : Nat) := by
  unfold cnt9
  rw [show col9 f 8 0 = 0 from rfl, show row9 f 8 0 0 = 0 from rfl]
  all_goals omega
def fOr9 (p q : F3) : F3 := fun x y z => p x y z || q x y z
def fAnd9 (p q : F3) : F3 := fun x y z => p x y z && q x y z
def fNot9 (p q : F3) : F3 := fun x y z => p x y z && !(q x y z)
theorem cub9_and_not (p q : F3) : cub9 (fAnd9 p q) 8 + cub9 (fNot9 p q) 8 = cub9 p 8 := by
  unfold cub9
  rw [← sumN_add]
  refine sumN_congr fun z _ => ?_
  unfold col9
  rw [← sumN_add]
  refine sumN_congr fun x _ => ?_
  unfold row9
  rw [← sumN_add]
  refine sumN_congr fun y _ => ?_
  unfold fAnd9 fNot9
  cases p x y z <;> cases q x y z <;> rfl
theorem cub9_or_and (p q : F3) : cub9 (fOr9 p q) 8 + cub9 (fAnd9 p q) 8 = cub9 p 8 + cub9 q 8 := by
  unfold cub9
  rw [← sumN_add, ← sumN_add]
  refine sumN_congr fun z _ => ?_
  unfold col9
  rw [← sumN_add, ← sumN_add]
  refine sumN_congr fun x _ => ?_
  unfold row9
  rw [← sumN_add, ← sumN_add]
  refine sumN_congr fun y _ => ?_
  unfold fAnd9 fOr9
  cases p x y z <;> cases q x y z <;> rfl
theorem sumN_none9 {n : Nat} {f : Nat → Nat} : sumN n f = 0 ↔ ∀ i, i < n → f i = 0 := by
  induction n with
  | zero => exact ⟨fun _ i hi => absurd hi (Nat.not_lt_zero _), fun _ => rfl⟩
  | succ n ih =>
    rw [sumN, Nat.add_eq_zero_iff, ih]
    constructor
    · rintro ⟨h1, h2⟩ i hi
      by_cases e : i = n
      · subst e; exact h2
      · exact h1 i (by omega)
    · exact fun h => ⟨fun i hi => h i (by omega), h n (by omega)⟩
theorem cub9_none (f : F3) : cub9 f 8 = 0 ↔ ∀ x y z : Nat, x < 8 → y < 8 → z < 8 → f x y z = false := by
  unfold cub9 col9 row9
  simp only [sumN_none9]
  constructor
  · intro h x y z hx hy hz
    have := h z hz x hx y hy
    cases e : f x y z with
    | false => rfl
    | true => rw [e] at this; simp at this
  · intro h z hz x hx y hy
    rw [h x y z hx hy hz]; rfl
/-- all cubes of a set have numbers from 0 to 7. -/
def Win9 (f : F3) : Prop := ∀ x y z, f x y z = true → (0 ≤ x ∧ x < 8) ∧ (0 ≤ y ∧ y < 8) ∧ 0 ≤ z ∧ z < 8
theorem win9_none {f : F3} (hw : Win9 f) : cub9 f 8 = 0 ↔ ∀ x y z, f x y z = false := by
  rw [cub9_none]
  constructor
  · intro h x y z
    rw [← Bool.not_eq_true]
    intro e
    have := hw x y z e
    have k := h x.toNat y.toNat z.toNat (by omega) (by omega) (by omega)
    rw [show ((x.toNat : Nat) : Int) = x by omega, show ((y.toNat : Nat) : Int) = y by omega, show ((z.toNat : Nat) : Int) = z by omega, e] at k
    exact absurd k (by simp)
  · exact fun h x y z _ _ _ => h _ _ _
theorem win9_not {p q : F3} (hp : Win9 p) : Win9 (fNot9 p q) := fun x y z h => by
  unfold fNot9 at h
  rw [Bool.and_eq_true] at h
  exact hp x y z h.1
/-- two sets of cubes are one, if both have as many as their intersection. -/
theorem same9 {p q : F3} (hp : Win9 p) (hq : Win9 q) : (∀ x y z, p x y z = q x y z) ↔ cnt9 p 8 0 0 = cnt9 (fAnd9 p q) 8 0 0 ∧ cnt9 q 8 0 0 = cnt9 (fAnd9 p q) 8 0 0 := by
  rw [cnt9_end, cnt9_end, cnt9_end]
  have e1 := cub9_and_not p q
  have e2 := cub9_and_not q p
  have e3 : fAnd9 q p = fAnd9 p q := by funext x y z; unfold fAnd9; exact Bool.and_comm _ _
  rw [e3] at e2
  have n1 := win9_none (win9_not (q := q) hp)
  have n2 := win9_none (win9_not (q := p) hq)
  constructor
  · intro h
    have z1 : cub9 (fNot9 p q) 8 = 0 := n1.2 (fun x y z => by unfold fNot9; rw [h]; cases q x y z <;> rfl)
    have z2 : cub9 (fNot9 q p) 8 = 0 := n2.2 (fun x y z => by unfold fNot9; rw [h]; cases q x y z <;> rfl)
    omega
  · rintro ⟨h1, h2⟩ x y z
    have z1 := n1.1 (by omega) x y z
    have z2 := n2.1 (by omega) x y z
    unfold fNot9 at z1 z2
    cases e : p x y z <;> cases e2 : q x y z <;> simp_all
theorem sumI_more {n : Nat} {f : Int → Int} (k : Nat) (h : ∀ i : Nat, n ≤ i → f i = 0) : sumI (n + k) f = sumI n f := by
  induction k with
  | zero => rfl
  | succ k ih => rw [← Nat.add_assoc, sumI, ih, h _ (by omega)]; omega
theorem sumI_nat {f : Int → Int} {g : Nat → Nat} : ∀ {n : Nat}, (∀ i : Nat, i < n → f i = (g i : Nat)) → sumI n f = ((sumN n g : Nat) : Int) := by
  intro n
  induction n with
  | zero => intro _; rfl
  | succ n ih =>
    intro h
    rw [sumI, sumN, ih (fun i hi => h i (by omega)), h n (by omega)]
    omega
theorem area_none {l : List Rc} (h : IsForm l) (hn : ∀ x y, ¬ HasL l x y) : areaL l = 0 := by
  rw [form_area h, cntC_none 1048576 (P := hasD l) (fun x y => by rw [← Bool.not_eq_true, hasD_iff]; exact hn x y)]; rfl
/-- the volume of a solid whose cubes have numbers from 0 to 7. -/
theorem vol_cnt9 {S : List Sl} {f : F3} (h : SForm S) (hw : Win9 f) (hf : ∀ x y z, f x y z = true ↔ HasL (secS S z) x y) : volS S = cnt9 f 8 0 0 := by
  rw [vol_sum h, cnt9_end, show (4096 : Nat) = 8 + 4088 from rfl, sumI_more 4088 (fun i hi => area_none (sec_form h _) (fun x y hh => by have := hw x y _ ((hf x y _).2 hh); omega))]
  unfold cub9
  refine sumI_nat fun z hz => ?_
  have hform := sec_form h (z : Int)
  rw [area_window hform (n := 8) (fun r hr => by
    have hr2 : ROk r := form_ok hform r hr
    obtain ⟨⟨a1, a2, a3⟩, a4, a5, a6⟩ := hr2
    have := hw (r.X1 - 1) (r.Y1 - 1) z ((hf _ _ _).2 ⟨r, hr, ⟨⟨a1, a2, a3⟩, a4, a5, a6⟩, by omega, by omega, by omega, by omega⟩)
    omega)]
  unfold col9 row9 cntC
  congr 1
  refine sumN_congr fun x _ => sumN_congr fun y _ => ?_
  have : f (x : Int) (y : Int) (z : Int) = hasD (secS S z) x y := by rw [Bool.eq_iff_iff, hf, hasD_iff]
  rw [this]
/-! ### the law's own functions -/
def Good8 (b : Bx) : Prop := (0 ≤ b.r.X0 ∧ b.r.X0 < b.r.X1 ∧ b.r.X1 ≤ 8) ∧ (0 ≤ b.r.Y0 ∧ b.r.Y0 < b.r.Y1 ∧ b.r.Y1 ≤ 8) ∧ 0 ≤ b.z0 ∧ b.z0 < b.z1 ∧ b.z1 ≤ 8
def Near8 (l : List Bx) : Prop := ∀ b ∈ l, Good8 b
noncomputable def near8 (l : List Bx) (n : Nat) : Bool := @decide (l.length ≤ n ∧ Near8 l) (Classical.propDecidable _)
theorem near8_iff (l : List Bx) (n : Nat) : near8 l n = true ↔ l.length ≤ n ∧ Near8 l := by unfold near8; simp
theorem near8_ok {l : List Bx} (h : Near8 l) : ∀ b ∈ l, BOk b := fun b hb => by
  have := h b hb
  unfold Good8 at this
  refine ⟨⟨⟨?_, ?_, ?_⟩, ?_, ?_, ?_⟩, ?_, ?_, ?_⟩ <;> omega
noncomputable def covB (l : List Bx) : F3 := fun x y z => @decide (HasB l x y z) (Classical.propDecidable _)
theorem covB_iff (l : List Bx) (x y z : Int) : covB l x y z = true ↔ HasB l x y z := by unfold covB; simp
theorem near8_win {l : List Bx} (h : Near8 l) : Win9 (covB l) := fun x y z hh => by
  obtain ⟨b, hb, k, k5, k6⟩ := (covB_iff _ _ _ _).1 hh
  have := h b hb
  unfold Good8 at this
  obtain ⟨_, k1, k2, k3, k4⟩ := k
  omega
end Go.Proofs.Yteecfgdicckplaa
