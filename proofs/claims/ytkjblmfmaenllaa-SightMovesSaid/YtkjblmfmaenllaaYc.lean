/-
  Plain mathematics of sight (layer 11), 1: bounds and intervals of fractions, the coordinates of a point on a line, and what is hit. No program in this text.
  Plain mathematics of sight (layer 11), 2: unions, the way back, steps, multiples, moves, samples. No program in this text.
  Plain mathematics of sight (layer 11), 4: the reference's way: open bounds, and a mark for nothing. No program in this text.
-/
import Derived.Test.YtkjblmfmaenllaaAb
set_option linter.unusedVariables false
namespace Go.Proofs.Ytkjblmfmaenllaa

/-- an end of an interval: the fraction n/d, and whether it belongs to the interval. -/
structure Bd where
  n : Int
  d : Int
  c : Bool
def AbvB (b : Bd) (n m : Int) : Prop := b.n * m < n * b.d ∨ (b.c = true ∧ b.n * m = n * b.d)
def BlwB (b : Bd) (n m : Int) : Prop := n * b.d < b.n * m ∨ (b.c = true ∧ n * b.d = b.n * m)
def afterB (lo b : Bd) : Bd := if lo.n * b.d < b.n * lo.d ∨ (b.n * lo.d = lo.n * b.d ∧ b.c = false) then b else lo
def beforeB (hi b : Bd) : Bd := if b.n * hi.d < hi.n * b.d ∨ (b.n * hi.d = hi.n * b.d ∧ b.c = false) then b else hi
theorem fr_mul {a q r : Int} : q * (a * r) = a * q * r := by rw [← Int.mul_assoc, Int.mul_comm q a]
theorem fr_mid {b p r : Int} : b * p * r = b * r * p := by rw [Int.mul_assoc, Int.mul_comm p r, ← Int.mul_assoc]
theorem fr_le {a p b q c r : Int} (hq : 0 < q) (hp : 0 ≤ p) (hr : 0 ≤ r) (h1 : a * q ≤ b * p) (h2 : b * r ≤ c * q) : a * r ≤ c * p := by
  refine Int.le_of_mul_le_mul_left (a := q) ?_ hq
  rw [fr_mul, fr_mul]
  exact Int.le_trans (Int.mul_le_mul_of_nonneg_right h1 hr) (by rw [fr_mid]; exact Int.mul_le_mul_of_nonneg_right h2 hp)
theorem fr_lt1 {a p b q c r : Int} (hq : 0 < q) (hp : 0 ≤ p) (hr : 0 < r) (h1 : a * q < b * p) (h2 : b * r ≤ c * q) : a * r < c * p := by
  refine Int.lt_of_mul_lt_mul_left (a := q) ?_ (Int.le_of_lt hq)
  rw [fr_mul, fr_mul]
  exact Int.lt_of_lt_of_le (Int.mul_lt_mul_of_pos_right h1 hr) (by rw [fr_mid]; exact Int.mul_le_mul_of_nonneg_right h2 hp)
theorem fr_lt2 {a p b q c r : Int} (hq : 0 < q) (hp : 0 < p) (hr : 0 ≤ r) (h1 : a * q ≤ b * p) (h2 : b * r < c * q) : a * r < c * p := by
  refine Int.lt_of_mul_lt_mul_left (a := q) ?_ (Int.le_of_lt hq)
  rw [fr_mul, fr_mul]
  exact Int.lt_of_le_of_lt (Int.mul_le_mul_of_nonneg_right h1 hr) (by rw [fr_mid]; exact Int.mul_lt_mul_of_pos_right h2 hp)
theorem AbvB.le {b : Bd} {n m : Int} (h : AbvB b n m) : b.n * m ≤ n * b.d := by
  rcases h with h | h
  · omega
  · exact Int.le_of_eq h.2
theorem BlwB.le {b : Bd} {n m : Int} (h : BlwB b n m) : n * b.d ≤ b.n * m := by
  rcases h with h | h
  · omega
  · exact Int.le_of_eq h.2
theorem after_iff {lo b : Bd} {n m : Int} (hl : 0 < lo.d) (hb : 0 < b.d) (hm : 0 < m) : AbvB (afterB lo b) n m ↔ AbvB lo n m ∧ AbvB b n m := by
  unfold afterB
  split
  · next c =>
    refine ⟨fun h => ⟨?_, h⟩, fun h => h.2⟩
    rcases c with c | ⟨c, e⟩
    · exact Or.inl (fr_lt1 hb (Int.le_of_lt hl) hm c h.le)
    · rcases h with h | h
      · exact Or.inl (fr_lt2 hb hl (Int.le_of_lt hm) (Int.le_of_eq c.symm) h)
      · rw [e] at h; exact absurd h.1 (by simp)
  · next c =>
    refine ⟨fun h => ⟨h, ?_⟩, fun h => h.1⟩
    rcases Int.lt_trichotomy (b.n * lo.d) (lo.n * b.d) with k | k | k
    · exact Or.inl (fr_lt1 hl (Int.le_of_lt hb) hm k h.le)
    · have e : b.c = true := by
        cases e : b.c with
        | true => rfl
        | false => exact absurd (Or.inr ⟨k, e⟩) c
      have := fr_le hl (Int.le_of_lt hb) (Int.le_of_lt hm) (Int.le_of_eq k) h.le
      rcases Int.lt_or_eq_of_le this with q | q
      · exact Or.inl q
      · exact Or.inr ⟨e, q⟩
    · exact absurd (Or.inl k) c
theorem before_iff {hi b : Bd} {n m : Int} (hh : 0 ≤ hi.d) (h0 : hi.d = 0 → 0 < hi.n) (hb : 0 < b.d) (hm : 0 < m) : BlwB (beforeB hi b) n m ↔ BlwB hi n m ∧ BlwB b n m := by
  have pos : hi.d = 0 → 0 < hi.n * b.d := fun e => Int.mul_pos (h0 e) hb
  unfold beforeB
  split
  · next c =>
    refine ⟨fun h => ⟨?_, h⟩, fun h => h.2⟩
    rcases c with c | ⟨c, e⟩
    · exact Or.inl (fr_lt2 hb hm hh h.le c)
    · have hd : 0 < hi.d := by
        rcases Int.lt_or_eq_of_le hh with k | k
        · exact k
        · have := pos k.symm
          rw [← c, ← k, Int.mul_zero] at this
          omega
      rcases h with h | h
      · exact Or.inl (fr_lt1 hb (Int.le_of_lt hm) hd h (Int.le_of_eq c))
      · rw [e] at h; exact absurd h.1 (by simp)
  · next c =>
    refine ⟨fun h => ⟨h, ?_⟩, fun h => h.1⟩
    have hd : hi.n * b.d ≤ b.n * hi.d → 0 < hi.d := fun q => by
      rcases Int.lt_or_eq_of_le hh with k | k
      · exact k
      · have := pos k.symm
        rw [← k, Int.mul_zero] at q
        omega
    rcases Int.lt_trichotomy (b.n * hi.d) (hi.n * b.d) with k | k | k
    · exact absurd (Or.inl k) c
    · have e : b.c = true := by
        cases e : b.c with
        | true => rfl
        | false => exact absurd (Or.inr ⟨k, e⟩) c
      have hd := hd (Int.le_of_eq k.symm)
      have := fr_le hd (Int.le_of_lt hm) (Int.le_of_lt hb) h.le (Int.le_of_eq k.symm)
      rcases Int.lt_or_eq_of_le this with q | q
      · exact Or.inl q
      · exact Or.inr ⟨e, q⟩
    · exact Or.inl (fr_lt2 (hd (Int.le_of_lt k)) hm (Int.le_of_lt hb) h.le k)
/-- an interval of fractions. -/
structure Iv where
  lo : Bd
  hi : Bd
def InI (i : Iv) (n m : Int) : Prop := AbvB i.lo n m ∧ BlwB i.hi n m
structure IvOk (i : Iv) : Prop where
  l0 : 0 ≤ i.lo.n
  l1 : 0 < i.lo.d
  h0 : 0 ≤ i.hi.d
  h1 : i.hi.d = 0 → 0 < i.hi.n
def BdIn (b : Bd) : Prop := -2097152 ≤ b.n ∧ b.n ≤ 2097152 ∧ 0 ≤ b.d ∧ b.d ≤ 2097152
def IvIn (i : Iv) : Prop := BdIn i.lo ∧ BdIn i.hi
/-- the interval where the coordinate p + t * d is at least f and less than e. -/
def nar (i : Iv) (p d f e : Int) : Iv :=
  if 0 < d then ⟨afterB i.lo ⟨f - p, d, true⟩, beforeB i.hi ⟨e - p, d, false⟩⟩
  else if d < 0 then ⟨afterB i.lo ⟨p - e, -d, false⟩, beforeB i.hi ⟨p - f, -d, true⟩⟩
  else if p < f ∨ e ≤ p then ⟨i.lo, beforeB i.hi ⟨0, 1, false⟩⟩ else i
def In1 (p d f e n m : Int) : Prop := f * m ≤ p * m + n * d ∧ p * m + n * d < e * m
theorem after_ok {lo b : Bd} (h0 : 0 ≤ lo.n) (hl : 0 < lo.d) (hb : 0 < b.d) : 0 ≤ (afterB lo b).n ∧ 0 < (afterB lo b).d := by
  unfold afterB
  split
  · next c =>
    refine ⟨?_, hb⟩
    have k : lo.n * b.d ≤ b.n * lo.d := by
      rcases c with c | c
      · omega
      · exact Int.le_of_eq c.1.symm
    have : 0 * lo.d ≤ b.n * lo.d := by rw [Int.zero_mul]; exact Int.le_trans (Int.mul_nonneg h0 (Int.le_of_lt hb)) k
    exact Int.le_of_mul_le_mul_right this hl
  · exact ⟨h0, hl⟩
theorem before_ok {hi b : Bd} (hh : 0 ≤ hi.d) (h0 : hi.d = 0 → 0 < hi.n) (hb : 0 < b.d) : 0 ≤ (beforeB hi b).d ∧ ((beforeB hi b).d = 0 → 0 < (beforeB hi b).n) := by
  unfold beforeB
  split
  · exact ⟨Int.le_of_lt hb, fun e => by omega⟩
  · exact ⟨hh, h0⟩
theorem nar_ok {i : Iv} (h : IvOk i) (p d f e : Int) : IvOk (nar i p d f e) := by
  unfold nar
  split
  · next c =>
    obtain ⟨a1, a2⟩ := after_ok (b := ⟨f - p, d, true⟩) h.l0 h.l1 c
    obtain ⟨b1, b2⟩ := before_ok (b := ⟨e - p, d, false⟩) h.h0 h.h1 c
    exact ⟨a1, a2, b1, b2⟩
  · split
    · next c =>
      have hd : 0 < -d := by omega
      obtain ⟨a1, a2⟩ := after_ok (b := ⟨p - e, -d, false⟩) h.l0 h.l1 hd
      obtain ⟨b1, b2⟩ := before_ok (b := ⟨p - f, -d, true⟩) h.h0 h.h1 hd
      exact ⟨a1, a2, b1, b2⟩
    · split
      · obtain ⟨b1, b2⟩ := before_ok (b := ⟨0, 1, false⟩) h.h0 h.h1 (by decide)
        exact ⟨h.l0, h.l1, b1, b2⟩
      · exact h
theorem after_in {lo b : Bd} (h : BdIn lo) (k : BdIn b) : BdIn (afterB lo b) := by unfold afterB; split <;> assumption
theorem before_in {lo b : Bd} (h : BdIn lo) (k : BdIn b) : BdIn (beforeB lo b) := by unfold beforeB; split <;> assumption
theorem nar_in {i : Iv} (h : IvIn i) {p d f e : Int} (hp : 0 ≤ p ∧ p ≤ 1048576) (hd : -1048576 ≤ d ∧ d ≤ 1048576) (hf : 0 ≤ f ∧ f ≤ 1048576) (he : 0 ≤ e ∧ e ≤ 1048576) : IvIn (nar i p d f e) := by
  unfold nar
  split
  · exact ⟨after_in h.1 (by unfold BdIn; simp only; omega), before_in h.2 (by unfold BdIn; simp only; omega)⟩
  · split
    · exact ⟨after_in h.1 (by unfold BdIn; simp only; omega), before_in h.2 (by unfold BdIn; simp only; omega)⟩
    · split
      · exact ⟨h.1, before_in h.2 (by unfold BdIn; simp only; omega)⟩
      · exact h
theorem nar_iff {i : Iv} (h : IvOk i) (p d f e : Int) {n m : Int} (hm : 0 < m) : InI (nar i p d f e) n m ↔ InI i n m ∧ In1 p d f e n m := by
  unfold nar
  split
  · next c =>
    unfold InI
    simp only
    rw [after_iff h.l1 (b := ⟨f - p, d, true⟩) c hm, before_iff h.h0 h.h1 (b := ⟨e - p, d, false⟩) c hm]
    have e1 : AbvB ⟨f - p, d, true⟩ n m ↔ f * m ≤ p * m + n * d := by
      unfold AbvB; simp only [Int.sub_mul]; constructor
      · rintro (k | k) <;> omega
      · intro k; by_cases q : f * m - p * m = n * d
        · exact Or.inr ⟨trivial, q⟩
        · exact Or.inl (by omega)
    have e2 : BlwB ⟨e - p, d, false⟩ n m ↔ p * m + n * d < e * m := by
      unfold BlwB; simp only [Int.sub_mul]; constructor
      · rintro (k | k)
        · omega
        · exact absurd k.1 (by simp)
      · intro k; exact Or.inl (by omega)
    rw [e1, e2]; unfold In1
    constructor
    · rintro ⟨⟨a, b⟩, c, d⟩; exact ⟨⟨a, c⟩, b, d⟩
    · rintro ⟨⟨a, b⟩, c, d⟩; exact ⟨⟨a, c⟩, b, d⟩
  · split
    · next c =>
      have hd : 0 < -d := by omega
      unfold InI
      simp only
      rw [after_iff h.l1 (b := ⟨p - e, -d, false⟩) hd hm, before_iff h.h0 h.h1 (b := ⟨p - f, -d, true⟩) hd hm]
      have e1 : AbvB ⟨p - e, -d, false⟩ n m ↔ p * m + n * d < e * m := by
        unfold AbvB; simp only [Int.sub_mul, Int.mul_neg]; constructor
        · rintro (k | k)
          · omega
          · exact absurd k.1 (by simp)
        · intro k; exact Or.inl (by omega)
      have e2 : BlwB ⟨p - f, -d, true⟩ n m ↔ f * m ≤ p * m + n * d := by
        unfold BlwB; simp only [Int.sub_mul, Int.mul_neg]; constructor
        · rintro (k | k) <;> omega
        · intro k; by_cases q : -(n * d) = p * m - f * m
          · exact Or.inr ⟨trivial, q⟩
          · exact Or.inl (by omega)
      rw [e1, e2]; unfold In1
      constructor
      · rintro ⟨⟨a, b⟩, c, d⟩; exact ⟨⟨a, c⟩, d, b⟩
      · rintro ⟨⟨a, b⟩, c, d⟩; exact ⟨⟨a, d⟩, b, c⟩
    · have hd : d = 0 := by omega
      subst hd
      unfold In1
      rw [Int.mul_zero, Int.add_zero]
      have q1 : f * m ≤ p * m ↔ f ≤ p := ⟨fun k => Int.le_of_mul_le_mul_right k hm, fun k => Int.mul_le_mul_of_nonneg_right k (Int.le_of_lt hm)⟩
      have q2 : p * m < e * m ↔ p < e := ⟨fun k => Int.lt_of_mul_lt_mul_right k (Int.le_of_lt hm), fun k => Int.mul_lt_mul_of_pos_right k hm⟩
      rw [q1, q2]
      split
      · next c =>
        unfold InI
        simp only
        rw [before_iff h.h0 h.h1 (b := ⟨0, 1, false⟩) (by decide) hm]
        constructor
        · rintro ⟨a, b, k⟩
          have a := a.le
          have k := k.le
          have hn : 0 ≤ n := by
            have z : 0 * i.lo.d ≤ n * i.lo.d := by rw [Int.zero_mul]; exact Int.le_trans (Int.mul_nonneg h.l0 (Int.le_of_lt hm)) a
            exact Int.le_of_mul_le_mul_right z h.l1
          unfold BlwB at *
          simp only [Int.zero_mul, Int.mul_one] at *
          rename_i k' 
          rcases k' with k' | k'
          · omega
          · exact absurd k'.1 (by simp)
        · rintro ⟨_, a, b⟩; omega
      · next c =>
        exact ⟨fun k => ⟨k, by omega, by omega⟩, fun k => k.1⟩
def someB (i : Iv) : Bool := decide (i.lo.n * i.hi.d < i.hi.n * i.lo.d) || (decide (i.lo.n * i.hi.d = i.hi.n * i.lo.d) && (i.lo.c && i.hi.c))
theorem some_iff {i : Iv} (h : IvOk i) : someB i = true ↔ ∃ n m, 0 < m ∧ InI i n m := by
  unfold someB
  rw [Bool.or_eq_true, Bool.and_eq_true, Bool.and_eq_true, decide_eq_true_iff, decide_eq_true_iff]
  constructor
  · rintro (c | ⟨c, e1, e2⟩)
    · refine ⟨i.lo.n + i.hi.n, i.lo.d + i.hi.d, by have := h.l1; have := h.h0; omega, Or.inl ?_, Or.inl ?_⟩
      · rw [Int.mul_add, Int.add_mul]; omega
      · rw [Int.mul_add, Int.add_mul]; omega
    · exact ⟨i.lo.n, i.lo.d, h.l1, Or.inr ⟨e1, rfl⟩, Or.inr ⟨e2, c⟩⟩
  · rintro ⟨n, m, hm, a, b⟩
    by_cases hd : i.hi.d = 0
    · left; rw [hd, Int.mul_zero]; exact Int.mul_pos (h.h1 hd) h.l1
    · have hd : 0 < i.hi.d := by have := h.h0; omega
      rcases a with a | a
      · exact Or.inl (fr_lt1 hm (Int.le_of_lt h.l1) hd a b.le)
      · rcases b with b | b
        · exact Or.inl (fr_lt2 hm h.l1 (Int.le_of_lt hd) (Int.le_of_eq a.2) b)
        · rcases Int.lt_or_eq_of_le (fr_le hm (Int.le_of_lt h.l1) (Int.le_of_lt hd) (Int.le_of_eq a.2) (Int.le_of_eq b.2)) with q | q
          · exact Or.inl q
          · exact Or.inr ⟨q, a.1, b.1⟩
/-- a point, or a direction, of space. -/
structure V3 where
  x : Int
  y : Int
  z : Int
def nar3 (i : Iv) (p v : V3) (b : Bx) : Iv := nar (nar (nar i p.x v.x b.r.X0 b.r.X1) p.y v.y b.r.Y0 b.r.Y1) p.z v.z b.z0 b.z1
def In3 (p v : V3) (b : Bx) (n m : Int) : Prop := In1 p.x v.x b.r.X0 b.r.X1 n m ∧ In1 p.y v.y b.r.Y0 b.r.Y1 n m ∧ In1 p.z v.z b.z0 b.z1 n m
theorem nar3_ok {i : Iv} (h : IvOk i) (p v : V3) (b : Bx) : IvOk (nar3 i p v b) := nar_ok (nar_ok (nar_ok h _ _ _ _) _ _ _ _) _ _ _ _
theorem nar3_iff {i : Iv} (h : IvOk i) (p v : V3) (b : Bx) {n m : Int} (hm : 0 < m) : InI (nar3 i p v b) n m ↔ InI i n m ∧ In3 p v b n m := by
  unfold nar3 In3
  rw [nar_iff (nar_ok (nar_ok h _ _ _ _) _ _ _ _) _ _ _ _ hm, nar_iff (nar_ok h _ _ _ _) _ _ _ _ hm, nar_iff h _ _ _ _ hm]
  constructor
  · rintro ⟨⟨⟨a, b⟩, c⟩, d⟩; exact ⟨a, b, c, d⟩
  · rintro ⟨a, b, c, d⟩; exact ⟨⟨⟨a, b⟩, c⟩, d⟩
/-- whether some box has a point of the line within the interval. -/
def meetB (i : Iv) (p v : V3) (l : List Bx) : Bool := l.any fun b => someB (nar3 i p v b)
theorem meetB_iff {i : Iv} (h : IvOk i) (p v : V3) (l : List Bx) : meetB i p v l = true ↔ ∃ n m, 0 < m ∧ InI i n m ∧ ∃ b ∈ l, In3 p v b n m := by
  unfold meetB
  rw [List.any_eq_true]
  constructor
  · rintro ⟨b, hb, k⟩
    obtain ⟨n, m, hm, k⟩ := (some_iff (nar3_ok h p v b)).1 k
    obtain ⟨k1, k2⟩ := (nar3_iff h p v b hm).1 k
    exact ⟨n, m, hm, k1, b, hb, k2⟩
  · rintro ⟨n, m, hm, k1, b, hb, k2⟩
    exact ⟨b, hb, (some_iff (nar3_ok h p v b)).2 ⟨n, m, hm, (nar3_iff h p v b hm).2 ⟨k1, k2⟩⟩⟩
/-! ### cubes on a line -/
/-- the cube of the point p + (n / m) * v. -/
def HitAt (P : Int → Int → Int → Prop) (p v : V3) (n m : Int) : Prop := P ((p.x * m + n * v.x) / m) ((p.y * m + n * v.y) / m) ((p.z * m + n * v.z) / m)
theorem in1_iff {p d f e n m : Int} (hm : 0 < m) : In1 p d f e n m ↔ f ≤ (p * m + n * d) / m ∧ (p * m + n * d) / m < e := by
  unfold In1
  rw [Int.le_ediv_iff_mul_le hm, Int.ediv_lt_iff_lt_mul hm]
theorem in3_has {l : List Bx} (hl : ∀ b ∈ l, BOk b) (p v : V3) {n m : Int} (hm : 0 < m) : (∃ b ∈ l, In3 p v b n m) ↔ HitAt (HasB l) p v n m := by
  unfold HitAt HasB In3 HasR
  constructor
  · rintro ⟨b, hb, k1, k2, k3⟩
    rw [in1_iff hm] at k1 k2 k3
    exact ⟨b, hb, ⟨(hl b hb).1, k1.1, k1.2, k2.1, k2.2⟩, k3.1, k3.2⟩
  · rintro ⟨b, hb, ⟨_, a, b', c, d⟩, e, f⟩
    refine ⟨b, hb, ?_⟩
    rw [in1_iff hm, in1_iff hm, in1_iff hm]
    exact ⟨⟨a, b'⟩, ⟨c, d⟩, e, f⟩
def iSeg : Iv := ⟨⟨0, 1, false⟩, ⟨1, 1, false⟩⟩
def iRay : Iv := ⟨⟨0, 1, false⟩, ⟨1, 0, false⟩⟩
def iTop (k : Int) : Iv := ⟨⟨0, 1, false⟩, ⟨k, 1, false⟩⟩
theorem iSeg_ok : IvOk iSeg := ⟨by decide, by decide, by decide, by decide⟩
theorem iRay_ok : IvOk iRay := ⟨by decide, by decide, by decide, by decide⟩
theorem iTop_ok (k : Int) : IvOk (iTop k) := ⟨by simp [iTop], by simp [iTop], by simp [iTop], by simp [iTop]⟩
theorem iSeg_in : IvIn iSeg := ⟨by unfold BdIn; decide, by unfold BdIn; decide⟩
theorem iRay_in : IvIn iRay := ⟨by unfold BdIn; decide, by unfold BdIn; decide⟩
theorem iTop_iff (k n m : Int) : InI (iTop k) n m ↔ 0 < n ∧ n < k * m := by
  unfold InI iTop AbvB BlwB; simp
theorem iSeg_iff (n m : Int) : InI iSeg n m ↔ 0 < n ∧ n < m := by
  unfold InI iSeg AbvB BlwB; simp
theorem iRay_iff (n m : Int) (hm : 0 < m) : InI iRay n m ↔ 0 < n := by
  unfold InI iRay AbvB BlwB; simp; omega
def Seg (P : Int → Int → Int → Prop) (p v : V3) : Prop := ∃ n m, 0 < m ∧ (0 < n ∧ n < m) ∧ HitAt P p v n m
def RayP (P : Int → Int → Int → Prop) (p v : V3) : Prop := ∃ n m, 0 < m ∧ 0 < n ∧ HitAt P p v n m
theorem seg_iff {l : List Bx} (hl : ∀ b ∈ l, BOk b) (p v : V3) : meetB iSeg p v l = true ↔ Seg (HasB l) p v := by
  rw [meetB_iff iSeg_ok]
  constructor
  · rintro ⟨n, m, hm, k, q⟩; exact ⟨n, m, hm, (iSeg_iff n m).1 k, (in3_has hl p v hm).1 q⟩
  · rintro ⟨n, m, hm, k, q⟩; exact ⟨n, m, hm, (iSeg_iff n m).2 k, (in3_has hl p v hm).2 q⟩
theorem ray_iff {l : List Bx} (hl : ∀ b ∈ l, BOk b) (p v : V3) : meetB iRay p v l = true ↔ RayP (HasB l) p v := by
  rw [meetB_iff iRay_ok]
  constructor
  · rintro ⟨n, m, hm, k, q⟩; exact ⟨n, m, hm, (iRay_iff n m hm).1 k, (in3_has hl p v hm).1 q⟩
  · rintro ⟨n, m, hm, k, q⟩; exact ⟨n, m, hm, (iRay_iff n m hm).2 k, (in3_has hl p v hm).2 q⟩
theorem HitAt.congr {P Q : Int → Int → Int → Prop} (h : ∀ x y z, P x y z ↔ Q x y z) (p v : V3) (n m : Int) : HitAt P p v n m ↔ HitAt Q p v n m := h _ _ _
theorem Seg.congr {P Q : Int → Int → Int → Prop} (h : ∀ x y z, P x y z ↔ Q x y z) (p v : V3) : Seg P p v ↔ Seg Q p v := by
  unfold Seg; simp only [HitAt.congr h]
theorem RayP.congr {P Q : Int → Int → Int → Prop} (h : ∀ x y z, P x y z ↔ Q x y z) (p v : V3) : RayP P p v ↔ RayP Q p v := by
  unfold RayP; simp only [HitAt.congr h]
end Go.Proofs.Ytkjblmfmaenllaa
namespace Go.Proofs.Ytkjblmfmaenllaa

theorem fl_eq {A B m k : Int} (hm : 0 < m) (hk : 0 < k) (h : A * k = B * m) : A / m = B / k := by
  rw [← Int.mul_ediv_mul_of_pos_left A m hk, h, Int.mul_comm m k, Int.mul_ediv_mul_of_pos_left B k hm]
theorem HitAt.same {P : Int → Int → Int → Prop} {p v q u : V3} {n m k j : Int} (hm : 0 < m) (hj : 0 < j)
    (hx : (p.x * m + n * v.x) * j = (q.x * j + k * u.x) * m) (hy : (p.y * m + n * v.y) * j = (q.y * j + k * u.y) * m) (hz : (p.z * m + n * v.z) * j = (q.z * j + k * u.z) * m) : HitAt P p v n m ↔ HitAt P q u k j := by
  unfold HitAt
  rw [fl_eq hm hj hx, fl_eq hm hj hy, fl_eq hm hj hz]
def V3.add (p q : V3) : V3 := ⟨p.x + q.x, p.y + q.y, p.z + q.z⟩
def V3.sub (q p : V3) : V3 := ⟨q.x - p.x, q.y - p.y, q.z - p.z⟩
def V3.mul (k : Int) (p : V3) : V3 := ⟨k * p.x, k * p.y, k * p.z⟩
theorem seg_or {P Q : Int → Int → Int → Prop} (p v : V3) : Seg (fun x y z => P x y z ∨ Q x y z) p v ↔ Seg P p v ∨ Seg Q p v := by
  constructor
  · rintro ⟨n, m, hm, k, h | h⟩
    · exact Or.inl ⟨n, m, hm, k, h⟩
    · exact Or.inr ⟨n, m, hm, k, h⟩
  · rintro (⟨n, m, hm, k, h⟩ | ⟨n, m, hm, k, h⟩)
    · exact ⟨n, m, hm, k, Or.inl h⟩
    · exact ⟨n, m, hm, k, Or.inr h⟩
theorem ray_or {P Q : Int → Int → Int → Prop} (p v : V3) : RayP (fun x y z => P x y z ∨ Q x y z) p v ↔ RayP P p v ∨ RayP Q p v := by
  constructor
  · rintro ⟨n, m, hm, k, h | h⟩
    · exact Or.inl ⟨n, m, hm, k, h⟩
    · exact Or.inr ⟨n, m, hm, k, h⟩
  · rintro (⟨n, m, hm, k, h⟩ | ⟨n, m, hm, k, h⟩)
    · exact ⟨n, m, hm, k, Or.inl h⟩
    · exact ⟨n, m, hm, k, Or.inr h⟩
theorem seg_back1 {P : Int → Int → Int → Prop} {p q : V3} (h : Seg P p (q.sub p)) : Seg P q (p.sub q) := by
  obtain ⟨n, m, hm, k, h⟩ := h
  refine ⟨m - n, m, hm, by omega, (HitAt.same hm hm ?_ ?_ ?_).1 h⟩ <;> (simp only [V3.sub]; grind)
theorem seg_back {P : Int → Int → Int → Prop} (p q : V3) : Seg P p (q.sub p) ↔ Seg P q (p.sub q) := ⟨seg_back1, seg_back1⟩
/-! ### steps -/
theorem seg_split {P : Int → Int → Int → Prop} (p s : V3) {N k : Int} (h0 : 1 ≤ k) (h1 : k < N) :
    Seg P p (s.mul N) ↔ Seg P p (s.mul k) ∨ Seg P (p.add (s.mul k)) (s.mul (N - k)) ∨ P (p.x + k * s.x) (p.y + k * s.y) (p.z + k * s.z) := by
  have hN : 0 < N := by omega
  have hk : 0 < k := by omega
  have hr : 0 < N - k := by omega
  constructor
  · rintro ⟨n, m, hm, ⟨n0, n1⟩, h⟩
    rcases Int.lt_trichotomy (n * N) (k * m) with c | c | c
    · left
      have hj : 0 < k * m := Int.mul_pos hk hm
      refine ⟨n * N, k * m, hj, ⟨Int.mul_pos n0 hN, c⟩, (HitAt.same hm hj ?_ ?_ ?_).1 h⟩ <;> (simp only [V3.mul]; grind)
    · right; right
      unfold HitAt at h
      simp only [V3.mul] at h
      have e : ∀ a b : Int, (a * m + n * (N * b)) / m = a + k * b := fun a b => by
        rw [show a * m + n * (N * b) = (a + k * b) * m by grind, Int.mul_ediv_cancel _ (by omega)]
      rw [e, e, e] at h
      exact h
    · right; left
      have hj : 0 < (N - k) * m := Int.mul_pos hr hm
      have c2 : n * N < m * N := Int.mul_lt_mul_of_pos_right n1 hN
      refine ⟨n * N - k * m, (N - k) * m, hj, ⟨by omega, ?_⟩, (HitAt.same hm hj ?_ ?_ ?_).1 h⟩
      · rw [Int.sub_mul, Int.mul_comm N m]; omega
      all_goals (simp only [V3.mul, V3.add]; grind)
  · rintro (⟨n, m, hm, ⟨n0, n1⟩, h⟩ | ⟨n, m, hm, ⟨n0, n1⟩, h⟩ | h)
    · have hj : 0 < m * N := Int.mul_pos hm hN
      refine ⟨n * k, m * N, hj, ⟨Int.mul_pos n0 hk, ?_⟩, (HitAt.same hm hj ?_ ?_ ?_).1 h⟩
      · exact Int.lt_of_lt_of_le (Int.mul_lt_mul_of_pos_right n1 hk) (Int.mul_le_mul_of_nonneg_left (by omega) (by omega))
      all_goals (simp only [V3.mul]; grind)
    · have hj : 0 < m * N := Int.mul_pos hm hN
      have c2 : n * (N - k) < m * (N - k) := Int.mul_lt_mul_of_pos_right n1 hr
      have c3 : 0 < n * (N - k) := Int.mul_pos n0 hr
      have c4 : 0 < k * m := Int.mul_pos hk hm
      refine ⟨k * m + n * (N - k), m * N, hj, ⟨by omega, ?_⟩, (HitAt.same hm hj ?_ ?_ ?_).1 h⟩
      · have : m * N = m * (N - k) + k * m := by grind
        omega
      all_goals (simp only [V3.mul, V3.add]; grind)
    · refine ⟨k, N, hN, ⟨by omega, by omega⟩, ?_⟩
      unfold HitAt
      simp only [V3.mul]
      have e : ∀ a b : Int, (a * N + k * (N * b)) / N = a + k * b := fun a b => by
        rw [show a * N + k * (N * b) = (a + k * b) * N by grind, Int.mul_ediv_cancel _ (by omega)]
      rw [e, e, e]
      exact h
/-! ### rays -/
theorem ray_mul {P : Int → Int → Int → Prop} (p d : V3) {k : Int} (hk : 1 ≤ k) : RayP P p (d.mul k) ↔ RayP P p d := by
  have hk : 0 < k := by omega
  constructor
  · rintro ⟨n, m, hm, n0, h⟩
    exact ⟨n * k, m, hm, Int.mul_pos n0 hk, (HitAt.same hm hm (by simp only [V3.mul]; grind) (by simp only [V3.mul]; grind) (by simp only [V3.mul]; grind)).1 h⟩
  · rintro ⟨n, m, hm, n0, h⟩
    have hj : 0 < m * k := Int.mul_pos hm hk
    exact ⟨n, m * k, hj, n0, (HitAt.same hm hj (by simp only [V3.mul]; grind) (by simp only [V3.mul]; grind) (by simp only [V3.mul]; grind)).1 h⟩
theorem ray_seg {P : Int → Int → Int → Prop} (p d : V3) {k : Int} (hk : 1 ≤ k) (h : Seg P p (d.mul k)) : RayP P p d := by
  obtain ⟨n, m, hm, q, h⟩ := h
  exact (ray_mul p d hk).1 ⟨n, m, hm, q.1, h⟩
theorem ray_end {P : Int → Int → Int → Prop} (p d : V3) {k : Int} (hk : 1 ≤ k) (h : P (p.x + k * d.x) (p.y + k * d.y) (p.z + k * d.z)) : RayP P p d := by
  refine ⟨k, 1, by decide, by omega, ?_⟩
  unfold HitAt
  rw [Int.mul_one, Int.mul_one, Int.mul_one, Int.ediv_one, Int.ediv_one, Int.ediv_one]
  exact h
/-! ### moves -/
theorem hit_move {P Q : Int → Int → Int → Prop} (b : V3) (h : ∀ x y z, Q (x + b.x) (y + b.y) (z + b.z) ↔ P x y z) (p v : V3) {n m : Int} (hm : 0 < m) : HitAt Q (p.add b) v n m ↔ HitAt P p v n m := by
  unfold HitAt
  have e : ∀ a c d : Int, ((a + c) * m + n * d) / m = (a * m + n * d) / m + c := fun a c d => by
    rw [show (a + c) * m + n * d = (a * m + n * d) + c * m by grind, Int.add_mul_ediv_right _ _ (by omega)]
  simp only [V3.add, e]
  exact h _ _ _
theorem seg_move {P Q : Int → Int → Int → Prop} (b : V3) (h : ∀ x y z, Q (x + b.x) (y + b.y) (z + b.z) ↔ P x y z) (p v : V3) : Seg Q (p.add b) v ↔ Seg P p v := by
  constructor
  · rintro ⟨n, m, hm, k, q⟩; exact ⟨n, m, hm, k, (hit_move b h p v hm).1 q⟩
  · rintro ⟨n, m, hm, k, q⟩; exact ⟨n, m, hm, k, (hit_move b h p v hm).2 q⟩
theorem ray_move {P Q : Int → Int → Int → Prop} (b : V3) (h : ∀ x y z, Q (x + b.x) (y + b.y) (z + b.z) ↔ P x y z) (p v : V3) : RayP Q (p.add b) v ↔ RayP P p v := by
  constructor
  · rintro ⟨n, m, hm, k, q⟩; exact ⟨n, m, hm, k, (hit_move b h p v hm).1 q⟩
  · rintro ⟨n, m, hm, k, q⟩; exact ⟨n, m, hm, k, (hit_move b h p v hm).2 q⟩
/-! ### samples -/
def ptN (n : Int) : Int := if n < 0 then -n else max n 1
theorem ptN_pos (n : Int) : 0 < ptN n := by unfold ptN; split <;> omega
theorem ediv_at {a b q : Int} (hb : 0 < b) (h0 : q * b ≤ a) (h1 : a < (q + 1) * b) : a / b = q := by
  have e1 := (Int.le_ediv_iff_mul_le hb).2 h0
  have e2 := (Int.ediv_lt_iff_lt_mul hb).2 h1
  omega
/-- between two multiples of 1 / H the cube of a coordinate stays. -/
theorem samp_one (v : Int) {c H n m j : Int} (hc : 0 < c) (hH : H = ptN v * c) (hm : 0 < m) (h0 : j * m < n * H) (h1 : n * H < (j + 1) * m) (p : Int) :
    (p * m + n * v) / m = (p * (2 * H) + (2 * j + 1) * v) / (2 * H) := by
  have hHp : 0 < H := by rw [hH]; exact Int.mul_pos (ptN_pos v) hc
  have hg0 : j / c * c ≤ j := Int.ediv_mul_le j (by omega)
  have hg1 : j < (j / c + 1) * c := Int.lt_ediv_add_one_mul_self j hc
  generalize j / c = g at *
  rw [show p * m + n * v = n * v + p * m by omega, show p * (2 * H) + (2 * j + 1) * v = (2 * j + 1) * v + p * (2 * H) by omega, Int.add_mul_ediv_right _ _ (by omega), Int.add_mul_ediv_right _ _ (by omega)]
  congr 1
  rcases Int.lt_trichotomy v 0 with k | k | k
  · obtain ⟨u, rfl⟩ : ∃ u, v = -u := ⟨-v, by omega⟩
    have hu : 0 < u := by omega
    have e : ptN (-u) = u := by unfold ptN; rw [if_pos k]; omega
    rw [e] at hH
    subst hH
    have a1 : n * u < (g + 1) * m := by
      refine Int.lt_of_mul_lt_mul_right (a := c) ?_ (by omega)
      have : (j + 1) * m ≤ ((g + 1) * c) * m := Int.mul_le_mul_of_nonneg_right (by omega) (by omega)
      have e2 : n * u * c = n * (u * c) := Int.mul_assoc _ _ _
      have e3 : (g + 1) * m * c = (g + 1) * c * m := fr_mid
      omega
    have a2 : g * m < n * u := by
      refine Int.lt_of_mul_lt_mul_right (a := c) ?_ (by omega)
      have : (g * c) * m ≤ j * m := Int.mul_le_mul_of_nonneg_right hg0 (by omega)
      have e2 : n * u * c = n * (u * c) := Int.mul_assoc _ _ _
      have e3 : g * m * c = g * c * m := fr_mid
      omega
    rw [ediv_at (q := -(g + 1)) hm, ediv_at (q := -(g + 1)) (by omega)]
    · have : (2 * j + 1) * u ≤ (2 * ((g + 1) * c)) * u := Int.mul_le_mul_of_nonneg_right (by omega) (by omega)
      have e2 : (2 * ((g + 1) * c)) * u = (g + 1) * (2 * (u * c)) := by grind
      rw [Int.neg_mul, Int.mul_neg]; omega
    · have : (2 * (g * c)) * u < (2 * j + 1) * u := Int.mul_lt_mul_of_pos_right (by omega) hu
      have e2 : (2 * (g * c)) * u = g * (2 * (u * c)) := by grind
      rw [show -(g + 1) + 1 = -g by omega, Int.neg_mul, Int.mul_neg]; omega
    · rw [Int.neg_mul, Int.mul_neg]; omega
    · rw [show -(g + 1) + 1 = -g by omega, Int.neg_mul, Int.mul_neg]; omega
  · subst k
    rw [Int.mul_zero, Int.mul_zero, Int.zero_ediv, Int.zero_ediv]
  · have e : ptN v = v := by unfold ptN; rw [if_neg (by omega)]; omega
    rw [e] at hH
    subst hH
    have a1 : n * v < (g + 1) * m := by
      refine Int.lt_of_mul_lt_mul_right (a := c) ?_ (by omega)
      have : (j + 1) * m ≤ ((g + 1) * c) * m := Int.mul_le_mul_of_nonneg_right (by omega) (by omega)
      have e2 : n * v * c = n * (v * c) := Int.mul_assoc _ _ _
      have e3 : (g + 1) * m * c = (g + 1) * c * m := fr_mid
      omega
    have a2 : g * m < n * v := by
      refine Int.lt_of_mul_lt_mul_right (a := c) ?_ (by omega)
      have : (g * c) * m ≤ j * m := Int.mul_le_mul_of_nonneg_right hg0 (by omega)
      have e2 : n * v * c = n * (v * c) := Int.mul_assoc _ _ _
      have e3 : g * m * c = g * c * m := fr_mid
      omega
    rw [ediv_at (q := g) hm (by omega) a1, ediv_at (q := g) (by omega)]
    · have : (2 * (g * c)) * v ≤ (2 * j + 1) * v := Int.mul_le_mul_of_nonneg_right (by omega) (by omega)
      have e2 : (2 * (g * c)) * v = g * (2 * (v * c)) := by grind
      omega
    · have : (2 * j + 1) * v < (2 * ((g + 1) * c)) * v := Int.mul_lt_mul_of_pos_right (by omega) k
      have e2 : (2 * ((g + 1) * c)) * v = (g + 1) * (2 * (v * c)) := by grind
      omega
def sampN (v : V3) : Int := 2 * ptN v.x * ptN v.y * ptN v.z
theorem seg_samples {P : Int → Int → Int → Prop} (p v : V3) : Seg P p v ↔ ∃ k, 1 ≤ k ∧ k < sampN v ∧ HitAt P p v k (sampN v) := by
  have px := ptN_pos v.x
  have py := ptN_pos v.y
  have pz := ptN_pos v.z
  have hH : 0 < ptN v.x * ptN v.y * ptN v.z := Int.mul_pos (Int.mul_pos px py) pz
  have eN : sampN v = 2 * (ptN v.x * ptN v.y * ptN v.z) := by unfold sampN; rw [Int.mul_assoc, Int.mul_assoc, Int.mul_assoc]
  have hx : ptN v.x * ptN v.y * ptN v.z = ptN v.x * (ptN v.y * ptN v.z) := Int.mul_assoc _ _ _
  have hy : ptN v.x * ptN v.y * ptN v.z = ptN v.y * (ptN v.x * ptN v.z) := by grind
  have hz : ptN v.x * ptN v.y * ptN v.z = ptN v.z * (ptN v.x * ptN v.y) := by grind
  rw [eN]
  have cx : 0 < ptN v.y * ptN v.z := Int.mul_pos py pz
  have cy : 0 < ptN v.x * ptN v.z := Int.mul_pos px pz
  have cz : 0 < ptN v.x * ptN v.y := Int.mul_pos px py
  generalize ptN v.x * ptN v.y * ptN v.z = H at *
  constructor
  · rintro ⟨n, m, hm, ⟨n0, n1⟩, h⟩
    have q0 : 0 < n * H := Int.mul_pos n0 hH
    have q1 : n * H < m * H := Int.mul_lt_mul_of_pos_right n1 hH
    have g0 : n * H / m * m ≤ n * H := Int.ediv_mul_le _ (by omega)
    have g1 : n * H < (n * H / m + 1) * m := Int.lt_ediv_add_one_mul_self _ hm
    have g2 : 0 ≤ n * H / m := Int.ediv_nonneg (by omega) (by omega)
    have g3 : n * H / m < H := (Int.ediv_lt_iff_lt_mul hm).2 (by rw [Int.mul_comm H m]; exact q1)
    generalize n * H / m = j at *
    by_cases c : j * m = n * H
    · have hj : 0 < j := by
        rcases Int.lt_or_eq_of_le g2 with k | k
        · exact k
        · rw [← k, Int.zero_mul] at c; omega
      refine ⟨2 * j, by omega, by omega, (HitAt.same hm (by omega) ?_ ?_ ?_).1 h⟩ <;> grind
    · have c0 : j * m < n * H := by omega
      refine ⟨2 * j + 1, by omega, by omega, ?_⟩
      unfold HitAt at h ⊢
      rw [← samp_one v.x cx hx hm c0 g1, ← samp_one v.y cy hy hm c0 g1, ← samp_one v.z cz hz hm c0 g1]
      exact h
  · rintro ⟨k, h0, h1, h⟩
    exact ⟨k, 2 * H, by omega, ⟨by omega, h1⟩, h⟩
/-! ### a ray has left the grid behind t = 2^21 -/
theorem ray_far {l : List Bx} (hl : ∀ b ∈ l, BOk b) (p d : V3) (hp : (0 ≤ p.x ∧ p.x ≤ 1048576) ∧ (0 ≤ p.y ∧ p.y ≤ 1048576) ∧ (0 ≤ p.z ∧ p.z ≤ 4096)) (hd : d.x ≠ 0 ∨ d.y ≠ 0 ∨ d.z ≠ 0) {n m : Int} (hm : 0 < m) (h : HitAt (HasB l) p d n m) (hn : 0 < n) : n < 2097152 * m := by
  obtain ⟨b, hb, k⟩ := (in3_has hl p d hm).2 h
  have hbk := hl b hb
  have key : ∀ (a v f e : Int), 0 ≤ a → a ≤ 1048576 → 0 ≤ f → e ≤ 1048576 → v ≠ 0 → In1 a v f e n m → n < 2097152 * m := by
    intro a v f e a0 a1 f0 e1 hv ⟨k0, k1⟩
    have m0 : 0 ≤ f * m := Int.mul_nonneg f0 (by omega)
    have m1 : e * m ≤ 1048576 * m := Int.mul_le_mul_of_nonneg_right e1 (by omega)
    have m2 : a * m ≤ 1048576 * m := Int.mul_le_mul_of_nonneg_right a1 (by omega)
    have m3 : 0 ≤ a * m := Int.mul_nonneg a0 (by omega)
    rcases Int.lt_or_lt_of_ne hv with c | c
    · have : n * 1 ≤ n * (-v) := Int.mul_le_mul_of_nonneg_left (by omega) (by omega)
      rw [Int.mul_neg] at this
      omega
    · have : n * 1 ≤ n * v := Int.mul_le_mul_of_nonneg_left (by omega) (by omega)
      omega
  obtain ⟨⟨⟨x0, x1, x2⟩, y0, y1, y2⟩, z0, z1, z2⟩ := hbk
  rcases hd with hd | hd | hd
  · exact key _ _ _ _ hp.1.1 hp.1.2 x0 x2 hd k.1
  · exact key _ _ _ _ hp.2.1.1 hp.2.1.2 y0 y2 hd k.2.1
  · exact key _ _ _ _ hp.2.2.1 (by omega) z0 (by omega) hd k.2.2
theorem ray_top {l : List Bx} (hl : ∀ b ∈ l, BOk b) (p d : V3) (hp : (0 ≤ p.x ∧ p.x ≤ 1048576) ∧ (0 ≤ p.y ∧ p.y ≤ 1048576) ∧ (0 ≤ p.z ∧ p.z ≤ 4096)) (hd : d.x ≠ 0 ∨ d.y ≠ 0 ∨ d.z ≠ 0) : meetB (iTop 2097152) p d l = meetB iRay p d l := by
  rw [Bool.eq_iff_iff, ray_iff hl, meetB_iff (iTop_ok _)]
  constructor
  · rintro ⟨n, m, hm, k, q⟩; exact ⟨n, m, hm, ((iTop_iff _ n m).1 k).1, (in3_has hl p d hm).1 q⟩
  · rintro ⟨n, m, hm, k, q⟩; exact ⟨n, m, hm, (iTop_iff _ n m).2 ⟨k, ray_far hl p d hp hd hm q k⟩, (in3_has hl p d hm).2 q⟩
end Go.Proofs.Ytkjblmfmaenllaa
namespace Go.Proofs.Ytkjblmfmaenllaa

/-- of two lower bounds, with marks for open ones, the higher one; of two upper bounds the lower one. -/
def hiB (a b : Bd) : Bd := if a.n * b.d < b.n * a.d ∨ (¬ b.n * a.d < a.n * b.d ∧ b.c = true) then b else a
def loB (a b : Bd) : Bd := if b.n * a.d < a.n * b.d ∨ (¬ a.n * b.d < b.n * a.d ∧ b.c = true) then b else a
def nb (b : Bd) : Bd := ⟨b.n, b.d, !b.c⟩
theorem nb_hi (a b : Bd) : nb (hiB a b) = afterB (nb a) (nb b) := by
  unfold hiB afterB
  by_cases c : a.n * b.d < b.n * a.d ∨ (¬ b.n * a.d < a.n * b.d ∧ b.c = true)
  · rw [if_pos c, if_pos]
    rcases c with c | ⟨c, e⟩
    · exact Or.inl c
    · by_cases k : a.n * b.d < b.n * a.d
      · exact Or.inl k
      · refine Or.inr ⟨?_, by simp [nb, e]⟩
        simp only [nb]; omega
  · rw [if_neg c, if_neg]
    rintro (k | ⟨k, e⟩)
    · exact c (Or.inl k)
    · simp only [nb] at k e
      refine c (Or.inr ⟨by omega, by simpa using e⟩)
theorem nb_lo (a b : Bd) : nb (loB a b) = beforeB (nb a) (nb b) := by
  unfold loB beforeB
  by_cases c : b.n * a.d < a.n * b.d ∨ (¬ a.n * b.d < b.n * a.d ∧ b.c = true)
  · rw [if_pos c, if_pos]
    rcases c with c | ⟨c, e⟩
    · exact Or.inl c
    · by_cases k : b.n * a.d < a.n * b.d
      · exact Or.inl k
      · refine Or.inr ⟨?_, by simp [nb, e]⟩
        simp only [nb]; omega
  · rw [if_neg c, if_neg]
    rintro (k | ⟨k, e⟩)
    · exact c (Or.inl k)
    · simp only [nb] at k e
      refine c (Or.inr ⟨by omega, by simpa using e⟩)
structure Pr where
  lo : Bd
  hi : Bd
  no : Bool
def ivR (x : Pr) : Iv := ⟨nb x.lo, nb x.hi⟩
def narR (x : Pr) (p d f e : Int) : Pr :=
  if 0 < d then ⟨hiB x.lo ⟨f - p, d, false⟩, loB x.hi ⟨e - p, d, true⟩, x.no⟩
  else if d < 0 then ⟨hiB x.lo ⟨p - e, -d, true⟩, loB x.hi ⟨p - f, -d, false⟩, x.no⟩
  else ⟨x.lo, x.hi, x.no || (decide (p < f) || decide (e ≤ p))⟩
def InR11 (x : Pr) (n m : Int) : Prop := x.no = false ∧ InI (ivR x) n m
theorem narR_ok {x : Pr} (h : IvOk (ivR x)) (p d f e : Int) : IvOk (ivR (narR x p d f e)) := by
  have k := nar_ok h p d f e
  unfold narR
  by_cases c : 0 < d
  · rw [if_pos c]
    unfold nar at k; rw [if_pos c] at k
    unfold ivR; simp only [nb_hi, nb_lo]; exact k
  · rw [if_neg c]
    by_cases c2 : d < 0
    · rw [if_pos c2]
      unfold nar at k; rw [if_neg c, if_pos c2] at k
      unfold ivR; simp only [nb_hi, nb_lo]; exact k
    · rw [if_neg c2]; exact h
theorem narR_iff {x : Pr} (h : IvOk (ivR x)) (p d f e : Int) {n m : Int} (hm : 0 < m) : InR11 (narR x p d f e) n m ↔ InR11 x n m ∧ In1 p d f e n m := by
  have k := nar_iff h p d f e (n := n) hm
  unfold narR
  by_cases c : 0 < d
  · rw [if_pos c]
    unfold nar at k; rw [if_pos c] at k
    have e1 : ivR ⟨hiB x.lo ⟨f - p, d, false⟩, loB x.hi ⟨e - p, d, true⟩, x.no⟩ = ⟨afterB (ivR x).lo ⟨f - p, d, true⟩, beforeB (ivR x).hi ⟨e - p, d, false⟩⟩ := by unfold ivR; simp only [nb_hi, nb_lo]; rfl
    unfold InR11
    rw [e1, k]
    exact ⟨fun h => ⟨⟨h.1, h.2.1⟩, h.2.2⟩, fun h => ⟨h.1.1, h.1.2, h.2⟩⟩
  · rw [if_neg c]
    by_cases c2 : d < 0
    · rw [if_pos c2]
      unfold nar at k; rw [if_neg c, if_pos c2] at k
      have e1 : ivR ⟨hiB x.lo ⟨p - e, -d, true⟩, loB x.hi ⟨p - f, -d, false⟩, x.no⟩ = ⟨afterB (ivR x).lo ⟨p - e, -d, false⟩, beforeB (ivR x).hi ⟨p - f, -d, true⟩⟩ := by unfold ivR; simp only [nb_hi, nb_lo]; rfl
      unfold InR11
      rw [e1, k]
      exact ⟨fun h => ⟨⟨h.1, h.2.1⟩, h.2.2⟩, fun h => ⟨h.1.1, h.1.2, h.2⟩⟩
    · rw [if_neg c2]
      have hd : d = 0 := by omega
      subst hd
      unfold InR11 In1
      have q1 : f * m ≤ p * m ↔ f ≤ p := ⟨fun k => Int.le_of_mul_le_mul_right k hm, fun k => Int.mul_le_mul_of_nonneg_right k (Int.le_of_lt hm)⟩
      have q2 : p * m < e * m ↔ p < e := ⟨fun k => Int.lt_of_mul_lt_mul_right k (Int.le_of_lt hm), fun k => Int.mul_lt_mul_of_pos_right k hm⟩
      rw [Int.mul_zero, Int.add_zero, q1, q2]
      simp only [Bool.or_eq_false_iff, decide_eq_false_iff_not]
      have e1 : ivR ⟨x.lo, x.hi, x.no || (decide (p < f) || decide (e ≤ p))⟩ = ivR x := rfl
      rw [e1]
      constructor
      · rintro ⟨⟨a, b, c⟩, h⟩; exact ⟨⟨a, h⟩, by omega, by omega⟩
      · rintro ⟨⟨a, h⟩, b, c⟩; exact ⟨⟨a, by omega, by omega⟩, h⟩
def lessB (a b : Bd) : Bool := decide (a.n * b.d < b.n * a.d)
def okR (x : Pr) : Bool := !x.no && (lessB x.lo x.hi || (!lessB x.lo x.hi && (!lessB x.hi x.lo && (!x.lo.c && !x.hi.c))))
theorem okR_iff (x : Pr) : okR x = true ↔ x.no = false ∧ someB (ivR x) = true := by
  unfold okR someB lessB ivR nb
  simp only [Bool.and_eq_true, Bool.or_eq_true, Bool.not_eq_true', decide_eq_true_eq, decide_eq_false_iff_not]
  constructor
  · rintro ⟨a, b | ⟨b, c, d, e⟩⟩
    · exact ⟨a, Or.inl b⟩
    · exact ⟨a, Or.inr ⟨by omega, d, e⟩⟩
  · rintro ⟨a, b | ⟨b, d, e⟩⟩
    · exact ⟨a, Or.inl b⟩
    · exact ⟨a, Or.inr ⟨by omega, by omega, d, e⟩⟩
def narR3 (x : Pr) (p v : V3) (b : Bx) : Pr := narR (narR (narR x p.x v.x b.r.X0 b.r.X1) p.y v.y b.r.Y0 b.r.Y1) p.z v.z b.z0 b.z1
theorem okR_eq {x : Pr} (h : IvOk (ivR x)) (hn : x.no = false) (p v : V3) (b : Bx) : okR (narR3 x p v b) = someB (nar3 (ivR x) p v b) := by
  have h1 := narR_ok h p.x v.x b.r.X0 b.r.X1
  have h2 := narR_ok h1 p.y v.y b.r.Y0 b.r.Y1
  have h3 : IvOk (ivR (narR3 x p v b)) := narR_ok h2 p.z v.z b.z0 b.z1
  rw [Bool.eq_iff_iff, okR_iff, some_iff h3, some_iff (nar3_ok h p v b)]
  have key : ∀ n m : Int, 0 < m → (InR11 (narR3 x p v b) n m ↔ InI (nar3 (ivR x) p v b) n m) := by
    intro n m hm
    rw [nar3_iff h p v b hm]
    unfold narR3
    rw [narR_iff h2 _ _ _ _ hm, narR_iff h1 _ _ _ _ hm, narR_iff h _ _ _ _ hm]
    unfold InR11 In3
    constructor
    · rintro ⟨⟨⟨⟨_, a⟩, b⟩, c⟩, d⟩; exact ⟨a, b, c, d⟩
    · rintro ⟨a, b, c, d⟩; exact ⟨⟨⟨⟨hn, a⟩, b⟩, c⟩, d⟩
  constructor
  · rintro ⟨a, n, m, hm, k⟩; exact ⟨n, m, hm, (key n m hm).1 ⟨a, k⟩⟩
  · rintro ⟨n, m, hm, k⟩; exact ⟨((key n m hm).2 k).1, n, m, hm, ((key n m hm).2 k).2⟩
def prI (k : Int) : Pr := ⟨⟨0, 1, true⟩, ⟨k, 1, true⟩, false⟩
def meetQ (x : Pr) (p v : V3) (l : List Bx) : Bool := l.any fun b => okR (narR3 x p v b)
theorem meetQ_eq (k : Int) (p v : V3) (l : List Bx) : meetQ (prI k) p v l = meetB (iTop k) p v l := by
  have h : IvOk (ivR (prI k)) := iTop_ok k
  unfold meetQ meetB
  congr 1
  funext b
  exact okR_eq h rfl p v b
end Go.Proofs.Ytkjblmfmaenllaa
