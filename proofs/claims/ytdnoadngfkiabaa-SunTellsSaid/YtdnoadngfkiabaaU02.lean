/-
  Plain mathematics of solids (layer 9), 2: boxes, the solid of a list of boxes, the operations, sets of cubes, the volume. No program in this text.
  Plain mathematics of sight (layer 11), 1: bounds and intervals of fractions, the coordinates of a point on a line, and what is hit. No program in this text.
  Plain mathematics of sight (layer 11), 2: unions, the way back, steps, multiples, moves, samples. No program in this text.
  Plain mathematics of sight (layer 11), 4: the reference's way: open bounds, and a mark for nothing. No program in this text.
-/
import Derived.Test.YtdnoadngfkiabaaU00
import Derived.Test.YtdnoadngfkiabaaU01
set_option linter.unusedVariables false
namespace Go.Proofs.Ytdnoadngfkiabaa

/-- a box: base and heights. -/
structure Bx where
  r : Rc
  z0 : Int
  z1 : Int
def BOk (b : Bx) : Prop := ROk b.r ∧ HOk b.z0 b.z1
instance (b : Bx) : Decidable (BOk b) := by unfold BOk; infer_instance
instance (l : List Bx) : Decidable (∀ b ∈ l, BOk b) := List.decidableBAll (fun b => BOk b) l
def basesB : List Bx → Int → List Rc
  | [], _ => []
  | b :: l, z => if b.z0 ≤ z ∧ z < b.z1 then b.r :: basesB l z else basesB l z
theorem bases_mem {l : List Bx} {z : Int} {r : Rc} : r ∈ basesB l z ↔ ∃ b ∈ l, b.r = r ∧ b.z0 ≤ z ∧ z < b.z1 := by
  induction l with
  | nil => simp [basesB]
  | cons b l ih =>
    rw [basesB]
    split
    · next c =>
      rw [List.mem_cons, ih]
      constructor
      · rintro (rfl | ⟨d, hd, k⟩)
        · exact ⟨b, List.mem_cons_self, rfl, c⟩
        · exact ⟨d, List.mem_cons_of_mem _ hd, k⟩
      · rintro ⟨d, hd, k⟩
        rcases List.mem_cons.1 hd with rfl | hd
        · exact Or.inl k.1.symm
        · exact Or.inr ⟨d, hd, k⟩
    · next c =>
      rw [ih]
      constructor
      · rintro ⟨d, hd, k⟩; exact ⟨d, List.mem_cons_of_mem _ hd, k⟩
      · rintro ⟨d, hd, k⟩
        rcases List.mem_cons.1 hd with rfl | hd
        · exact absurd k.2 c
        · exact ⟨d, hd, k⟩
theorem bases_len (l : List Bx) (z : Int) : (basesB l z).length ≤ l.length := by
  induction l with
  | nil => exact Nat.le_refl _
  | cons b l ih => rw [basesB]; split <;> simp only [List.length_cons] <;> omega
theorem bases_ok {l : List Bx} (h : ∀ b ∈ l, BOk b) (z : Int) : ∀ r ∈ basesB l z, ROk r := by
  intro r hr
  obtain ⟨b, hb, rfl, _⟩ := bases_mem.1 hr
  exact (h b hb).1
def htB (l : List Bx) : List Int := l.flatMap fun b => [b.z0, b.z1]
theorem htB_mem {l : List Bx} {z : Int} : z ∈ htB l ↔ ∃ b ∈ l, z = b.z0 ∨ z = b.z1 := by simp [htB]
theorem htB_len (l : List Bx) : (htB l).length = 2 * l.length := by
  induction l with
  | nil => rfl
  | cons b l ih => rw [show htB (b :: l) = b.z0 :: b.z1 :: htB l from rfl, List.length_cons, List.length_cons, ih, List.length_cons]; omega
theorem htB_in {l : List Bx} (h : ∀ b ∈ l, BOk b) : InZ (htB l) := by
  intro z hz
  obtain ⟨b, hb, e⟩ := htB_mem.1 hz
  have := (h b hb).2
  unfold HOk at this
  omega
def secB (l : List Bx) (z : Int) : List Rc := formL (basesB l z)
theorem form_nil : formL [] = [] := by decide
theorem secB_form {l : List Bx} (h : ∀ b ∈ l, BOk b) (z : Int) : IsForm (secB l z) := (formL_is (bases_ok h z)).1
theorem bases_same {l : List Bx} {z z' : Int} (h1 : z ≤ z') (h : ∀ x ∈ htB l, ¬ (z < x ∧ x ≤ z')) : basesB l z = basesB l z' := by
  induction l with
  | nil => rfl
  | cons b l ih =>
    have e : htB (b :: l) = b.z0 :: b.z1 :: htB l := rfl
    rw [e] at h
    have k0 := h b.z0 List.mem_cons_self
    have k1 := h b.z1 (List.mem_cons_of_mem _ List.mem_cons_self)
    have ih := ih (fun x hx => h x (List.mem_cons_of_mem _ (List.mem_cons_of_mem _ hx)))
    rw [basesB, basesB, ih]
    by_cases c : b.z0 ≤ z ∧ z < b.z1
    · rw [if_pos c, if_pos (by omega)]
    · rw [if_neg c, if_neg (by omega)]
theorem bases_out {l : List Bx} {z : Int} (h : ∀ b ∈ l, ¬ (b.z0 ≤ z ∧ z < b.z1)) : basesB l z = [] := by
  induction l with
  | nil => rfl
  | cons b l ih =>
    rw [basesB, if_neg (h b List.mem_cons_self)]
    exact ih (fun d hd => h d (List.mem_cons_of_mem _ hd))
theorem chgB (l : List Bx) : Chg (secB l) (htB l) := by
  refine ⟨fun z z' h1 h2 => by unfold secB; rw [bases_same h1 h2], fun z h => ?_, fun z h => ?_⟩
  · unfold secB
    rw [bases_out (fun b hb => by have := h b.z0 (htB_mem.2 ⟨b, hb, Or.inl rfl⟩); omega), form_nil]
  · unfold secB
    rw [bases_out (fun b hb => by have := h b.z1 (htB_mem.2 ⟨b, hb, Or.inr rfl⟩); omega), form_nil]
/-- the solid of a list of boxes. -/
def solB (l : List Bx) : List Sl := solGo (secB l) [] (sortS (htB l))
theorem solB_is {l : List Bx} (h : ∀ b ∈ l, BOk b) : SForm (solB l) ∧ ∀ z, secS (solB l) z = secB l z := by
  obtain ⟨s1, s2⟩ := sortS_is (htB l)
  exact sol_is (secB_form h) s1 (fun x hx => htB_in h x ((s2 x).1 hx)) ((chgB l).of (fun z => (s2 z).symm))
/-! ### the operations -/
/-! ### sets of cubes -/
structure CS (S : List Sl) (P : Int → Int → Int → Prop) : Prop where
  form : SForm S
  cubes : ∀ x y z, HasL (secS S z) x y ↔ P x y z
theorem CS.eq {S T : List Sl} {P Q : Int → Int → Int → Prop} (h : CS S P) (k : CS T Q) (e : ∀ x y z, P x y z ↔ Q x y z) : S = T :=
  solid_eq h.form k.form (fun z => form_eq (sec_form h.form z) (sec_form k.form z) (fun x y => by rw [h.cubes, k.cubes, e]))
theorem CS.of {S : List Sl} {P Q : Int → Int → Int → Prop} (h : CS S P) (e : ∀ x y z, P x y z ↔ Q x y z) : CS S Q := ⟨h.form, fun x y z => by rw [h.cubes, e]⟩
/-- a cube of some boxes. -/
def HasB (l : List Bx) (x y z : Int) : Prop := ∃ b ∈ l, HasR b.r x y ∧ b.z0 ≤ z ∧ z < b.z1
/-! ### sizes -/
theorem asc_sub_len : ∀ {X Y : List Int}, Asc X → (∀ x ∈ X, x ∈ Y) → X.length ≤ Y.length := by
  intro X
  induction X with
  | nil => intro Y _ _; exact Nat.zero_le _
  | cons x X ih =>
    intro Y h hs
    have hx := hs x List.mem_cons_self
    have h1 := ih (Y := Y.erase x) h.tail (fun y hy => by
      have := h.lt y hy
      exact (List.mem_erase_of_ne (by omega)).2 (hs y (List.mem_cons_of_mem _ hy)))
    have h2 := List.length_erase_of_mem hx
    have h3 := List.length_pos_of_mem hx
    rw [List.length_cons]; omega
theorem solB_len (l : List Bx) : (solB l).length ≤ 2 * l.length - 1 := by
  have h1 := (solGo_len (secB l) (sortS (htB l)) []).2
  obtain ⟨s1, s2⟩ := sortS_is (htB l)
  have h2 := asc_sub_len s1 (fun x hx => (s2 x).1 hx)
  rw [htB_len] at h2
  simp only [List.length_nil] at h1
  unfold solB
  omega
/-! ### the volume -/
def volS : List Sl → Int
  | [] => 0
  | s :: S => areaL s.ar * (s.z1 - s.z0) + volS S
end Go.Proofs.Ytdnoadngfkiabaa
namespace Go.Proofs.Ytdnoadngfkiabaa

/-- an end of an interval: the fraction n/d, and whether it belongs to the interval. -/
structure Bd where
  n : Int
  d : Int
  c : Bool
def AbvB (b : Bd) (n m : Int) : Prop := b.n * m < n * b.d ∨ (b.c = true ∧ b.n * m = n * b.d)
def BlwB (b : Bd) (n m : Int) : Prop := n * b.d < b.n * m ∨ (b.c = true ∧ n * b.d = b.n * m)
def afterB (lo b : Bd) : Bd := if lo.n * b.d < b.n * lo.d ∨ (b.n * lo.d = lo.n * b.d ∧ b.c = false) then b else lo
def beforeB (hi b : Bd) : Bd := if b.n * hi.d < hi.n * b.d ∨ (b.n * hi.d = hi.n * b.d ∧ b.c = false) then b else hi
theorem fr_mul {a q r : Int} : q * (a * r) = a * q * r := by rw [← Int.mul_assoc, Int.mul_comm q a]
theorem fr_mid {b p r : Int} : b * p * r = b * r * p := by rw [Int.mul_assoc, Int.mul_comm p r, ← Int.mul_assoc]
theorem fr_le {a p b q c r : Int} (hq : 0 < q) (hp : 0 ≤ p) (hr : 0 ≤ r) (h1 : a * q ≤ b * p) (h2 : b * r ≤ c * q) : a * r ≤ c * p := by
  refine Int.le_of_mul_le_mul_left (a := q) ?_ hq
  rw [fr_mul, fr_mul]
  exact Int.le_trans (Int.mul_le_mul_of_nonneg_right h1 hr) (by rw [fr_mid]; exact Int.mul_le_mul_of_nonneg_right h2 hp)
theorem fr_lt1 {a p b q c r : Int} (hq : 0 < q) (hp : 0 ≤ p) (hr : 0 < r) (h1 : a * q < b * p) (h2 : b * r ≤ c * q) : a * r < c * p := by
  refine Int.lt_of_mul_lt_mul_left (a := q) ?_ (Int.le_of_lt hq)
  rw [fr_mul, fr_mul]
  exact Int.lt_of_lt_of_le (Int.mul_lt_mul_of_pos_right h1 hr) (by rw [fr_mid]; exact Int.mul_le_mul_of_nonneg_right h2 hp)
theorem fr_lt2 {a p b q c r : Int} (hq : 0 < q) (hp : 0 < p) (hr : 0 ≤ r) (h1 : a * q ≤ b * p) (h2 : b * r < c * q) : a * r < c * p := by
  refine Int.lt_of_mul_lt_mul_left (a := q) ?_ (Int.le_of_lt hq)
  rw [fr_mul, fr_mul]
  exact Int.lt_of_le_of_lt (Int.mul_le_mul_of_nonneg_right h1 hr) (by rw [fr_mid]; exact Int.mul_lt_mul_of_pos_right h2 hp)
theorem AbvB.le {b : Bd} {n m : Int} (h : AbvB b n m) : b.n * m ≤ n * b.d := by
  rcases h with h | h
  · omega
  · exact Int.le_of_eq h.2
theorem BlwB.le {b : Bd} {n m : Int} (h : BlwB b n m) : n * b.d ≤ b.n * m := by
  rcases h with h | h
  · omega
  · exact Int.le_of_eq h.2
theorem after_iff {lo b : Bd} {n m : Int} (hl : 0 < lo.d) (hb : 0 < b.d) (hm : 0 < m) : AbvB (afterB lo b) n m ↔ AbvB lo n m ∧ AbvB b n m := by
  unfold afterB
  split
  · next c =>
    refine ⟨fun h => ⟨?_, h⟩, fun h => h.2⟩
    rcases c with c | ⟨c, e⟩
    · exact Or.inl (fr_lt1 hb (Int.le_of_lt hl) hm c h.le)
    · rcases h with h | h
      · exact Or.inl (fr_lt2 hb hl (Int.le_of_lt hm) (Int.le_of_eq c.symm) h)
      · rw [e] at h; exact absurd h.1 (by simp)
  · next c =>
    refine ⟨fun h => ⟨h, ?_⟩, fun h => h.1⟩
    rcases Int.lt_trichotomy (b.n * lo.d) (lo.n * b.d) with k | k | k
    · exact Or.inl (fr_lt1 hl (Int.le_of_lt hb) hm k h.le)
    · have e : b.c = true := by
        cases e : b.c with
        | true => rfl
        | false => exact absurd (Or.inr ⟨k, e⟩) c
      have := fr_le hl (Int.le_of_lt hb) (Int.le_of_lt hm) (Int.le_of_eq k) h.le
      rcases Int.lt_or_eq_of_le this with q | q
      · exact Or.inl q
      · exact Or.inr ⟨e, q⟩
    · exact absurd (Or.inl k) c
theorem before_iff {hi b : Bd} {n m : Int} (hh : 0 ≤ hi.d) (h0 : hi.d = 0 → 0 < hi.n) (hb : 0 < b.d) (hm : 0 < m) : BlwB (beforeB hi b) n m ↔ BlwB hi n m ∧ BlwB b n m := by
  have pos : hi.d = 0 → 0 < hi.n * b.d := fun e => Int.mul_pos (h0 e) hb
  unfold beforeB
  split
  · next c =>
    refine ⟨fun h => ⟨?_, h⟩, fun h => h.2⟩
    rcases c with c | ⟨c, e⟩
    · exact Or.inl (fr_lt2 hb hm hh h.le c)
    · have hd : 0 < hi.d := by
        rcases Int.lt_or_eq_of_le hh with k | k
        · exact k
        · have := pos k.symm
          rw [← c, ← k, Int.mul_zero] at this
          omega
      rcases h with h | h
      · exact Or.inl (fr_lt1 hb (Int.le_of_lt hm) hd h (Int.le_of_eq c))
      · rw [e] at h; exact absurd h.1 (by simp)
  · next c =>
    refine ⟨fun h => ⟨h, ?_⟩, fun h => h.1⟩
    have hd : hi.n * b.d ≤ b.n * hi.d → 0 < hi.d := fun q => by
      rcases Int.lt_or_eq_of_le hh with k | k
      · exact k
      · have := pos k.symm
        rw [← k, Int.mul_zero] at q
        omega
    rcases Int.lt_trichotomy (b.n * hi.d) (hi.n * b.d) with k | k | k
    · exact absurd (Or.inl k) c
    · have e : b.c = true := by
        cases e : b.c with
        | true => rfl
        | false => exact absurd (Or.inr ⟨k, e⟩) c
      have hd := hd (Int.le_of_eq k.symm)
      have := fr_le hd (Int.le_of_lt hm) (Int.le_of_lt hb) h.le (Int.le_of_eq k.symm)
      rcases Int.lt_or_eq_of_le this with q | q
      · exact Or.inl q
      · exact Or.inr ⟨e, q⟩
    · exact Or.inl (fr_lt2 (hd (Int.le_of_lt k)) hm (Int.le_of_lt hb) h.le k)
/-- an interval of fractions. -/
structure Iv where
  lo : Bd
  hi : Bd
def InI (i : Iv) (n m : Int) : Prop := AbvB i.lo n m ∧ BlwB i.hi n m
structure IvOk (i : Iv) : Prop where
  l0 : 0 ≤ i.lo.n
  l1 : 0 < i.lo.d
  h0 : 0 ≤ i.hi.d
  h1 : i.hi.d = 0 → 0 < i.hi.n
def BdIn (b : Bd) : Prop := -2097152 ≤ b.n ∧ b.n ≤ 2097152 ∧ 0 ≤ b.d ∧ b.d ≤ 2097152
def IvIn (i : Iv) : Prop := BdIn i.lo ∧ BdIn i.hi
/-- the interval where the coordinate p + t * d is at least f and less than e. -/
def nar (i : Iv) (p d f e : Int) : Iv :=
  if 0 < d then ⟨afterB i.lo ⟨f - p, d, true⟩, beforeB i.hi ⟨e - p, d, false⟩⟩
  else if d < 0 then ⟨afterB i.lo ⟨p - e, -d, false⟩, beforeB i.hi ⟨p - f, -d, true⟩⟩
  else if p < f ∨ e ≤ p then ⟨i.lo, beforeB i.hi ⟨0, 1, false⟩⟩ else i
def In1 (p d f e n m : Int) : Prop := f * m ≤ p * m + n * d ∧ p * m + n * d < e * m
theorem after_ok {lo b : Bd} (h0 : 0 ≤ lo.n) (hl : 0 < lo.d) (hb : 0 < b.d) : 0 ≤ (afterB lo b).n ∧ 0 < (afterB lo b).d := by
  unfold afterB
  split
  · next c =>
    refine ⟨?_, hb⟩
    have k : lo.n * b.d ≤ b.n * lo.d := by
      rcases c with c | c
      · omega
      · exact Int.le_of_eq c.1.symm
    have : 0 * lo.d ≤ b.n * lo.d := by rw [Int.zero_mul]; exact Int.le_trans (Int.mul_nonneg h0 (Int.le_of_lt hb)) k
    exact Int.le_of_mul_le_mul_right this hl
  · exact ⟨h0, hl⟩
theorem before_ok {hi b : Bd} (hh : 0 ≤ hi.d) (h0 : hi.d = 0 → 0 < hi.n) (hb : 0 < b.d) : 0 ≤ (beforeB hi b).d ∧ ((beforeB hi b).d = 0 → 0 < (beforeB hi b).n) := by
  unfold beforeB
  split
  · exact ⟨Int.le_of_lt hb, fun e => by omega⟩
  · exact ⟨hh, h0⟩
theorem nar_ok {i : Iv} (h : IvOk i) (p d f e : Int) : IvOk (nar i p d f e) := by
  unfold nar
  split
  · next c =>
    obtain ⟨a1, a2⟩ := after_ok (b := ⟨f - p, d, true⟩) h.l0 h.l1 c
    obtain ⟨b1, b2⟩ := before_ok (b := ⟨e - p, d, false⟩) h.h0 h.h1 c
    exact ⟨a1, a2, b1, b2⟩
  · split
    · next c =>
      have hd : 0 < -d := by omega
      obtain ⟨a1, a2⟩ := after_ok (b := ⟨p - e, -d, false⟩) h.l0 h.l1 hd
      obtain ⟨b1, b2⟩ := before_ok (b := ⟨p - f, -d, true⟩) h.h0 h.h1 hd
      exact ⟨a1, a2, b1, b2⟩
    · split
      · obtain ⟨b1, b2⟩ := before_ok (b := ⟨0, 1, false⟩) h.h0 h.h1 (by decide)
        exact ⟨h.l0, h.l1, b1, b2⟩
      · exact h
theorem after_in {lo b : Bd} (h : BdIn lo) (k : BdIn b) : BdIn (afterB lo b) := by unfold afterB; split <;> assumption
theorem before_in {lo b : Bd} (h : BdIn lo) (k : BdIn b) : BdIn (beforeB lo b) := by unfold beforeB; split <;> assumption
theorem nar_in {i : Iv} (h : IvIn i) {p d f e : Int} (hp : 0 ≤ p ∧ p ≤ 1048576) (hd : -1048576 ≤ d ∧ d ≤ 1048576) (hf : 0 ≤ f ∧ f ≤ 1048576) (he : 0 ≤ e ∧ e ≤ 1048576) : IvIn (nar i p d f e) := by
  unfold nar
  split
  · exact ⟨after_in h.1 (by unfold BdIn; simp only; omega), before_in h.2 (by unfold BdIn; simp only; omega)⟩
  · split
    · exact ⟨after_in h.1 (by unfold BdIn; simp only; omega), before_in h.2 (by unfold BdIn; simp only; omega)⟩
    · split
      · exact ⟨h.1, before_in h.2 (by unfold BdIn; simp only; omega)⟩
      · exact h
theorem nar_iff {i : Iv} (h : IvOk i) (p d f e : Int) {n m : Int} (hm : 0 < m) : InI (nar i p d f e) n m ↔ InI i n m ∧ In1 p d f e n m := by
  unfold nar
  split
  · next c =>
    unfold InI
    simp only
    rw [after_iff h.l1 (b := ⟨f - p, d, true⟩) c hm, before_iff h.h0 h.h1 (b := ⟨e - p, d, false⟩) c hm]
    have e1 : AbvB ⟨f - p, d, true⟩ n m ↔ f * m ≤ p * m + n * d := by
      unfold AbvB; simp only [Int.sub_mul]; constructor
      · rintro (k | k) <;> omega
      · intro k; by_cases q : f * m - p * m = n * d
        · exact Or.inr ⟨trivial, q⟩
        · exact Or.inl (by omega)
    have e2 : BlwB ⟨e - p, d, false⟩ n m ↔ p * m + n * d < e * m := by
      unfold BlwB; simp only [Int.sub_mul]; constructor
      · rintro (k | k)
        · omega
        · exact absurd k.1 (by simp)
      · intro k; exact Or.inl (by omega)
    rw [e1, e2]; unfold In1
    constructor
    · rintro ⟨⟨a, b⟩, c, d⟩; exact ⟨⟨a, c⟩, b, d⟩
    · rintro ⟨⟨a, b⟩, c, d⟩; exact ⟨⟨a, c⟩, b, d⟩
  · split
    · next c =>
      have hd : 0 < -d := by omega
      unfold InI
      simp only
      rw [after_iff h.l1 (b := ⟨p - e, -d, false⟩) hd hm, before_iff h.h0 h.h1 (b := ⟨p - f, -d, true⟩) hd hm]
      have e1 : AbvB ⟨p - e, -d, false⟩ n m ↔ p * m + n * d < e * m := by
        unfold AbvB; simp only [Int.sub_mul, Int.mul_neg]; constructor
        · rintro (k | k)
          · omega
          · exact absurd k.1 (by simp)
        · intro k; exact Or.inl (by omega)
      have e2 : BlwB ⟨p - f, -d, true⟩ n m ↔ f * m ≤ p * m + n * d := by
        unfold BlwB; simp only [Int.sub_mul, Int.mul_neg]; constructor
        · rintro (k | k) <;> omega
        · intro k; by_cases q : -(n * d) = p * m - f * m
          · exact Or.inr ⟨trivial, q⟩
          · exact Or.inl (by omega)
      rw [e1, e2]; unfold In1
      constructor
      · rintro ⟨⟨a, b⟩, c, d⟩; exact ⟨⟨a, c⟩, d, b⟩
      · rintro ⟨⟨a, b⟩, c, d⟩; exact ⟨⟨a, d⟩, b, c⟩
    · have hd : d = 0 := by omega
      subst hd
      unfold In1
      rw [Int.mul_zero, Int.add_zero]
      have q1 : f * m ≤ p * m ↔ f ≤ p := ⟨fun k => Int.le_of_mul_le_mul_right k hm, fun k => Int.mul_le_mul_of_nonneg_right k (Int.le_of_lt hm)⟩
      have q2 : p * m < e * m ↔ p < e := ⟨fun k => Int.lt_of_mul_lt_mul_right k (Int.le_of_lt hm), fun k => Int.mul_lt_mul_of_pos_right k hm⟩
      rw [q1, q2]
      split
      · next c =>
        unfold InI
        simp only
        rw [before_iff h.h0 h.h1 (b := ⟨0, 1, false⟩) (by decide) hm]
        constructor
        · rintro ⟨a, b, k⟩
          have a := a.le
          have k := k.le
          have hn : 0 ≤ n := by
            have z : 0 * i.lo.d ≤ n * i.lo.d := by rw [Int.zero_mul]; exact Int.le_trans (Int.mul_nonneg h.l0 (Int.le_of_lt hm)) a
            exact Int.le_of_mul_le_mul_right z h.l1
          unfold BlwB at *
          simp only [Int.zero_mul, Int.mul_one] at *
          rename_i k' 
          rcases k' with k' | k'
          · omega
          · exact absurd k'.1 (by simp)
        · rintro ⟨_, a, b⟩; omega
      · next c =>
        exact ⟨fun k => ⟨k, by omega, by omega⟩, fun k => k.1⟩
def someB (i : Iv) : Bool := decide (i.lo.n * i.hi.d < i.hi.n * i.lo.d) || (decide (i.lo.n * i.hi.d = i.hi.n * i.lo.d) && (i.lo.c && i.hi.c))
theorem some_iff {i : Iv} (h : IvOk i) : someB i = true ↔ ∃ n m, 0 < m ∧ InI i n m := by
  unfold someB
  rw [Bool.or_eq_true, Bool.and_eq_true, Bool.and_eq_true, decide_eq_true_iff, decide_eq_true_iff]
  constructor
  · rintro (c | ⟨c, e1, e2⟩)
    · refine ⟨i.lo.n + i.hi.n, i.lo.d + i.hi.d, by have := h.l1; have := h.h0; omega, Or.inl ?_, Or.inl ?_⟩
      · rw [Int.mul_add, Int.add_mul]; omega
      · rw [Int.mul_add, Int.add_mul]; omega
    · exact ⟨i.lo.n, i.lo.d, h.l1, Or.inr ⟨e1, rfl⟩, Or.inr ⟨e2, c⟩⟩
  · rintro ⟨n, m, hm, a, b⟩
    by_cases hd : i.hi.d = 0
    · left; rw [hd, Int.mul_zero]; exact Int.mul_pos (h.h1 hd) h.l1
    · have hd : 0 < i.hi.d := by have := h.h0; omega
      rcases a with a | a
      · exact Or.inl (fr_lt1 hm (Int.le_of_lt h.l1) hd a b.le)
      · rcases b with b | b
        · exact Or.inl (fr_lt2 hm h.l1 (Int.le_of_lt hd) (Int.le_of_eq a.2) b)
        · rcases Int.lt_or_eq_of_le (fr_le hm (Int.le_of_lt h.l1) (Int.le_of_lt hd) (Int.le_of_eq a.2) (Int.le_of_eq b.2)) with q | q
          · exact Or.inl q
          · exact Or.inr ⟨q, a.1, b.1⟩
/-- a point, or a direction, of space. -/
structure V3 where
  x : Int
  y : Int
  z : Int
def nar3 (i : Iv) (p v : V3) (b : Bx) : Iv := nar (nar (nar i p.x v.x b.r.X0 b.r.X1) p.y v.y b.r.Y0 b.r.Y1) p.z v.z b.z0 b.z1
def In3 (p v : V3) (b : Bx) (n m : Int) : Prop := In1 p.x v.x b.r.X0 b.r.X1 n m ∧ In1 p.y v.y b.r.Y0 b.r.Y1 n m ∧ In1 p.z v.z b.z0 b.z1 n m
theorem nar3_ok {i : Iv} (h : IvOk i) (p v : V3) (b : Bx) : IvOk (nar3 i p v b) := nar_ok (nar_ok (nar_ok h _ _ _ _) _ _ _ _) _ _ _ _
theorem nar3_iff {i : Iv} (h : IvOk i) (p v : V3) (b : Bx) {n m : Int} (hm : 0 < m) : InI (nar3 i p v b) n m ↔ InI i n m ∧ In3 p v b n m := by
  unfold nar3 In3
  rw [nar_iff (nar_ok (nar_ok h _ _ _ _) _ _ _ _) _ _ _ _ hm, nar_iff (nar_ok h _ _ _ _) _ _ _ _ hm, nar_iff h _ _ _ _ hm]
  constructor
  · rintro ⟨⟨⟨a, b⟩, c⟩, d⟩; exact ⟨a, b, c, d⟩
  · rintro ⟨a, b, c, d⟩; exact ⟨⟨⟨a, b⟩, c⟩, d⟩
/-- whether some box has a point of the line within the interval. -/
def meetB (i : Iv) (p v : V3) (l : List Bx) : Bool := l.any fun b => someB (nar3 i p v b)
theorem meetB_iff {i : Iv} (h : IvOk i) (p v : V3) (l : List Bx) : meetB i p v l = true ↔ ∃ n m, 0 < m ∧ InI i n m ∧ ∃ b ∈ l, In3 p v b n m := by
  unfold meetB
  rw [List.any_eq_true]
  constructor
  · rintro ⟨b, hb, k⟩
    obtain ⟨n, m, hm, k⟩ := (some_iff (nar3_ok h p v b)).1 k
    obtain ⟨k1, k2⟩ := (nar3_iff h p v b hm).1 k
    exact ⟨n, m, hm, k1, b, hb, k2⟩
  · rintro ⟨n, m, hm, k1, b, hb, k2⟩
    exact ⟨b, hb, (some_iff (nar3_ok h p v b)).2 ⟨n, m, hm, (nar3_iff h p v b hm).2 ⟨k1, k2⟩⟩⟩
/-! ### cubes on a line -/
/-- the cube of the point p + (n / m) * v. -/
def HitAt (P : Int → Int → Int → Prop) (p v : V3) (n m : Int) : Prop := P ((p.x * m + n * v.x) / m) ((p.y * m + n * v.y) / m) ((p.z * m + n * v.z) / m)
theorem in1_iff {p d f e n m : Int} (hm : 0 < m) : In1 p d f e n m ↔ f ≤ (p * m + n * d) / m ∧ (p * m + n * d) / m < e := by
  unfold In1
  rw [Int.le_ediv_iff_mul_le hm, Int.ediv_lt_iff_lt_mul hm]
theorem in3_has {l : List Bx} (hl : ∀ b ∈ l, BOk b) (p v : V3) {n m : Int} (hm : 0 < m) : (∃ b ∈ l, In3 p v b n m) ↔ HitAt (HasB l) p v n m := by
  unfold HitAt HasB In3 HasR
  constructor
  · rintro ⟨b, hb, k1, k2, k3⟩
    rw [in1_iff hm] at k1 k2 k3
    exact ⟨b, hb, ⟨(hl b hb).1, k1.1, k1.2, k2.1, k2.2⟩, k3.1, k3.2⟩
  · rintro ⟨b, hb, ⟨_, a, b', c, d⟩, e, f⟩
    refine ⟨b, hb, ?_⟩
    rw [in1_iff hm, in1_iff hm, in1_iff hm]
    exact ⟨⟨a, b'⟩, ⟨c, d⟩, e, f⟩
def iSeg : Iv := ⟨⟨0, 1, false⟩, ⟨1, 1, false⟩⟩
def iRay : Iv := ⟨⟨0, 1, false⟩, ⟨1, 0, false⟩⟩
def iTop (k : Int) : Iv := ⟨⟨0, 1, false⟩, ⟨k, 1, false⟩⟩
theorem iRay_ok : IvOk iRay := ⟨by decide, by decide, by decide, by decide⟩
theorem iTop_ok (k : Int) : IvOk (iTop k) := ⟨by simp [iTop], by simp [iTop], by simp [iTop], by simp [iTop]⟩
theorem iRay_in : IvIn iRay := ⟨by unfold BdIn; decide, by unfold BdIn; decide⟩
theorem iTop_iff (k n m : Int) : InI (iTop k) n m ↔ 0 < n ∧ n < k * m := by
  unfold InI iTop AbvB BlwB; simp
theorem iRay_iff (n m : Int) (hm : 0 < m) : InI iRay n m ↔ 0 < n := by
  unfold InI iRay AbvB BlwB; simp; omega
def Seg (P : Int → Int → Int → Prop) (p v : V3) : Prop := ∃ n m, 0 < m ∧ (0 < n ∧ n < m) ∧ HitAt P p v n m
def RayP (P : Int → Int → Int → Prop) (p v : V3) : Prop := ∃ n m, 0 < m ∧ 0 < n ∧ HitAt P p v n m
theorem ray_iff {l : List Bx} (hl : ∀ b ∈ l, BOk b) (p v : V3) : meetB iRay p v l = true ↔ RayP (HasB l) p v := by
  rw [meetB_iff iRay_ok]
  constructor
  · rintro ⟨n, m, hm, k, q⟩; exact ⟨n, m, hm, (iRay_iff n m hm).1 k, (in3_has hl p v hm).1 q⟩
  · rintro ⟨n, m, hm, k, q⟩; exact ⟨n, m, hm, (iRay_iff n m hm).2 k, (in3_has hl p v hm).2 q⟩
theorem HitAt.congr {P Q : Int → Int → Int → Prop} (h : ∀ x y z, P x y z ↔ Q x y z) (p v : V3) (n m : Int) : HitAt P p v n m ↔ HitAt Q p v n m := h _ _ _
theorem Seg.congr {P Q : Int → Int → Int → Prop} (h : ∀ x y z, P x y z ↔ Q x y z) (p v : V3) : Seg P p v ↔ Seg Q p v := by
  unfold Seg; simp only [HitAt.congr h]
theorem RayP.congr {P Q : Int → Int → Int → Prop} (h : ∀ x y z, P x y z ↔ Q x y z) (p v : V3) : RayP P p v ↔ RayP Q p v := by
  unfold RayP; simp only [HitAt.congr h]
end Go.Proofs.Ytdnoadngfkiabaa
namespace Go.Proofs.Ytdnoadngfkiabaa

theorem fl_eq {A B m k : Int} (hm : 0 < m) (hk : 0 < k) (h : A * k = B * m) : A / m = B / k := by
  rw [← Int.mul_ediv_mul_of_pos_left A m hk, h, Int.mul_comm m k, Int.mul_ediv_mul_of_pos_left B k hm]
theorem HitAt.same {P : Int → Int → Int → Prop} {p v q u : V3} {n m k j : Int} (hm : 0 < m) (hj : 0 < j)
    (hx : (p.x * m + n * v.x) * j = (q.x * j + k * u.x) * m) (hy : (p.y * m + n * v.y) * j = (q.y * j + k * u.y) * m) (hz : (p.z * m + n * v.z) * j = (q.z * j + k * u.z) * m) : HitAt P p v n m ↔ HitAt P q u k j := by
  unfold HitAt
  rw [fl_eq hm hj hx, fl_eq hm hj hy, fl_eq hm hj hz]
def V3.add (p q : V3) : V3 := ⟨p.x + q.x, p.y + q.y, p.z + q.z⟩
def V3.sub (q p : V3) : V3 := ⟨q.x - p.x, q.y - p.y, q.z - p.z⟩
def V3.mul (k : Int) (p : V3) : V3 := ⟨k * p.x, k * p.y, k * p.z⟩
/-! ### steps -/
/-! ### rays -/
/-! ### moves -/
/-! ### samples -/
/-! ### a ray has left the grid behind t = 2^21 -/
theorem ray_far {l : List Bx} (hl : ∀ b ∈ l, BOk b) (p d : V3) (hp : (0 ≤ p.x ∧ p.x ≤ 1048576) ∧ (0 ≤ p.y ∧ p.y ≤ 1048576) ∧ (0 ≤ p.z ∧ p.z ≤ 4096)) (hd : d.x ≠ 0 ∨ d.y ≠ 0 ∨ d.z ≠ 0) {n m : Int} (hm : 0 < m) (h : HitAt (HasB l) p d n m) (hn : 0 < n) : n < 2097152 * m := by
  obtain ⟨b, hb, k⟩ := (in3_has hl p d hm).2 h
  have hbk := hl b hb
  have key : ∀ (a v f e : Int), 0 ≤ a → a ≤ 1048576 → 0 ≤ f → e ≤ 1048576 → v ≠ 0 → In1 a v f e n m → n < 2097152 * m := by
    intro a v f e a0 a1 f0 e1 hv ⟨k0, k1⟩
    have m0 : 0 ≤ f * m := Int.mul_nonneg f0 (by omega)
    have m1 : e * m ≤ 1048576 * m := Int.mul_le_mul_of_nonneg_right e1 (by omega)
    have m2 : a * m ≤ 1048576 * m := Int.mul_le_mul_of_nonneg_right a1 (by omega)
    have m3 : 0 ≤ a * m := Int.mul_nonneg a0 (by omega)
    rcases Int.lt_or_lt_of_ne hv with c | c
    · have : n * 1 ≤ n * (-v) := Int.mul_le_mul_of_nonneg_left (by omega) (by omega)
      rw [Int.mul_neg] at this
      omega
    · have : n * 1 ≤ n * v := Int.mul_le_mul_of_nonneg_left (by omega) (by omega)
      omega
  obtain ⟨⟨⟨x0, x1, x2⟩, y0, y1, y2⟩, z0, z1, z2⟩ := hbk
  rcases hd with hd | hd | hd
  · exact key _ _ _ _ hp.1.1 hp.1.2 x0 x2 hd k.1
  · exact key _ _ _ _ hp.2.1.1 hp.2.1.2 y0 y2 hd k.2.1
  · exact key _ _ _ _ hp.2.2.1 (by omega) z0 (by omega) hd k.2.2
theorem ray_top {l : List Bx} (hl : ∀ b ∈ l, BOk b) (p d : V3) (hp : (0 ≤ p.x ∧ p.x ≤ 1048576) ∧ (0 ≤ p.y ∧ p.y ≤ 1048576) ∧ (0 ≤ p.z ∧ p.z ≤ 4096)) (hd : d.x ≠ 0 ∨ d.y ≠ 0 ∨ d.z ≠ 0) : meetB (iTop 2097152) p d l = meetB iRay p d l := by
  rw [Bool.eq_iff_iff, ray_iff hl, meetB_iff (iTop_ok _)]
  constructor
  · rintro ⟨n, m, hm, k, q⟩; exact ⟨n, m, hm, ((iTop_iff _ n m).1 k).1, (in3_has hl p d hm).1 q⟩
  · rintro ⟨n, m, hm, k, q⟩; exact ⟨n, m, hm, (iTop_iff _ n m).2 ⟨k, ray_far hl p d hp hd hm q k⟩, (in3_has hl p d hm).2 q⟩
end Go.Proofs.Ytdnoadngfkiabaa
namespace Go.Proofs.Ytdnoadngfkiabaa

/-- of two lower bounds, with marks for open ones, the higher one; of two upper bounds the lower one. -/
def hiB (a b : Bd) : Bd := if a.n * b.d < b.n * a.d ∨ (¬ b.n * a.d < a.n * b.d ∧ b.c = true) then b else a
def loB (a b : Bd) : Bd := if b.n * a.d < a.n * b.d ∨ (¬ a.n * b.d < b.n * a.d ∧ b.c = true) then b else a
def nb (b : Bd) : Bd := ⟨b.n, b.d, !b.c⟩
theorem nb_hi (a b : Bd) : nb (hiB a b) = afterB (nb a) (nb b) := by
  unfold hiB afterB
  by_cases c : a.n * b.d < b.n * a.d ∨ (¬ b.n * a.d < a.n * b.d ∧ b.c = true)
  · rw [if_pos c, if_pos]
    rcases c with c | ⟨c, e⟩
    · exact Or.inl c
    · by_cases k : a.n * b.d < b.n * a.d
      · exact Or.inl k
      · refine Or.inr ⟨?_, by simp [nb, e]⟩
        simp only [nb]; omega
  · rw [if_neg c, if_neg]
    rintro (k | ⟨k, e⟩)
    · exact c (Or.inl k)
    · simp only [nb] at k e
      refine c (Or.inr ⟨by omega, by simpa using e⟩)
theorem nb_lo (a b : Bd) : nb (loB a b) = beforeB (nb a) (nb b) := by
  unfold loB beforeB
  by_cases c : b.n * a.d < a.n * b.d ∨ (¬ a.n * b.d < b.n * a.d ∧ b.c = true)
  · rw [if_pos c, if_pos]
    rcases c with c | ⟨c, e⟩
    · exact Or.inl c
    · by_cases k : b.n * a.d < a.n * b.d
      · exact Or.inl k
      · refine Or.inr ⟨?_, by simp [nb, e]⟩
        simp only [nb]; omega
  · rw [if_neg c, if_neg]
    rintro (k | ⟨k, e⟩)
    · exact c (Or.inl k)
    · simp only [nb] at k e
      refine c (Or.inr ⟨by omega, by simpa using e⟩)
structure Pr where
  lo : Bd
  hi : Bd
  no : Bool
def ivR (x : Pr) : Iv := ⟨nb x.lo, nb x.hi⟩
def narR (x : Pr) (p d f e : Int) : Pr :=
  if 0 < d then ⟨hiB x.lo ⟨f - p, d, false⟩, loB x.hi ⟨e - p, d, true⟩, x.no⟩
  else if d < 0 then ⟨hiB x.lo ⟨p - e, -d, true⟩, loB x.hi ⟨p - f, -d, false⟩, x.no⟩
  else ⟨x.lo, x.hi, x.no || (decide (p < f) || decide (e ≤ p))⟩
def InR11 (x : Pr) (n m : Int) : Prop := x.no = false ∧ InI (ivR x) n m
theorem narR_ok {x : Pr} (h : IvOk (ivR x)) (p d f e : Int) : IvOk (ivR (narR x p d f e)) := by
  have k := nar_ok h p d f e
  unfold narR
  by_cases c : 0 < d
  · rw [if_pos c]
    unfold nar at k; rw [if_pos c] at k
    unfold ivR; simp only [nb_hi, nb_lo]; exact k
  · rw [if_neg c]
    by_cases c2 : d < 0
    · rw [if_pos c2]
      unfold nar at k; rw [if_neg c, if_pos c2] at k
      unfold ivR; simp only [nb_hi, nb_lo]; exact k
    · rw [if_neg c2]; exact h
theorem narR_iff {x : Pr} (h : IvOk (ivR x)) (p d f e : Int) {n m : Int} (hm : 0 < m) : InR11 (narR x p d f e) n m ↔ InR11 x n m ∧ In1 p d f e n m := by
  have k := nar_iff h p d f e (n := n) hm
  unfold narR
  by_cases c : 0 < d
  · rw [if_pos c]
    unfold nar at k; rw [if_pos c] at k
    have e1 : ivR ⟨hiB x.lo ⟨f - p, d, false⟩, loB x.hi ⟨e - p, d, true⟩, x.no⟩ = ⟨afterB (ivR x).lo ⟨f - p, d, true⟩, beforeB (ivR x).hi ⟨e - p, d, false⟩⟩ := by unfold ivR; simp only [nb_hi, nb_lo]; rfl
    unfold InR11
    rw [e1, k]
    exact ⟨fun h => ⟨⟨h.1, h.2.1⟩, h.2.2⟩, fun h => ⟨h.1.1, h.1.2, h.2⟩⟩
  · rw [if_neg c]
    by_cases c2 : d < 0
    · rw [if_pos c2]
      unfold nar at k; rw [if_neg c, if_pos c2] at k
      have e1 : ivR ⟨hiB x.lo ⟨p - e, -d, true⟩, loB x.hi ⟨p - f, -d, false⟩, x.no⟩ = ⟨afterB (ivR x).lo ⟨p - e, -d, false⟩, beforeB (ivR x).hi ⟨p - f, -d, true⟩⟩ := by unfold ivR; simp only [nb_hi, nb_lo]; rfl
      unfold InR11
      rw [e1, k]
      exact ⟨fun h => ⟨⟨h.1, h.2.1⟩, h.2.2⟩, fun h => ⟨h.1.1, h.1.2, h.2⟩⟩
    · rw [if_neg c2]
      have hd : d = 0 := by omega
      subst hd
      unfold InR11 In1
      have q1 : f * m ≤ p * m ↔ f ≤ p := ⟨fun k => Int.le_of_mul_le_mul_right k hm, fun k => Int.mul_le_mul_of_nonneg_right k (Int.le_of_lt hm)⟩
      have q2 : p * m < e * m ↔ p < e := ⟨fun k => Int.lt_of_mul_lt_mul_right k (Int.le_of_lt hm), fun k => Int.mul_lt_mul_of_pos_right k hm⟩
      rw [Int.mul_zero, Int.add_zero, q1, q2]
      simp only [Bool.or_eq_false_iff, decide_eq_false_iff_not]
      have e1 : ivR ⟨x.lo, x.hi, x.no || (decide (p < f) || decide (e ≤ p))⟩ = ivR x := rfl
      rw [e1]
      constructor
      · rintro ⟨⟨a, b, c⟩, h⟩; exact ⟨⟨a, h⟩, by omega, by omega⟩
      · rintro ⟨⟨a, h⟩, b, c⟩; exact ⟨⟨a, by omega, by omega⟩, h⟩
def lessB (a b : Bd) : Bool := decide (a.n * b.d < b.n * a.d)
def okR (x : Pr) : Bool := !x.no && (lessB x.lo x.hi || (!lessB x.lo x.hi && (!lessB x.hi x.lo && (!x.lo.c && !x.hi.c))))
theorem okR_iff (x : Pr) : okR x = true ↔ x.no = false ∧ someB (ivR x) = true := by
  unfold okR someB lessB ivR nb
  simp only [Bool.and_eq_true, Bool.or_eq_true, Bool.not_eq_true', decide_eq_true_eq, decide_eq_false_iff_not]
  constructor
  · rintro ⟨a, b | ⟨b, c, d, e⟩⟩
    · exact ⟨a, Or.inl b⟩
    · exact ⟨a, Or.inr ⟨by omega, d, e⟩⟩
  · rintro ⟨a, b | ⟨b, d, e⟩⟩
    · exact ⟨a, Or.inl b⟩
    · exact ⟨a, Or.inr ⟨by omega, by omega, d, e⟩⟩
def narR3 (x : Pr) (p v : V3) (b : Bx) : Pr := narR (narR (narR x p.x v.x b.r.X0 b.r.X1) p.y v.y b.r.Y0 b.r.Y1) p.z v.z b.z0 b.z1
theorem okR_eq {x : Pr} (h : IvOk (ivR x)) (hn : x.no = false) (p v : V3) (b : Bx) : okR (narR3 x p v b) = someB (nar3 (ivR x) p v b) := by
  have h1 := narR_ok h p.x v.x b.r.X0 b.r.X1
  have h2 := narR_ok h1 p.y v.y b.r.Y0 b.r.Y1
  have h3 : IvOk (ivR (narR3 x p v b)) := narR_ok h2 p.z v.z b.z0 b.z1
  rw [Bool.eq_iff_iff, okR_iff, some_iff h3, some_iff (nar3_ok h p v b)]
  have key : ∀ n m : Int, 0 < m → (InR11 (narR3 x p v b) n m ↔ InI (nar3 (ivR x) p v b) n m) := by
    intro n m hm
    rw [nar3_iff h p v b hm]
    unfold narR3
    rw [narR_iff h2 _ _ _ _ hm, narR_iff h1 _ _ _ _ hm, narR_iff h _ _ _ _ hm]
    unfold InR11 In3
    constructor
    · rintro ⟨⟨⟨⟨_, a⟩, b⟩, c⟩, d⟩; exact ⟨a, b, c, d⟩
    · rintro ⟨a, b, c, d⟩; exact ⟨⟨⟨⟨hn, a⟩, b⟩, c⟩, d⟩
  constructor
  · rintro ⟨a, n, m, hm, k⟩; exact ⟨n, m, hm, (key n m hm).1 ⟨a, k⟩⟩
  · rintro ⟨n, m, hm, k⟩; exact ⟨((key n m hm).2 k).1, n, m, hm, ((key n m hm).2 k).2⟩
def prI (k : Int) : Pr := ⟨⟨0, 1, true⟩, ⟨k, 1, true⟩, false⟩
def meetQ (x : Pr) (p v : V3) (l : List Bx) : Bool := l.any fun b => okR (narR3 x p v b)
theorem meetQ_eq (k : Int) (p v : V3) (l : List Bx) : meetQ (prI k) p v l = meetB (iTop k) p v l := by
  have h : IvOk (ivR (prI k)) := iTop_ok k
  unfold meetQ meetB
  congr 1
  funext b
  exact okR_eq h rfl p v b
end Go.Proofs.Ytdnoadngfkiabaa
