/-
  Plain mathematics of solids (layer 9), 2: boxes, the solid of a list of boxes, the operations, sets of cubes, the volume. No program in this text.
  Plain mathematics of sight (layer 11), 1: bounds and intervals of fractions, the coordinates of a point on a line, and what is hit. No program in this text.
  Plain mathematics of sight (layer 11), 2: unions, the way back, steps, multiples, moves, samples. No program in this text.
  Plain mathematics of sight (layer 11), 4: the reference's way: open bounds, and a mark for nothing. No program in this text.
  What contracts over rectangles and lists of them say, for seats without layer 5's texts (as Ec, Eh, Ei, Eq hold it); lists of ints.
  Contracts of the reference of layer 6 (1): RightRect, ints, Same.
-/
import Derived.Test.YtdnoadngfkiabaaP900
import Derived.Test.YtdnoadngfkiabaaProg
import Derived.WalkKit
import Derived.Lib.Hide
import Derived.WalkLawsBesides
import Derived.WalkSpells
import Derived.Outline
import Derived.BigQuiet
import Derived.Deep.QuietTactic
import Derived.OwnWalk
import Derived.Deep.OwnRows
import Derived.Laws.OwnMore
import Derived.IntWalk
set_option linter.unusedVariables false
set_option maxRecDepth 100000
namespace Go.Proofs.Ytdnoadngfkiabaa

/-- a box: base and heights. -/
structure Bx where
  r : Rc
  z0 : Int
  z1 : Int
def BOk (b : Bx) : Prop := ROk b.r ∧ HOk b.z0 b.z1
instance (b : Bx) : Decidable (BOk b) := by unfold BOk; infer_instance
instance (l : List Bx) : Decidable (∀ b ∈ l, BOk b) := List.decidableBAll (fun b => BOk b) l
def basesB : List Bx → Int → List Rc
  | [], _ => []
  | b :: l, z => if b.z0 ≤ z ∧ z < b.z1 then b.r :: basesB l z else basesB l z
theorem bases_append (l m : List Bx) (z : Int) : basesB (l ++ m) z = basesB l z ++ basesB m z := by
  induction l with
  | nil => rfl
  | cons b l ih =>
    rw [List.cons_append, basesB, basesB, ih]
    split
    · rw [List.cons_append]
    · rfl
theorem bases_mem {l : List Bx} {z : Int} {r : Rc} : r ∈ basesB l z ↔ ∃ b ∈ l, b.r = r ∧ b.z0 ≤ z ∧ z < b.z1 := by
  induction l with
  | nil => simp [basesB]
  | cons b l ih =>
    rw [basesB]
    split
    · next c =>
      rw [List.mem_cons, ih]
      constructor
      · rintro (rfl | ⟨d, hd, k⟩)
        · exact ⟨b, List.mem_cons_self, rfl, c⟩
        · exact ⟨d, List.mem_cons_of_mem _ hd, k⟩
      · rintro ⟨d, hd, k⟩
        rcases List.mem_cons.1 hd with rfl | hd
        · exact Or.inl k.1.symm
        · exact Or.inr ⟨d, hd, k⟩
    · next c =>
      rw [ih]
      constructor
      · rintro ⟨d, hd, k⟩; exact ⟨d, List.mem_cons_of_mem _ hd, k⟩
      · rintro ⟨d, hd, k⟩
        rcases List.mem_cons.1 hd with rfl | hd
        · exact absurd k.2 c
        · exact ⟨d, hd, k⟩
theorem bases_len (l : List Bx) (z : Int) : (basesB l z).length ≤ l.length := by
  induction l with
  | nil => exact Nat.le_refl _
  | cons b l ih => rw [basesB]; split <;> simp only [List.length_cons] <;> omega
theorem bases_ok {l : List Bx} (h : ∀ b ∈ l, BOk b) (z : Int) : ∀ r ∈ basesB l z, ROk r := by
  intro r hr
  obtain ⟨b, hb, rfl, _⟩ := bases_mem.1 hr
  exact (h b hb).1
def htB (l : List Bx) : List Int := l.flatMap fun b => [b.z0, b.z1]
theorem htB_mem {l : List Bx} {z : Int} : z ∈ htB l ↔ ∃ b ∈ l, z = b.z0 ∨ z = b.z1 := by simp [htB]
theorem htB_len (l : List Bx) : (htB l).length = 2 * l.length := by
  induction l with
  | nil => rfl
  | cons b l ih => rw [show htB (b :: l) = b.z0 :: b.z1 :: htB l from rfl, List.length_cons, List.length_cons, ih, List.length_cons]; omega
theorem htB_next (l : List Bx) (k : Nat) (h : k < l.length) : htB (l.take (k + 1)) = htB (l.take k) ++ [l[k].z0, l[k].z1] := by
  unfold htB; rw [List.take_succ_eq_append_getElem h, List.flatMap_append]; simp
theorem htB_in {l : List Bx} (h : ∀ b ∈ l, BOk b) : InZ (htB l) := by
  intro z hz
  obtain ⟨b, hb, e⟩ := htB_mem.1 hz
  have := (h b hb).2
  unfold HOk at this
  omega
def secB (l : List Bx) (z : Int) : List Rc := formL (basesB l z)
theorem form_nil : formL [] = [] := by decide
theorem secB_form {l : List Bx} (h : ∀ b ∈ l, BOk b) (z : Int) : IsForm (secB l z) := (formL_is (bases_ok h z)).1
theorem bases_same {l : List Bx} {z z' : Int} (h1 : z ≤ z') (h : ∀ x ∈ htB l, ¬ (z < x ∧ x ≤ z')) : basesB l z = basesB l z' := by
  induction l with
  | nil => rfl
  | cons b l ih =>
    have e : htB (b :: l) = b.z0 :: b.z1 :: htB l := rfl
    rw [e] at h
    have k0 := h b.z0 List.mem_cons_self
    have k1 := h b.z1 (List.mem_cons_of_mem _ List.mem_cons_self)
    have ih := ih (fun x hx => h x (List.mem_cons_of_mem _ (List.mem_cons_of_mem _ hx)))
    rw [basesB, basesB, ih]
    by_cases c : b.z0 ≤ z ∧ z < b.z1
    · rw [if_pos c, if_pos (by omega)]
    · rw [if_neg c, if_neg (by omega)]
theorem bases_out {l : List Bx} {z : Int} (h : ∀ b ∈ l, ¬ (b.z0 ≤ z ∧ z < b.z1)) : basesB l z = [] := by
  induction l with
  | nil => rfl
  | cons b l ih =>
    rw [basesB, if_neg (h b List.mem_cons_self)]
    exact ih (fun d hd => h d (List.mem_cons_of_mem _ hd))
theorem chgB (l : List Bx) : Chg (secB l) (htB l) := by
  refine ⟨fun z z' h1 h2 => by unfold secB; rw [bases_same h1 h2], fun z h => ?_, fun z h => ?_⟩
  · unfold secB
    rw [bases_out (fun b hb => by have := h b.z0 (htB_mem.2 ⟨b, hb, Or.inl rfl⟩); omega), form_nil]
  · unfold secB
    rw [bases_out (fun b hb => by have := h b.z1 (htB_mem.2 ⟨b, hb, Or.inr rfl⟩); omega), form_nil]
/-- the solid of a list of boxes. -/
def solB (l : List Bx) : List Sl := solGo (secB l) [] (sortS (htB l))
theorem solB_is {l : List Bx} (h : ∀ b ∈ l, BOk b) : SForm (solB l) ∧ ∀ z, secS (solB l) z = secB l z := by
  obtain ⟨s1, s2⟩ := sortS_is (htB l)
  exact sol_is (secB_form h) s1 (fun x hx => htB_in h x ((s2 x).1 hx)) ((chgB l).of (fun z => (s2 z).symm))
def ofS (l : List Bx) : List Sl × Int := if ∀ b ∈ l, BOk b then (if l.length ≤ 200 then capS (solB l) else ([], 6)) else ([], 1)
/-! ### the operations -/
theorem no_has (x y : Int) : ¬ HasL [] x y := by rintro ⟨r, hr, _⟩; cases hr
/-! ### sets of cubes -/
structure CS (S : List Sl) (P : Int → Int → Int → Prop) : Prop where
  form : SForm S
  cubes : ∀ x y z, HasL (secS S z) x y ↔ P x y z
theorem CS.eq {S T : List Sl} {P Q : Int → Int → Int → Prop} (h : CS S P) (k : CS T Q) (e : ∀ x y z, P x y z ↔ Q x y z) : S = T :=
  solid_eq h.form k.form (fun z => form_eq (sec_form h.form z) (sec_form k.form z) (fun x y => by rw [h.cubes, k.cubes, e]))
theorem CS.of {S : List Sl} {P Q : Int → Int → Int → Prop} (h : CS S P) (e : ∀ x y z, P x y z ↔ Q x y z) : CS S Q := ⟨h.form, fun x y z => by rw [h.cubes, e]⟩
/-- a cube of some boxes. -/
def HasB (l : List Bx) (x y z : Int) : Prop := ∃ b ∈ l, HasR b.r x y ∧ b.z0 ≤ z ∧ z < b.z1
theorem bases_has (l : List Bx) (x y z : Int) : HasL (basesB l z) x y ↔ HasB l x y z := by
  constructor
  · rintro ⟨r, hr, h⟩
    obtain ⟨b, hb, rfl, k⟩ := bases_mem.1 hr
    exact ⟨b, hb, h, k⟩
  · rintro ⟨b, hb, h, k⟩
    exact ⟨b.r, bases_mem.2 ⟨b, hb, rfl, k⟩, h⟩
theorem cs_b {l : List Bx} (h : ∀ b ∈ l, BOk b) : CS (solB l) (HasB l) := by
  obtain ⟨f1, f2⟩ := solB_is h
  exact ⟨f1, fun x y z => by rw [f2]; unfold secB; rw [(formL_is (bases_ok h z)).2, bases_has]⟩
/-! ### sizes -/
theorem asc_sub_len : ∀ {X Y : List Int}, Asc X → (∀ x ∈ X, x ∈ Y) → X.length ≤ Y.length := by
  intro X
  induction X with
  | nil => intro Y _ _; exact Nat.zero_le _
  | cons x X ih =>
    intro Y h hs
    have hx := hs x List.mem_cons_self
    have h1 := ih (Y := Y.erase x) h.tail (fun y hy => by
      have := h.lt y hy
      exact (List.mem_erase_of_ne (by omega)).2 (hs y (List.mem_cons_of_mem _ hy)))
    have h2 := List.length_erase_of_mem hx
    have h3 := List.length_pos_of_mem hx
    rw [List.length_cons]; omega
theorem solB_len (l : List Bx) : (solB l).length ≤ 2 * l.length - 1 := by
  have h1 := (solGo_len (secB l) (sortS (htB l)) []).2
  obtain ⟨s1, s2⟩ := sortS_is (htB l)
  have h2 := asc_sub_len s1 (fun x hx => (s2 x).1 hx)
  rw [htB_len] at h2
  simp only [List.length_nil] at h1
  unfold solB
  omega
/-! ### the volume -/
def volS : List Sl → Int
  | [] => 0
  | s :: S => areaL s.ar * (s.z1 - s.z0) + volS S
end Go.Proofs.Ytdnoadngfkiabaa
namespace Go.Proofs.Ytdnoadngfkiabaa

/-- an end of an interval: the fraction n/d, and whether it belongs to the interval. -/
structure Bd where
  n : Int
  d : Int
  c : Bool
def AbvB (b : Bd) (n m : Int) : Prop := b.n * m < n * b.d ∨ (b.c = true ∧ b.n * m = n * b.d)
def BlwB (b : Bd) (n m : Int) : Prop := n * b.d < b.n * m ∨ (b.c = true ∧ n * b.d = b.n * m)
def afterB (lo b : Bd) : Bd := if lo.n * b.d < b.n * lo.d ∨ (b.n * lo.d = lo.n * b.d ∧ b.c = false) then b else lo
def beforeB (hi b : Bd) : Bd := if b.n * hi.d < hi.n * b.d ∨ (b.n * hi.d = hi.n * b.d ∧ b.c = false) then b else hi
theorem fr_mul {a q r : Int} : q * (a * r) = a * q * r := by rw [← Int.mul_assoc, Int.mul_comm q a]
theorem fr_mid {b p r : Int} : b * p * r = b * r * p := by rw [Int.mul_assoc, Int.mul_comm p r, ← Int.mul_assoc]
theorem fr_le {a p b q c r : Int} (hq : 0 < q) (hp : 0 ≤ p) (hr : 0 ≤ r) (h1 : a * q ≤ b * p) (h2 : b * r ≤ c * q) : a * r ≤ c * p := by
  refine Int.le_of_mul_le_mul_left (a := q) ?_ hq
  rw [fr_mul, fr_mul]
  exact Int.le_trans (Int.mul_le_mul_of_nonneg_right h1 hr) (by rw [fr_mid]; exact Int.mul_le_mul_of_nonneg_right h2 hp)
theorem fr_lt1 {a p b q c r : Int} (hq : 0 < q) (hp : 0 ≤ p) (hr : 0 < r) (h1 : a * q < b * p) (h2 : b * r ≤ c * q) : a * r < c * p := by
  refine Int.lt_of_mul_lt_mul_left (a := q) ?_ (Int.le_of_lt hq)
  rw [fr_mul, fr_mul]
  exact Int.lt_of_lt_of_le (Int.mul_lt_mul_of_pos_right h1 hr) (by rw [fr_mid]; exact Int.mul_le_mul_of_nonneg_right h2 hp)
theorem fr_lt2 {a p b q c r : Int} (hq : 0 < q) (hp : 0 < p) (hr : 0 ≤ r) (h1 : a * q ≤ b * p) (h2 : b * r < c * q) : a * r < c * p := by
  refine Int.lt_of_mul_lt_mul_left (a := q) ?_ (Int.le_of_lt hq)
  rw [fr_mul, fr_mul]
  exact Int.lt_of_le_of_lt (Int.mul_le_mul_of_nonneg_right h1 hr) (by rw [fr_mid]; exact Int.mul_lt_mul_of_pos_right h2 hp)
theorem AbvB.le {b : Bd} {n m : Int} (h : AbvB b n m) : b.n * m ≤ n * b.d := by
  rcases h with h | h
  · omega
  · exact Int.le_of_eq h.2
theorem BlwB.le {b : Bd} {n m : Int} (h : BlwB b n m) : n * b.d ≤ b.n * m := by
  rcases h with h | h
  · omega
  · exact Int.le_of_eq h.2
theorem after_iff {lo b : Bd} {n m : Int} (hl : 0 < lo.d) (hb : 0 < b.d) (hm : 0 < m) : AbvB (afterB lo b) n m ↔ AbvB lo n m ∧ AbvB b n m := by
  unfold afterB
  split
  · next c =>
    refine ⟨fun h => ⟨?_, h⟩, fun h => h.2⟩
    rcases c with c | ⟨c, e⟩
    · exact Or.inl (fr_lt1 hb (Int.le_of_lt hl) hm c h.le)
    · rcases h with h | h
      · exact Or.inl (fr_lt2 hb hl (Int.le_of_lt hm) (Int.le_of_eq c.symm) h)
      · rw [e] at h; exact absurd h.1 (by simp)
  · next c =>
    refine ⟨fun h => ⟨h, ?_⟩, fun h => h.1⟩
    rcases Int.lt_trichotomy (b.n * lo.d) (lo.n * b.d) with k | k | k
    · exact Or.inl (fr_lt1 hl (Int.le_of_lt hb) hm k h.le)
    · have e : b.c = true := by
        cases e : b.c with
        | true => rfl
        | false => exact absurd (Or.inr ⟨k, e⟩) c
      have := fr_le hl (Int.le_of_lt hb) (Int.le_of_lt hm) (Int.le_of_eq k) h.le
      rcases Int.lt_or_eq_of_le this with q | q
      · exact Or.inl q
      · exact Or.inr ⟨e, q⟩
    · exact absurd (Or.inl k) c
theorem before_iff {hi b : Bd} {n m : Int} (hh : 0 ≤ hi.d) (h0 : hi.d = 0 → 0 < hi.n) (hb : 0 < b.d) (hm : 0 < m) : BlwB (beforeB hi b) n m ↔ BlwB hi n m ∧ BlwB b n m := by
  have pos : hi.d = 0 → 0 < hi.n * b.d := fun e => Int.mul_pos (h0 e) hb
  unfold beforeB
  split
  · next c =>
    refine ⟨fun h => ⟨?_, h⟩, fun h => h.2⟩
    rcases c with c | ⟨c, e⟩
    · exact Or.inl (fr_lt2 hb hm hh h.le c)
    · have hd : 0 < hi.d := by
        rcases Int.lt_or_eq_of_le hh with k | k
        · exact k
        · have := pos k.symm
          rw [← c, ← k, Int.mul_zero] at this
          omega
      rcases h with h | h
      · exact Or.inl (fr_lt1 hb (Int.le_of_lt hm) hd h (Int.le_of_eq c))
      · rw [e] at h; exact absurd h.1 (by simp)
  · next c =>
    refine ⟨fun h => ⟨h, ?_⟩, fun h => h.1⟩
    have hd : hi.n * b.d ≤ b.n * hi.d → 0 < hi.d := fun q => by
      rcases Int.lt_or_eq_of_le hh with k | k
      · exact k
      · have := pos k.symm
        rw [← k, Int.mul_zero] at q
        omega
    rcases Int.lt_trichotomy (b.n * hi.d) (hi.n * b.d) with k | k | k
    · exact absurd (Or.inl k) c
    · have e : b.c = true := by
        cases e : b.c with
        | true => rfl
        | false => exact absurd (Or.inr ⟨k, e⟩) c
      have hd := hd (Int.le_of_eq k.symm)
      have := fr_le hd (Int.le_of_lt hm) (Int.le_of_lt hb) h.le (Int.le_of_eq k.symm)
      rcases Int.lt_or_eq_of_le this with q | q
      · exact Or.inl q
      · exact Or.inr ⟨e, q⟩
    · exact Or.inl (fr_lt2 (hd (Int.le_of_lt k)) hm (Int.le_of_lt hb) h.le k)
/-- an interval of fractions. -/
structure Iv where
  lo : Bd
  hi : Bd
def InI (i : Iv) (n m : Int) : Prop := AbvB i.lo n m ∧ BlwB i.hi n m
structure IvOk (i : Iv) : Prop where
  l0 : 0 ≤ i.lo.n
  l1 : 0 < i.lo.d
  h0 : 0 ≤ i.hi.d
  h1 : i.hi.d = 0 → 0 < i.hi.n
def BdIn (b : Bd) : Prop := -2097152 ≤ b.n ∧ b.n ≤ 2097152 ∧ 0 ≤ b.d ∧ b.d ≤ 2097152
def IvIn (i : Iv) : Prop := BdIn i.lo ∧ BdIn i.hi
/-- the interval where the coordinate p + t * d is at least f and less than e. -/
def nar (i : Iv) (p d f e : Int) : Iv :=
  if 0 < d then ⟨afterB i.lo ⟨f - p, d, true⟩, beforeB i.hi ⟨e - p, d, false⟩⟩
  else if d < 0 then ⟨afterB i.lo ⟨p - e, -d, false⟩, beforeB i.hi ⟨p - f, -d, true⟩⟩
  else if p < f ∨ e ≤ p then ⟨i.lo, beforeB i.hi ⟨0, 1, false⟩⟩ else i
def In1 (p d f e n m : Int) : Prop := f * m ≤ p * m + n * d ∧ p * m + n * d < e * m
theorem after_ok {lo b : Bd} (h0 : 0 ≤ lo.n) (hl : 0 < lo.d) (hb : 0 < b.d) : 0 ≤ (afterB lo b).n ∧ 0 < (afterB lo b).d := by
  unfold afterB
  split
  · next c =>
    refine ⟨?_, hb⟩
    have k : lo.n * b.d ≤ b.n * lo.d := by
      rcases c with c | c
      · omega
      · exact Int.le_of_eq c.1.symm
    have : 0 * lo.d ≤ b.n * lo.d := by rw [Int.zero_mul]; exact Int.le_trans (Int.mul_nonneg h0 (Int.le_of_lt hb)) k
    exact Int.le_of_mul_le_mul_right this hl
  · exact ⟨h0, hl⟩
theorem before_ok {hi b : Bd} (hh : 0 ≤ hi.d) (h0 : hi.d = 0 → 0 < hi.n) (hb : 0 < b.d) : 0 ≤ (beforeB hi b).d ∧ ((beforeB hi b).d = 0 → 0 < (beforeB hi b).n) := by
  unfold beforeB
  split
  · exact ⟨Int.le_of_lt hb, fun e => by omega⟩
  · exact ⟨hh, h0⟩
theorem nar_ok {i : Iv} (h : IvOk i) (p d f e : Int) : IvOk (nar i p d f e) := by
  unfold nar
  split
  · next c =>
    obtain ⟨a1, a2⟩ := after_ok (b := ⟨f - p, d, true⟩) h.l0 h.l1 c
    obtain ⟨b1, b2⟩ := before_ok (b := ⟨e - p, d, false⟩) h.h0 h.h1 c
    exact ⟨a1, a2, b1, b2⟩
  · split
    · next c =>
      have hd : 0 < -d := by omega
      obtain ⟨a1, a2⟩ := after_ok (b := ⟨p - e, -d, false⟩) h.l0 h.l1 hd
      obtain ⟨b1, b2⟩ := before_ok (b := ⟨p - f, -d, true⟩) h.h0 h.h1 hd
      exact ⟨a1, a2, b1, b2⟩
    · split
      · obtain ⟨b1, b2⟩ := before_ok (b := ⟨0, 1, false⟩) h.h0 h.h1 (by decide)
        exact ⟨h.l0, h.l1, b1, b2⟩
      · exact h
theorem after_in {lo b : Bd} (h : BdIn lo) (k : BdIn b) : BdIn (afterB lo b) := by unfold afterB; split <;> assumption
theorem before_in {lo b : Bd} (h : BdIn lo) (k : BdIn b) : BdIn (beforeB lo b) := by unfold beforeB; split <;> assumption
theorem nar_in {i : Iv} (h : IvIn i) {p d f e : Int} (hp : 0 ≤ p ∧ p ≤ 1048576) (hd : -1048576 ≤ d ∧ d ≤ 1048576) (hf : 0 ≤ f ∧ f ≤ 1048576) (he : 0 ≤ e ∧ e ≤ 1048576) : IvIn (nar i p d f e) := by
  unfold nar
  split
  · exact ⟨after_in h.1 (by unfold BdIn; simp only; omega), before_in h.2 (by unfold BdIn; simp only; omega)⟩
  · split
    · exact ⟨after_in h.1 (by unfold BdIn; simp only; omega), before_in h.2 (by unfold BdIn; simp only; omega)⟩
    · split
      · exact ⟨h.1, before_in h.2 (by unfold BdIn; simp only; omega)⟩
      · exact h
theorem nar_iff {i : Iv} (h : IvOk i) (p d f e : Int) {n m : Int} (hm : 0 < m) : InI (nar i p d f e) n m ↔ InI i n m ∧ In1 p d f e n m := by
  unfold nar
  split
  · next c =>
    unfold InI
    simp only
    rw [after_iff h.l1 (b := ⟨f - p, d, true⟩) c hm, before_iff h.h0 h.h1 (b := ⟨e - p, d, false⟩) c hm]
    have e1 : AbvB ⟨f - p, d, true⟩ n m ↔ f * m ≤ p * m + n * d := by
      unfold AbvB; simp only [Int.sub_mul]; constructor
      · rintro (k | k) <;> omega
      · intro k; by_cases q : f * m - p * m = n * d
        · exact Or.inr ⟨trivial, q⟩
        · exact Or.inl (by omega)
    have e2 : BlwB ⟨e - p, d, false⟩ n m ↔ p * m + n * d < e * m := by
      unfold BlwB; simp only [Int.sub_mul]; constructor
      · rintro (k | k)
        · omega
        · exact absurd k.1 (by simp)
      · intro k; exact Or.inl (by omega)
    rw [e1, e2]; unfold In1
    constructor
    · rintro ⟨⟨a, b⟩, c, d⟩; exact ⟨⟨a, c⟩, b, d⟩
    · rintro ⟨⟨a, b⟩, c, d⟩; exact ⟨⟨a, c⟩, b, d⟩
  · split
    · next c =>
      have hd : 0 < -d := by omega
      unfold InI
      simp only
      rw [after_iff h.l1 (b := ⟨p - e, -d, false⟩) hd hm, before_iff h.h0 h.h1 (b := ⟨p - f, -d, true⟩) hd hm]
      have e1 : AbvB ⟨p - e, -d, false⟩ n m ↔ p * m + n * d < e * m := by
        unfold AbvB; simp only [Int.sub_mul, Int.mul_neg]; constructor
        · rintro (k | k)
          · omega
          · exact absurd k.1 (by simp)
        · intro k; exact Or.inl (by omega)
      have e2 : BlwB ⟨p - f, -d, true⟩ n m ↔ f * m ≤ p * m + n * d := by
        unfold BlwB; simp only [Int.sub_mul, Int.mul_neg]; constructor
        · rintro (k | k) <;> omega
        · intro k; by_cases q : -(n * d) = p * m - f * m
          · exact Or.inr ⟨trivial, q⟩
          · exact Or.inl (by omega)
      rw [e1, e2]; unfold In1
      constructor
      · rintro ⟨⟨a, b⟩, c, d⟩; exact ⟨⟨a, c⟩, d, b⟩
      · rintro ⟨⟨a, b⟩, c, d⟩; exact ⟨⟨a, d⟩, b, c⟩
    · have hd : d = 0 := by omega
      subst hd
      unfold In1
      rw [Int.mul_zero, Int.add_zero]
      have q1 : f * m ≤ p * m ↔ f ≤ p := ⟨fun k => Int.le_of_mul_le_mul_right k hm, fun k => Int.mul_le_mul_of_nonneg_right k (Int.le_of_lt hm)⟩
      have q2 : p * m < e * m ↔ p < e := ⟨fun k => Int.lt_of_mul_lt_mul_right k (Int.le_of_lt hm), fun k => Int.mul_lt_mul_of_pos_right k hm⟩
      rw [q1, q2]
      split
      · next c =>
        unfold InI
        simp only
        rw [before_iff h.h0 h.h1 (b := ⟨0, 1, false⟩) (by decide) hm]
        constructor
        · rintro ⟨a, b, k⟩
          have a := a.le
          have k := k.le
          have hn : 0 ≤ n := by
            have z : 0 * i.lo.d ≤ n * i.lo.d := by rw [Int.zero_mul]; exact Int.le_trans (Int.mul_nonneg h.l0 (Int.le_of_lt hm)) a
            exact Int.le_of_mul_le_mul_right z h.l1
          unfold BlwB at *
          simp only [Int.zero_mul, Int.mul_one] at *
          rename_i k' 
          rcases k' with k' | k'
          · omega
          · exact absurd k'.1 (by simp)
        · rintro ⟨_, a, b⟩; omega
      · next c =>
        exact ⟨fun k => ⟨k, by omega, by omega⟩, fun k => k.1⟩
def someB (i : Iv) : Bool := decide (i.lo.n * i.hi.d < i.hi.n * i.lo.d) || (decide (i.lo.n * i.hi.d = i.hi.n * i.lo.d) && (i.lo.c && i.hi.c))
theorem some_iff {i : Iv} (h : IvOk i) : someB i = true ↔ ∃ n m, 0 < m ∧ InI i n m := by
  unfold someB
  rw [Bool.or_eq_true, Bool.and_eq_true, Bool.and_eq_true, decide_eq_true_iff, decide_eq_true_iff]
  constructor
  · rintro (c | ⟨c, e1, e2⟩)
    · refine ⟨i.lo.n + i.hi.n, i.lo.d + i.hi.d, by have := h.l1; have := h.h0; omega, Or.inl ?_, Or.inl ?_⟩
      · rw [Int.mul_add, Int.add_mul]; omega
      · rw [Int.mul_add, Int.add_mul]; omega
    · exact ⟨i.lo.n, i.lo.d, h.l1, Or.inr ⟨e1, rfl⟩, Or.inr ⟨e2, c⟩⟩
  · rintro ⟨n, m, hm, a, b⟩
    by_cases hd : i.hi.d = 0
    · left; rw [hd, Int.mul_zero]; exact Int.mul_pos (h.h1 hd) h.l1
    · have hd : 0 < i.hi.d := by have := h.h0; omega
      rcases a with a | a
      · exact Or.inl (fr_lt1 hm (Int.le_of_lt h.l1) hd a b.le)
      · rcases b with b | b
        · exact Or.inl (fr_lt2 hm h.l1 (Int.le_of_lt hd) (Int.le_of_eq a.2) b)
        · rcases Int.lt_or_eq_of_le (fr_le hm (Int.le_of_lt h.l1) (Int.le_of_lt hd) (Int.le_of_eq a.2) (Int.le_of_eq b.2)) with q | q
          · exact Or.inl q
          · exact Or.inr ⟨q, a.1, b.1⟩
/-- a point, or a direction, of space. -/
structure V3 where
  x : Int
  y : Int
  z : Int
def nar3 (i : Iv) (p v : V3) (b : Bx) : Iv := nar (nar (nar i p.x v.x b.r.X0 b.r.X1) p.y v.y b.r.Y0 b.r.Y1) p.z v.z b.z0 b.z1
def In3 (p v : V3) (b : Bx) (n m : Int) : Prop := In1 p.x v.x b.r.X0 b.r.X1 n m ∧ In1 p.y v.y b.r.Y0 b.r.Y1 n m ∧ In1 p.z v.z b.z0 b.z1 n m
theorem nar3_ok {i : Iv} (h : IvOk i) (p v : V3) (b : Bx) : IvOk (nar3 i p v b) := nar_ok (nar_ok (nar_ok h _ _ _ _) _ _ _ _) _ _ _ _
theorem nar3_iff {i : Iv} (h : IvOk i) (p v : V3) (b : Bx) {n m : Int} (hm : 0 < m) : InI (nar3 i p v b) n m ↔ InI i n m ∧ In3 p v b n m := by
  unfold nar3 In3
  rw [nar_iff (nar_ok (nar_ok h _ _ _ _) _ _ _ _) _ _ _ _ hm, nar_iff (nar_ok h _ _ _ _) _ _ _ _ hm, nar_iff h _ _ _ _ hm]
  constructor
  · rintro ⟨⟨⟨a, b⟩, c⟩, d⟩; exact ⟨a, b, c, d⟩
  · rintro ⟨a, b, c, d⟩; exact ⟨⟨⟨a, b⟩, c⟩, d⟩
/-- whether some box has a point of the line within the interval. -/
def meetB (i : Iv) (p v : V3) (l : List Bx) : Bool := l.any fun b => someB (nar3 i p v b)
theorem meetB_iff {i : Iv} (h : IvOk i) (p v : V3) (l : List Bx) : meetB i p v l = true ↔ ∃ n m, 0 < m ∧ InI i n m ∧ ∃ b ∈ l, In3 p v b n m := by
  unfold meetB
  rw [List.any_eq_true]
  constructor
  · rintro ⟨b, hb, k⟩
    obtain ⟨n, m, hm, k⟩ := (some_iff (nar3_ok h p v b)).1 k
    obtain ⟨k1, k2⟩ := (nar3_iff h p v b hm).1 k
    exact ⟨n, m, hm, k1, b, hb, k2⟩
  · rintro ⟨n, m, hm, k1, b, hb, k2⟩
    exact ⟨b, hb, (some_iff (nar3_ok h p v b)).2 ⟨n, m, hm, (nar3_iff h p v b hm).2 ⟨k1, k2⟩⟩⟩
/-! ### cubes on a line -/
/-- the cube of the point p + (n / m) * v. -/
def HitAt (P : Int → Int → Int → Prop) (p v : V3) (n m : Int) : Prop := P ((p.x * m + n * v.x) / m) ((p.y * m + n * v.y) / m) ((p.z * m + n * v.z) / m)
theorem in1_iff {p d f e n m : Int} (hm : 0 < m) : In1 p d f e n m ↔ f ≤ (p * m + n * d) / m ∧ (p * m + n * d) / m < e := by
  unfold In1
  rw [Int.le_ediv_iff_mul_le hm, Int.ediv_lt_iff_lt_mul hm]
theorem in3_has {l : List Bx} (hl : ∀ b ∈ l, BOk b) (p v : V3) {n m : Int} (hm : 0 < m) : (∃ b ∈ l, In3 p v b n m) ↔ HitAt (HasB l) p v n m := by
  unfold HitAt HasB In3 HasR
  constructor
  · rintro ⟨b, hb, k1, k2, k3⟩
    rw [in1_iff hm] at k1 k2 k3
    exact ⟨b, hb, ⟨(hl b hb).1, k1.1, k1.2, k2.1, k2.2⟩, k3.1, k3.2⟩
  · rintro ⟨b, hb, ⟨_, a, b', c, d⟩, e, f⟩
    refine ⟨b, hb, ?_⟩
    rw [in1_iff hm, in1_iff hm, in1_iff hm]
    exact ⟨⟨a, b'⟩, ⟨c, d⟩, e, f⟩
def iSeg : Iv := ⟨⟨0, 1, false⟩, ⟨1, 1, false⟩⟩
def iRay : Iv := ⟨⟨0, 1, false⟩, ⟨1, 0, false⟩⟩
theorem iRay_ok : IvOk iRay := ⟨by decide, by decide, by decide, by decide⟩
theorem iRay_in : IvIn iRay := ⟨by unfold BdIn; decide, by unfold BdIn; decide⟩
theorem iRay_iff (n m : Int) (hm : 0 < m) : InI iRay n m ↔ 0 < n := by
  unfold InI iRay AbvB BlwB; simp; omega
def Seg (P : Int → Int → Int → Prop) (p v : V3) : Prop := ∃ n m, 0 < m ∧ (0 < n ∧ n < m) ∧ HitAt P p v n m
def RayP (P : Int → Int → Int → Prop) (p v : V3) : Prop := ∃ n m, 0 < m ∧ 0 < n ∧ HitAt P p v n m
theorem ray_iff {l : List Bx} (hl : ∀ b ∈ l, BOk b) (p v : V3) : meetB iRay p v l = true ↔ RayP (HasB l) p v := by
  rw [meetB_iff iRay_ok]
  constructor
  · rintro ⟨n, m, hm, k, q⟩; exact ⟨n, m, hm, (iRay_iff n m hm).1 k, (in3_has hl p v hm).1 q⟩
  · rintro ⟨n, m, hm, k, q⟩; exact ⟨n, m, hm, (iRay_iff n m hm).2 k, (in3_has hl p v hm).2 q⟩
theorem HitAt.congr {P Q : Int → Int → Int → Prop} (h : ∀ x y z, P x y z ↔ Q x y z) (p v : V3) (n m : Int) : HitAt P p v n m ↔ HitAt Q p v n m := h _ _ _
theorem Seg.congr {P Q : Int → Int → Int → Prop} (h : ∀ x y z, P x y z ↔ Q x y z) (p v : V3) : Seg P p v ↔ Seg Q p v := by
  unfold Seg; simp only [HitAt.congr h]
theorem RayP.congr {P Q : Int → Int → Int → Prop} (h : ∀ x y z, P x y z ↔ Q x y z) (p v : V3) : RayP P p v ↔ RayP Q p v := by
  unfold RayP; simp only [HitAt.congr h]
end Go.Proofs.Ytdnoadngfkiabaa
namespace Go.Proofs.Ytdnoadngfkiabaa

theorem fl_eq {A B m k : Int} (hm : 0 < m) (hk : 0 < k) (h : A * k = B * m) : A / m = B / k := by
  rw [← Int.mul_ediv_mul_of_pos_left A m hk, h, Int.mul_comm m k, Int.mul_ediv_mul_of_pos_left B k hm]
theorem HitAt.same {P : Int → Int → Int → Prop} {p v q u : V3} {n m k j : Int} (hm : 0 < m) (hj : 0 < j)
    (hx : (p.x * m + n * v.x) * j = (q.x * j + k * u.x) * m) (hy : (p.y * m + n * v.y) * j = (q.y * j + k * u.y) * m) (hz : (p.z * m + n * v.z) * j = (q.z * j + k * u.z) * m) : HitAt P p v n m ↔ HitAt P q u k j := by
  unfold HitAt
  rw [fl_eq hm hj hx, fl_eq hm hj hy, fl_eq hm hj hz]
def V3.add (p q : V3) : V3 := ⟨p.x + q.x, p.y + q.y, p.z + q.z⟩
def V3.sub (q p : V3) : V3 := ⟨q.x - p.x, q.y - p.y, q.z - p.z⟩
def V3.mul (k : Int) (p : V3) : V3 := ⟨k * p.x, k * p.y, k * p.z⟩
theorem ray_or {P Q : Int → Int → Int → Prop} (p v : V3) : RayP (fun x y z => P x y z ∨ Q x y z) p v ↔ RayP P p v ∨ RayP Q p v := by
  constructor
  · rintro ⟨n, m, hm, k, h | h⟩
    · exact Or.inl ⟨n, m, hm, k, h⟩
    · exact Or.inr ⟨n, m, hm, k, h⟩
  · rintro (⟨n, m, hm, k, h⟩ | ⟨n, m, hm, k, h⟩)
    · exact ⟨n, m, hm, k, Or.inl h⟩
    · exact ⟨n, m, hm, k, Or.inr h⟩
/-! ### steps -/
/-! ### rays -/
theorem ray_mul {P : Int → Int → Int → Prop} (p d : V3) {k : Int} (hk : 1 ≤ k) : RayP P p (d.mul k) ↔ RayP P p d := by
  have hk : 0 < k := by omega
  constructor
  · rintro ⟨n, m, hm, n0, h⟩
    exact ⟨n * k, m, hm, Int.mul_pos n0 hk, (HitAt.same hm hm (by simp only [V3.mul]; grind) (by simp only [V3.mul]; grind) (by simp only [V3.mul]; grind)).1 h⟩
  · rintro ⟨n, m, hm, n0, h⟩
    have hj : 0 < m * k := Int.mul_pos hm hk
    exact ⟨n, m * k, hj, n0, (HitAt.same hm hj (by simp only [V3.mul]; grind) (by simp only [V3.mul]; grind) (by simp only [V3.mul]; grind)).1 h⟩
/-! ### moves -/
theorem hit_move {P Q : Int → Int → Int → Prop} (b : V3) (h : ∀ x y z, Q (x + b.x) (y + b.y) (z + b.z) ↔ P x y z) (p v : V3) {n m : Int} (hm : 0 < m) : HitAt Q (p.add b) v n m ↔ HitAt P p v n m := by
  unfold HitAt
  have e : ∀ a c d : Int, ((a + c) * m + n * d) / m = (a * m + n * d) / m + c := fun a c d => by
    rw [show (a + c) * m + n * d = (a * m + n * d) + c * m by grind, Int.add_mul_ediv_right _ _ (by omega)]
  simp only [V3.add, e]
  exact h _ _ _
theorem ray_move {P Q : Int → Int → Int → Prop} (b : V3) (h : ∀ x y z, Q (x + b.x) (y + b.y) (z + b.z) ↔ P x y z) (p v : V3) : RayP Q (p.add b) v ↔ RayP P p v := by
  constructor
  · rintro ⟨n, m, hm, k, q⟩; exact ⟨n, m, hm, k, (hit_move b h p v hm).1 q⟩
  · rintro ⟨n, m, hm, k, q⟩; exact ⟨n, m, hm, k, (hit_move b h p v hm).2 q⟩
/-! ### samples -/
/-! ### a ray has left the grid behind t = 2^21 -/
end Go.Proofs.Ytdnoadngfkiabaa
namespace Go.Proofs.Ytdnoadngfkiabaa

def nb (b : Bd) : Bd := ⟨b.n, b.d, !b.c⟩
structure Pr where
  lo : Bd
  hi : Bd
  no : Bool
end Go.Proofs.Ytdnoadngfkiabaa
namespace Go.Proofs.Ytdnoadngfkiabaa
open Go.RowKit

def In64 (n : Int) : Prop := -9223372036854775808 ≤ n ∧ n ≤ 9223372036854775807
def InR (r : Rc) : Prop := In64 r.X0 ∧ In64 r.Y0 ∧ In64 r.X1 ∧ In64 r.Y1
theorem bcell {W w1 : World} (hb : Below W.heap.size W w1) : (∀ b o, b < W.heap.size → w1.cell? ⟨b, o, none⟩ = W.cell? ⟨b, o, none⟩) ∧ (∀ b o, b < W.heap.size → w1.frozen? ⟨b, o, none⟩ = W.frozen? ⟨b, o, none⟩) :=
  ⟨fun b o h => hb.cell (p := ⟨b, o, none⟩) h, fun b o h => hb.frozen (p := ⟨b, o, none⟩) h⟩
theorem ret_bl {a b : Bool} (h : a = b) : Ending.returned (.bool a) = .returned (.bool b) := by rw [h]
/-- a bool, a number, a rectangle with a bool: in new memory. -/
def BlIs (b : Bool) (w : World) (e : Ending) (w' : World) : Prop := e = .returned (.bool b) ∧ Below w.heap.size w w'
def InIs (n : Int) (w : World) (e : Ending) (w' : World) : Prop := e = .returned (.int .i64 n) ∧ Below w.heap.size w w'
def RbIs (x : Rc × Bool) (w : World) (e : Ending) (w' : World) : Prop := e = .returned (.tuple #[.agg #[.int .i64 x.1.X0, .int .i64 x.1.Y0, .int .i64 x.1.X1, .int .i64 x.1.Y1], .bool x.2]) ∧ Below w.heap.size w w'
theorem RbIs.of {x : Rc × Bool} {w w' : World} {a b c d : Int} {f : Bool} (ha : a = x.1.X0) (hb : b = x.1.Y0) (hc : c = x.1.X1) (hd : d = x.1.Y1) (hf : f = x.2) (h : Below w.heap.size w w') :
    RbIs x w (.returned (.tuple #[.agg #[.int .i64 a, .int .i64 b, .int .i64 c, .int .i64 d], .bool f])) w' := by subst ha; subst hb; subst hc; subst hd; subst hf; exact ⟨rfl, h⟩
theorem InIs.of {n m : Int} {w w' : World} (h : n = m) (hb : Below w.heap.size w w') : InIs m w (.returned (.int .i64 n)) w' := by subst h; exact ⟨rfl, hb⟩

/-- block b holds the rectangle r. -/
def RcAt (w : World) (b : Nat) (r : Rc) : Prop := w.heap[b]? = some (.cells #[.int .i64 r.X0, .int .i64 r.Y0, .int .i64 r.X1, .int .i64 r.Y1] 43 (0, 0))
section
variable {w w' : World} {b : Nat} {r : Rc}
theorem RcAt.lt (h : RcAt w b r) : b < w.heap.size := (Array.getElem?_eq_some_iff.1 h).1
theorem RcAt.cell0 (h : RcAt w b r) : w.cell? ⟨b, 0, none⟩ = some (.int .i64 r.X0) := by rw [Lib.cell_of_heap h]; rfl
theorem RcAt.cell1 (h : RcAt w b r) : w.cell? ⟨b, 1, none⟩ = some (.int .i64 r.Y0) := by rw [Lib.cell_of_heap h]; rfl
theorem RcAt.cell2 (h : RcAt w b r) : w.cell? ⟨b, 2, none⟩ = some (.int .i64 r.X1) := by rw [Lib.cell_of_heap h]; rfl
theorem RcAt.cell3 (h : RcAt w b r) : w.cell? ⟨b, 3, none⟩ = some (.int .i64 r.Y1) := by rw [Lib.cell_of_heap h]; rfl
theorem RcAt.froz (h : RcAt w b r) (i : Nat) : w.frozen? ⟨b, i, none⟩ = false := Lib.frozen_of_heap h i
theorem RcAt.below {B : Nat} (h : RcAt w b r) (hg : Below B w w') (hr : b < B) : RcAt w' b r := (hg.block b hr).trans h
theorem RcAt.alloc (h : RcAt w b r) (o : Obj) : RcAt (w.alloc o) b r := h.below ((Below.refl _ _).alloc (Nat.le_refl _) o) h.lt
theorem RcAt.new (w : World) (r : Rc) (k : Nat) (h : k = w.heap.size) : RcAt (w.alloc (.cells #[.int .i64 r.X0, .int .i64 r.Y0, .int .i64 r.X1, .int .i64 r.Y1] 43)) k r := by subst h; exact heap_alloc_new w _
end
/-- a row of rectangles at an address. -/
def RRow (w : World) (A : Option Addr) (l : List Rc) : Prop := 0 < l.length → ∃ b off, A = some ⟨b, off, none⟩ ∧ b < w.heap.size ∧ ∀ j (h : j < l.length), w.cell? ⟨b, off + j * 4, none⟩ = some (.int .i64 l[j].X0) ∧ w.cell? ⟨b, off + j * 4 + 1, none⟩ = some (.int .i64 l[j].Y0) ∧ w.cell? ⟨b, off + j * 4 + 2, none⟩ = some (.int .i64 l[j].X1) ∧ w.cell? ⟨b, off + j * 4 + 3, none⟩ = some (.int .i64 l[j].Y1)
theorem RRow.below {w w' : World} {A : Option Addr} {l : List Rc} (h : RRow w A l) (hb : Below w.heap.size w w') : RRow w' A l := fun h0 => by
  obtain ⟨b, off, rfl, hl, hc⟩ := h h0
  exact ⟨b, off, rfl, Nat.lt_of_lt_of_le hl hb.size, fun j hj => ⟨(hb.cell (p := ⟨b, off + j * 4, none⟩) hl).trans (hc j hj).1, (hb.cell (p := ⟨b, off + j * 4 + 1, none⟩) hl).trans (hc j hj).2.1, (hb.cell (p := ⟨b, off + j * 4 + 2, none⟩) hl).trans (hc j hj).2.2.1, (hb.cell (p := ⟨b, off + j * 4 + 3, none⟩) hl).trans (hc j hj).2.2.2⟩⟩

theorem RcAt.c0 {w : World} {b : Nat} {p q r s : Int} (h : RcAt w b ⟨p, q, r, s⟩) : w.cell? ⟨b, 0, none⟩ = some (.int .i64 p) := h.cell0
theorem RcAt.c1 {w : World} {b : Nat} {p q r s : Int} (h : RcAt w b ⟨p, q, r, s⟩) : w.cell? ⟨b, 1, none⟩ = some (.int .i64 q) := h.cell1
theorem RcAt.c2 {w : World} {b : Nat} {p q r s : Int} (h : RcAt w b ⟨p, q, r, s⟩) : w.cell? ⟨b, 2, none⟩ = some (.int .i64 r) := h.cell2
theorem RcAt.c3 {w : World} {b : Nat} {p q r s : Int} (h : RcAt w b ⟨p, q, r, s⟩) : w.cell? ⟨b, 3, none⟩ = some (.int .i64 s) := h.cell3
/-- the rectangles at these blocks, and that nothing that was there at w0 has turned. -/
def Keep : List (Nat × Rc) → World → World → Prop
  | [], w0, w => Below w0.heap.size w0 w
  | (b, r) :: L, w0, w => RcAt w b r ∧ Keep L w0 w
theorem Keep.go : ∀ {L : List (Nat × Rc)} {w0 w w' : World}, Keep L w0 w → Below w.heap.size w w' → Keep L w0 w'
  | [], _, _, _, h, hb => Below.trans h (Below.mono hb (Below.size h))
  | (_, _) :: _, _, _, _, h, hb => ⟨h.1.below hb h.1.lt, Keep.go h.2 hb⟩
theorem Keep.below : ∀ {L : List (Nat × Rc)} {w0 w : World}, Keep L w0 w → Below w0.heap.size w0 w
  | [], _, _, h => h
  | (_, _) :: _, _, _, h => Keep.below h.2
theorem Keep.alloc {L : List (Nat × Rc)} {w0 w : World} (h : Keep L w0 w) (o : Obj) : Keep L w0 (w.alloc o) := h.go ((Below.refl _ _).alloc (Nat.le_refl _) o)
theorem Keep.drewN {L : List (Nat × Rc)} {w0 w : World} (h : Keep L w0 w) (n : Nat) : Keep L w0 (w.drewN n) := h.go (below_drewN (Below.refl _ _) n)
theorem Keep.new {L : List (Nat × Rc)} {w0 w : World} (h : Keep L w0 w) (r : Rc) : Keep ((w.heap.size, r) :: L) w0 (w.alloc (.cells #[.int .i64 r.X0, .int .i64 r.Y0, .int .i64 r.X1, .int .i64 r.Y1] 43)) := ⟨RcAt.new w r _ rfl, h.alloc _⟩
theorem Keep.nil (w : World) : Keep [] w w := Below.refl _ _

/-! ### lists of ints -/
def icells (l : List Int) : List Value := l.map (Value.int .i64)
/-- a list of ints at an address. -/
def IRow (w : World) (A : Option Addr) (l : List Int) : Prop := 0 < l.length → ∃ b off, A = some ⟨b, off, none⟩ ∧ b < w.heap.size ∧ ∀ j (h : j < l.length), w.cell? ⟨b, off + j, none⟩ = some (.int .i64 l[j])
theorem IRow.below {w w' : World} {A : Option Addr} {l : List Int} (h : IRow w A l) (hb : Below w.heap.size w w') : IRow w' A l := fun h0 => by
  obtain ⟨b, off, rfl, hl, hc⟩ := h h0
  exact ⟨b, off, rfl, Nat.lt_of_lt_of_le hl hb.size, fun j hj => (hb.cell (p := ⟨b, off + j, none⟩) hl).trans (hc j hj)⟩
theorem IRow.nil (w : World) (A : Option Addr) : IRow w A [] := fun h => absurd h (by simp)
theorem own_parts {w : World} {B e size n : Nat} {v : Value} {xs : List Value} (h : w.ownsRow B e size v n xs) :
    ∃ A cap, v = .slice A n cap ∧ (0 < n → ∃ g, A = some ⟨g, 0, none⟩ ∧ g < w.heap.size ∧ ∀ j, j < n * size → w.cell? ⟨g, j, none⟩ = xs[j]?) := by
  obtain ⟨hl, hv⟩ := h
  rcases hv with ⟨rfl, rfl⟩ | ⟨g, cap, cur, rfl, hB, hg, h2⟩
  · exact ⟨none, 0, rfl, fun h => absurd h (Nat.lt_irrefl _)⟩
  · refine ⟨_, cap, rfl, fun _ => ⟨g, rfl, ?_, fun j hj => ?_⟩⟩
    · rcases Nat.lt_or_ge g w.heap.size with hlt | hge
      · exact hlt
      · rw [Array.getElem?_eq_none hge] at hg; cases hg
    · exact World.ownsRow.cellAt ⟨hl, .inr ⟨g, cap, cur, rfl, hB, hg, h2⟩⟩ j hj
end Go.Proofs.Ytdnoadngfkiabaa
namespace Go.Proofs.Ytdnoadngfkiabaa
open Go.RowKit

/-- the first k of two lists are equal. -/
theorem take_eq_step {α : Type} {l m : List α} {k : Nat} (h1 : k < l.length) (h2 : k < m.length) (h : l.take k = m.take k) (e : l[k] = m[k]) : l.take (k + 1) = m.take (k + 1) := by
  rw [List.take_succ_eq_append_getElem h1, List.take_succ_eq_append_getElem h2, h, e]
instance (l m : List Int) : Decidable (l = m) := inferInstance
theorem rc_parts {u v : Rc} : u = v ∨ (u ≠ v ∧ ((u.X0 == v.X0) = false ∨ (u.X0 = v.X0 ∧ (u.Y0 == v.Y0) = false) ∨ (u.X0 = v.X0 ∧ u.Y0 = v.Y0 ∧ (u.X1 == v.X1) = false) ∨ (u.X0 = v.X0 ∧ u.Y0 = v.Y0 ∧ u.X1 = v.X1 ∧ (u.Y1 == v.Y1) = false))) := by
  by_cases e : u = v
  · exact Or.inl e
  · refine Or.inr ⟨e, ?_⟩
    by_cases c0 : u.X0 = v.X0
    · by_cases c1 : u.Y0 = v.Y0
      · by_cases c2 : u.X1 = v.X1
        · by_cases c3 : u.Y1 = v.Y1
          · exact absurd (Rc.eq c0 c1 c2 c3) e
          · exact Or.inr (Or.inr (Or.inr ⟨c0, c1, c2, by simp [c3]⟩))
        · exact Or.inr (Or.inr (Or.inl ⟨c0, c1, by simp [c2]⟩))
      · exact Or.inr (Or.inl ⟨c0, by simp [c1]⟩)
    · exact Or.inl (by simp [c0])
end Go.Proofs.Ytdnoadngfkiabaa
