/-
  Plain mathematics of regions (layer 6): the program's way to a column: the counts along the sorted lower and upper sides of the rectangles. No program in this text.
  Plain mathematics of regions (layer 6): what the counts of the sides say of the cells, and the program's loop over the slabs. No program in this text.
  Plain mathematics of regions (layer 6): the program's way to tell that a list is a form, and to add a slab at its end. No program in this text.
  Plain mathematics of regions (layer 6): the sorted sides of some lists, and what is kept between them. No program in this text.
  Plain mathematics of regions (layer 6): how many rectangles the form of n rectangles has at most: n * n. No program in this text.
-/
import Derived.Test.YtdnoadngfkiabaaU00
set_option linter.unusedVariables false
namespace Go.Proofs.Ytdnoadngfkiabaa

structure Ed where
  x0 : Int
  x1 : Int
  y : Int
  l : Nat
  s : Int
/-- what a side counts for list k between a and b. -/
def ctE (a b : Int) (k : Nat) (e : Ed) : Int := if (e.x0 ≤ a ∧ b ≤ e.x1) ∧ e.l = k then e.s else 0
def sumE (f : Ed → Int) : List Ed → Int
  | [] => 0
  | e :: E => f e + sumE f E
/-- the counts of m lists. -/
def cntsE (a b : Int) (m : Nat) (E : List Ed) : List Int := (List.range m).map fun k => sumE (ctE a b k) E
def upTo (y : Int) (E : List Ed) : List Ed := E.filter fun e => decide (e.y ≤ y)
def SortE (E : List Ed) : Prop := ∀ i j (hi : i < E.length) (hj : j < E.length), i ≤ j → E[i].y ≤ E[j].y
theorem upTo_take {E : List Ed} (hs : SortE E) {i : Nat} (hi : i < E.length) {y : Int} (h1 : E[i].y ≤ y) (h2 : ∀ h : i + 1 < E.length, y < E[i + 1].y) : upTo y E = E.take (i + 1) := by
  unfold upTo
  conv => lhs; rw [← List.take_append_drop (i + 1) E]
  rw [List.filter_append, List.filter_eq_self.2, List.filter_eq_nil_iff.2, List.append_nil]
  · intro e he
    obtain ⟨j, hj, rfl⟩ := List.mem_iff_getElem.1 he
    simp only [List.length_drop] at hj
    rw [List.getElem_drop]
    have := hs (i + 1) (i + 1 + j) (by omega) (by omega) (by omega)
    have := h2 (by omega)
    simp only [decide_eq_true_eq]; omega
  · intro e he
    obtain ⟨j, hj, rfl⟩ := List.mem_iff_getElem.1 he
    simp only [List.length_take] at hj
    rw [List.getElem_take]
    have := hs j i (by omega) hi (by omega)
    simp only [decide_eq_true_eq]; omega
theorem upTo_none {E : List Ed} (hs : SortE E) {y : Int} (h : ∀ h : 0 < E.length, y < E[0].y) : upTo y E = [] := by
  unfold upTo
  rw [List.filter_eq_nil_iff]
  intro e he
  obtain ⟨j, hj, rfl⟩ := List.mem_iff_getElem.1 he
  have := hs 0 j (by omega) hj (by omega)
  have := h (by omega)
  simp only [decide_eq_true_eq]; omega
theorem upTo_all {E : List Ed} {y : Int} (h : ∀ e ∈ E, e.y ≤ y) : upTo y E = E := by
  unfold upTo
  rw [List.filter_eq_self]
  intro e he; simpa using h e he
theorem Asc.snoc {T : List Int} (h : Asc T) {z : Int} (hz : ∀ x ∈ T, x < z) : Asc (T ++ [z]) := by
  induction T with
  | nil => trivial
  | cons a T ih =>
    rw [List.cons_append]
    refine Asc.cons (ih h.tail (fun x hx => hz x (List.mem_cons_of_mem _ hx))) (fun x hx => ?_)
    rcases List.mem_append.1 hx with hx | hx
    · exact h.lt x hx
    · rw [List.mem_singleton] at hx; subst hx; exact hz a List.mem_cons_self
theorem inT_all {T : List Int} {y : Int} (h : ∀ x ∈ T, x ≤ y) : inT T y = odd T := by unfold inT odd; rw [cntT_all h]
theorem inT_snoc_lt {T : List Int} {y z : Int} (h : y < z) : inT (T ++ [z]) y = inT T y := by
  unfold inT cntT
  rw [List.filter_append]
  simp [show ¬ z ≤ y by omega]
theorem odd_snoc (T : List Int) (z : Int) : odd (T ++ [z]) = !odd T := by
  unfold odd
  rw [List.length_append, List.length_singleton, Bool.eq_iff_iff]
  simp only [beq_iff_eq, Bool.not_eq_true', beq_eq_false_iff_ne, ne_eq]; omega

/-- the column, as far as the first i sides tell it. -/
structure ColAt (K : Int → Bool) (E : List Ed) (i : Nat) (kept : Bool) (T : List Int) : Prop where
  asc : Asc T
  par : odd T = kept
  low : ∀ (h : i < E.length), ∀ z ∈ T, z < E[i].y
  inn : ∀ y, (∀ (h : i < E.length), y < E[i].y) → inT T y = K y
  gr : ∀ z ∈ T, ∃ e ∈ E, z = e.y
  len : T.length ≤ i
/-- what is kept at y is told by the counts of the sides up to y. -/
def TellsK (K : Int → Bool) (kp : List Int → Bool) (a b : Int) (m : Nat) (E : List Ed) : Prop := ∀ y, K y = kp (cntsE a b m (upTo y E))
def ZeroK (kp : List Int → Bool) (m : Nat) : Prop := kp (List.replicate m 0) = false
theorem cnts_nil (a b : Int) (m : Nat) : cntsE a b m [] = List.replicate m 0 := by
  apply List.ext_getElem
  · simp [cntsE]
  · intro k h1 h2; simp [cntsE, sumE]
theorem ColAt.start {K : Int → Bool} {kp : List Int → Bool} {a b : Int} {m : Nat} {E : List Ed} (hK : TellsK K kp a b m E) (h0 : ZeroK kp m) (hs : SortE E) : ColAt K E 0 false [] :=
  ⟨trivial, rfl, fun _ z hz => (by cases hz), fun y hy => by rw [hK y, upTo_none hs hy, cnts_nil, h0]; rfl, fun z hz => (by cases hz), Nat.le_refl _⟩
theorem ColAt.skip {K : Int → Bool} {E : List Ed} {i : Nat} {kept : Bool} {T : List Int} (h : ColAt K E i kept T) (hi : i + 1 < E.length) (he : E[i + 1].y = E[i].y) : ColAt K E (i + 1) kept T :=
  ⟨h.asc, h.par, fun _ z hz => by rw [he]; exact h.low (by omega) z hz, fun y hy => h.inn y (fun h' => by have := hy hi; rw [he] at this; exact this), h.gr, by have := h.len; omega⟩
section
variable {K : Int → Bool} {kp : List Int → Bool} {a b : Int} {m : Nat} {E : List Ed} {i : Nat} {kept : Bool} {T : List Int}
theorem ColAt.here (hK : TellsK K kp a b m E) (hs : SortE E) (hi : i < E.length) {y : Int} (h1 : E[i].y ≤ y) (h2 : ∀ h : i + 1 < E.length, y < E[i + 1].y) : K y = kp (cntsE a b m (E.take (i + 1))) := by
  rw [hK y, upTo_take hs hi h1 h2]
theorem ColAt.turn (h : ColAt K E i kept T) (hK : TellsK K kp a b m E) (hs : SortE E) (hi : i < E.length) (hn : ∀ h : i + 1 < E.length, E[i + 1].y ≠ E[i].y) {is : Bool} (he : kp (cntsE a b m (E.take (i + 1))) = is) (hne : is ≠ kept) : ColAt K E (i + 1) is (T ++ [E[i].y]) := by
  refine ⟨h.asc.snoc (h.low hi), ?_, fun h' z hz => ?_, fun y hy => ?_, fun z hz => ?_, by have := h.len; simp; omega⟩
  · rw [odd_snoc, h.par]; cases is <;> cases kept <;> simp at hne ⊢
  · have h3 := hs i (i + 1) hi h' (by omega)
    have h4 := hn h'
    rcases List.mem_append.1 hz with hz | hz
    · have := h.low hi z hz; omega
    · rw [List.mem_singleton] at hz; omega
  · by_cases c : y < E[i].y
    · rw [inT_snoc_lt c]; exact h.inn y (fun _ => c)
    · rw [ColAt.here hK hs hi (by omega) hy, he, inT_all (fun z hz => ?_), odd_snoc, h.par]
      · cases is <;> cases kept <;> simp at hne ⊢
      · rcases List.mem_append.1 hz with hz | hz
        · have := h.low hi z hz; omega
        · rw [List.mem_singleton] at hz; omega
  · rcases List.mem_append.1 hz with hz | hz
    · exact h.gr z hz
    · rw [List.mem_singleton] at hz; exact ⟨_, List.getElem_mem hi, hz⟩
/-- all sides told: the column. -/
theorem ColAt.done (h : ColAt K E E.length kept T) (hK : TellsK K kp a b m E) (h0 : ZeroK kp m) (hz : ∀ k, sumE (ctE a b k) E = 0) (hg : ∀ e ∈ E, 0 ≤ e.y ∧ e.y ≤ 1048576) : ColOk T ∧ ∀ y, inT T y = K y := by
  have hin : ∀ y, inT T y = K y := fun y => h.inn y (fun h' => absurd h' (Nat.lt_irrefl _))
  have hT : InG T := fun z hz => by obtain ⟨e, he, rfl⟩ := h.gr z hz; exact hg e he
  refine ⟨⟨h.asc, ?_, hT⟩, hin⟩
  rw [← odd_even, ← inT_all (y := 1048576) (fun z hz => (hT z hz).2), hin, hK, upTo_all (fun e he => (hg e he).2)]
  have : cntsE a b m E = List.replicate m 0 := by
    apply List.ext_getElem
    · simp [cntsE]
    · intro k h1 h2; simp [cntsE, hz]
  rw [this]; exact h0
end

/-! ### rectangles while a column is being told -/
end Go.Proofs.Ytdnoadngfkiabaa
namespace Go.Proofs.Ytdnoadngfkiabaa

/-! ### the loop over the slabs -/
structure FmAt (K : Int → Int → Bool) (S : List Int) (i : Nat) (T : List Slab) : Prop where
  grown : ∀ h : i < S.length, Grown T S[i]
  has : ∀ (h : i < S.length) x y, x < S[i] → (HasS T x y ↔ K x y = true)
def SortN (S : List Int) : Prop := ∀ i j (hi : i < S.length) (hj : j < S.length), i ≤ j → S[i] ≤ S[j]
/-- the cells lie between sides; between neighbouring sides all columns are one. -/
structure SidesOf (K : Int → Int → Bool) (S : List Int) : Prop where
  srt : SortN S
  gr : InG S
  out : ∀ x y, K x y = true → (∃ h : 0 < S.length, S[0] ≤ x) ∧ ∃ h : 0 < S.length, x < S[S.length - 1]
  flat : ∀ i (h : i + 1 < S.length) x y, S[i] ≤ x → x < S[i + 1] → K x y = K S[i] y
theorem FmAt.start {K : Int → Int → Bool} {S : List Int} (hS : SidesOf K S) : FmAt K S 0 [] :=
  ⟨fun _ => ⟨trivial, fun s hs => by cases hs⟩, fun h x y hx => ⟨fun ⟨s, hs, _⟩ => (by cases hs), fun hk => by obtain ⟨⟨_, h1⟩, _⟩ := hS.out x y hk; omega⟩⟩
theorem FmAt.skip {K : Int → Int → Bool} {S : List Int} {i : Nat} {T : List Slab} (h : FmAt K S i T) (hi : i + 1 < S.length) (e : S[i] = S[i + 1]) : FmAt K S (i + 1) T :=
  ⟨fun _ => by rw [← e]; exact h.grown (by omega), fun _ x y hx => h.has (by omega) x y (by rw [e]; exact hx)⟩
theorem FmAt.step {K : Int → Int → Bool} {S : List Int} {i : Nat} {T : List Slab} (h : FmAt K S i T) (hS : SidesOf K S) (hi : i + 1 < S.length) (hne : S[i] ≠ S[i + 1]) {c : List Int} (hc : ColOk c) (hin : ∀ y, inT c y = K S[i] y) : FmAt K S (i + 1) (stepF T S[i] S[i + 1] c) := by
  have hle := hS.srt i (i + 1) (by omega) hi (by omega)
  have hab : Span S[i] S[i + 1] := ⟨(hS.gr _ (List.getElem_mem (by omega))).1, by omega, (hS.gr _ (List.getElem_mem hi)).2⟩
  obtain ⟨h1, h2⟩ := step_is (h.grown (by omega)) hab hc
  refine ⟨fun _ => h1, fun _ x y hx => ?_⟩
  rw [h2 x y]
  by_cases c1 : x < S[i]
  · rw [h.has (by omega) x y c1]
    exact ⟨fun q => by rcases q with q | q; exact q; omega, Or.inl⟩
  · rw [hS.flat i hi x y (by omega) hx, ← hin y]
    constructor
    · rintro (⟨s, hs, q1, q2, q3⟩ | q)
      · have := (h.grown (by omega)).to s hs; omega
      · exact q.2.2
    · intro q; exact Or.inr ⟨by omega, hx, q⟩
theorem FmAt.done {K : Int → Int → Bool} {S : List Int} {T : List Slab} (h : FmAt K S (S.length - 1) T) (hS : SidesOf K S) (h0 : 0 < S.length) : SlabsOk T ∧ ∀ x y, HasS T x y ↔ K x y = true := by
  have hg := h.grown (by omega)
  refine ⟨hg.ok, fun x y => ?_⟩
  by_cases c : x < S[S.length - 1]
  · exact h.has (by omega) x y c
  · constructor
    · rintro ⟨s, hs, q1, q2, q3⟩; have := hg.to s hs; omega
    · intro q; obtain ⟨_, _, q2⟩ := hS.out x y q; omega
theorem step_len (T : List Slab) (a b : Int) (c : List Int) : (flatS T).length ≤ (flatS (stepF T a b c)).length := by
  unfold stepF
  split
  · exact Nat.le_refl _
  · rcases List.eq_nil_or_concat T with rfl | ⟨U, s, rfl⟩
    · simp [flatS]
    · rw [List.concat_eq_append]
      have hl : (U ++ [s]).getLast? = some s := by simp
      rw [hl]
      simp only []
      split
      · next h =>
        rw [List.dropLast_concat]
        simp [flatS, rectsOf, h.2]
      · simp [flatS]
/-- later slabs take no rectangles away. -/
theorem FmAt.le {K : Int → Int → Bool} {S : List Int} (hS : SidesOf K S) (hcol : ∀ i (h : i + 1 < S.length), ∃ c, ColOk c ∧ ∀ y, inT c y = K S[i] y) {F : List Rc} (hF : IsForm F) (hK : ∀ x y, HasL F x y ↔ K x y = true) :
    ∀ (n i : Nat) (T : List Slab), i + n + 1 = S.length → FmAt K S i T → (flatS T).length ≤ F.length := by
  intro n
  induction n with
  | zero =>
    intro i T hi h
    obtain rfl : i = S.length - 1 := by omega
    obtain ⟨h1, h2⟩ := h.done hS (by omega)
    rw [form_eq (l := flatS T) (m := F) ⟨T, h1, rfl⟩ hF (fun x y => by rw [flat_has h1, h2, hK])]
    exact Nat.le_refl _
  | succ n ih =>
    intro i T hi h
    by_cases e : S[i]'(by omega) = S[i + 1]'(by omega)
    · exact ih (i + 1) T (by omega) (h.skip (by omega) e)
    · obtain ⟨c, hc, hin⟩ := hcol i (by omega)
      exact Nat.le_trans (step_len T S[i] S[i + 1] c) (ih (i + 1) _ (by omega) (h.step hS (by omega) e hc hin))
end Go.Proofs.Ytdnoadngfkiabaa
namespace Go.Proofs.Ytdnoadngfkiabaa

/-- the rectangles at the beginning that lie between the same x. -/
structure FirstAt (l : List Rc) (n : Nat) : Prop where
  pos : 0 < n
  le : n ≤ l.length
  same : ∀ j (h : j < l.length), j < n → l[j].X0 = (l[0]'(by omega)).X0 ∧ l[j].X1 = (l[0]'(by omega)).X1
  stop : ∀ h : n < l.length, ¬ (l[n].X0 = (l[0]'(by omega)).X0 ∧ l[n].X1 = (l[0]'(by omega)).X1)
/-- the same interval of y. -/
def yyB (a b : Rc) : Bool := decide (a.Y0 = b.Y0 ∧ a.Y1 = b.Y1)
/-- two lists have the same intervals of y. -/
def yysB : List Rc → List Rc → Bool
  | [], [] => true
  | a :: l, b :: m => yyB a b && yysB l m
  | _, _ => false
/-- two slabs that are not empty are one. -/
def contB (l m : List Rc) (a b : Int) : Bool := decide (a = b) && yysB l m
/-- valid rectangles with ascending intervals of y that don't meet. -/
def IsColP (l : List Rc) : Prop := ∀ j (h : j < l.length), ROk l[j] ∧ ∀ h0 : 0 < j, l[j - 1].Y1 < l[j].Y0
theorem IsColP.tail {a : Rc} {l : List Rc} (h : IsColP (a :: l)) : IsColP l := fun j hj => by
  obtain ⟨h1, h2⟩ := h (j + 1) (by simpa using hj)
  refine ⟨by simpa using h1, fun h0 => ?_⟩
  obtain ⟨j, rfl⟩ : ∃ i, j = i + 1 := ⟨j - 1, by omega⟩
  have := h2 (by omega)
  simpa using this
def tog (l : List Rc) : List Int := l.flatMap fun r => [r.Y0, r.Y1]
theorem tog_cons (r : Rc) (l : List Rc) : tog (r :: l) = r.Y0 :: r.Y1 :: tog l := rfl
theorem tog_even (l : List Rc) : Even (tog l) := by
  induction l with
  | nil => unfold Even; rfl
  | cons r l ih => rw [tog_cons]; unfold Even at *; simp; omega
theorem tog_ok {l : List Rc} (h : IsColP l) : ColOk (tog l) := by
  refine ⟨?_, tog_even l, ?_⟩
  · induction l with
    | nil => trivial
    | cons r l ih =>
      rw [tog_cons]
      have hr := (h 0 (by simp)).1
      have ht := ih h.tail
      cases l with
      | nil => exact ⟨hr.2.2.1, trivial⟩
      | cons q l =>
        have := (h 1 (by simp)).2 (by omega)
        simp only [List.getElem_cons_succ, List.getElem_cons_zero, Nat.sub_self] at this
        rw [tog_cons] at ht ⊢
        exact ⟨hr.2.2.1, this, ht⟩
  · intro z hz
    obtain ⟨r, hr, hz⟩ := List.mem_flatMap.1 hz
    obtain ⟨j, hj, rfl⟩ := List.mem_iff_getElem.1 hr
    have := (h j hj).1.2
    unfold Span at this
    simp at hz; rcases hz with rfl | rfl <;> omega
theorem tog_rects (x0 x1 : Int) : ∀ t, Even t → tog (rectsOf x0 x1 t) = t := by
  intro t he
  refine even_ind (P := fun t => tog (rectsOf x0 x1 t) = t) rfl (fun a b t _ ih => ?_) t he
  show a :: b :: tog (rectsOf x0 x1 t) = _
  rw [ih]
theorem rects_tog {x0 x1 : Int} {l : List Rc} (h : ∀ r ∈ l, r.X0 = x0 ∧ r.X1 = x1) : rectsOf x0 x1 (tog l) = l := by
  induction l with
  | nil => rfl
  | cons r l ih =>
    rw [tog_cons]
    show (⟨x0, r.Y0, x1, r.Y1⟩ : Rc) :: rectsOf x0 x1 (tog l) = _
    rw [ih (fun q hq => h q (List.mem_cons_of_mem _ hq))]
    obtain ⟨h1, h2⟩ := h r List.mem_cons_self
    congr 1
    exact Rc.eq h1.symm rfl h2.symm rfl
theorem rects_x {x0 x1 : Int} {t : List Int} {r : Rc} (h : r ∈ rectsOf x0 x1 t) : r.X0 = x0 ∧ r.X1 = x1 := by
  unfold rectsOf at h
  obtain ⟨p, _, rfl⟩ := List.mem_map.1 h
  exact ⟨rfl, rfl⟩
theorem rects_ne {x0 x1 : Int} {t : List Int} (he : Even t) (hne : t ≠ []) : 0 < (rectsOf x0 x1 t).length := by
  match t with
  | [] => exact absurd rfl hne
  | [a] => exact absurd he (by unfold Even; simp)
  | a :: b :: t => simp [rectsOf, twos]
theorem first_y {x0 x1 b : Int} : ∀ {t : List Int}, Asc (b :: t) → ∀ h : 0 < (rectsOf x0 x1 t).length, b < ((rectsOf x0 x1 t)[0]).Y0 := by
  intro t ha h
  match t with
  | [] => simp [rectsOf, twos] at h
  | [c] => simp [rectsOf, twos] at h
  | c :: d :: t => exact ha.1
theorem tog_len (l : List Rc) : (tog l).length = 2 * l.length := by
  induction l with
  | nil => rfl
  | cons r l ih => rw [tog_cons]; simp [ih]; omega
theorem rects_col {x0 x1 : Int} (hx : Span x0 x1) : ∀ t, Even t → Asc t → InG t → IsColP (rectsOf x0 x1 t) := by
  intro t he
  refine even_ind (P := fun t => Asc t → InG t → IsColP (rectsOf x0 x1 t)) (fun _ _ j h => by simp [rectsOf, twos] at h) (fun a b t he ih ha hg => ?_) t he
  have e : rectsOf x0 x1 (a :: b :: t) = ⟨x0, a, x1, b⟩ :: rectsOf x0 x1 t := rfl
  have hga := hg a List.mem_cons_self
  have hgb := hg b (List.mem_cons_of_mem _ List.mem_cons_self)
  have ih := ih ha.2.tail (fun z hz => hg z (List.mem_cons_of_mem _ (List.mem_cons_of_mem _ hz)))
  intro j hj
  simp only [e] at hj ⊢
  cases j with
  | zero => exact ⟨⟨hx, hga.1, ha.1, hgb.2⟩, fun h => absurd h (Nat.lt_irrefl _)⟩
  | succ j =>
    obtain ⟨k1, k2⟩ := ih j (by simpa using hj)
    refine ⟨by simpa using k1, fun _ => ?_⟩
    cases j with
    | zero =>
      simp only [List.getElem_cons_succ, List.getElem_cons_zero, Nat.add_sub_cancel]
      exact first_y ha.2 _
    | succ j =>
      have := k2 (by omega)
      simpa using this
theorem yys_tog : ∀ {l m : List Rc}, yysB l m = true ↔ tog l = tog m := by
  intro l
  induction l with
  | nil => intro m; cases m with
    | nil => simp [yysB]
    | cons b m => simp [yysB, tog]
  | cons a l ih =>
    intro m
    cases m with
    | nil => simp [yysB, tog]
    | cons b m => rw [tog_cons, tog_cons]; simp [yysB, yyB, ih, and_assoc]
theorem yys_rects {a b c d : Int} {s t : List Int} (hs : Even s) (ht : Even t) : yysB (rectsOf a b s) (rectsOf c d t) = true ↔ s = t := by
  rw [yys_tog, tog_rects _ _ _ hs, tog_rects _ _ _ ht]

/-! ### the first slab -/
theorem flat_cons (t : Slab) (T : List Slab) : flatS (t :: T) = rectsOf t.x0 t.x1 t.t ++ flatS T := by simp [flatS]
theorem flat_append (S T : List Slab) : flatS (S ++ T) = flatS S ++ flatS T := by simp [flatS]
theorem first_slab {t : Slab} {T : List Slab} (h : SlabsOk (t :: T)) {n : Nat} (hn : FirstAt (flatS (t :: T)) n) : n = (rectsOf t.x0 t.x1 t.t).length := by
  have k := h.head
  have hp := rects_ne (x0 := t.x0) (x1 := t.x1) k.ev k.ne
  obtain ⟨h1, h2, h3, h4⟩ := hn
  have e0 : ((flatS (t :: T))[0]'(by rw [flat_cons, List.length_append]; omega)).X0 = t.x0 := by
    simp only [flat_cons]
    rw [List.getElem_append_left hp]
    exact (rects_x (List.getElem_mem hp)).1
  have e1 : ((flatS (t :: T))[0]'(by rw [flat_cons, List.length_append]; omega)).X1 = t.x1 := by
    simp only [flat_cons]
    rw [List.getElem_append_left hp]
    exact (rects_x (List.getElem_mem hp)).2
  rcases Nat.lt_trichotomy n (rectsOf t.x0 t.x1 t.t).length with c | c | c
  · exfalso
    refine h4 (by rw [flat_cons, List.length_append]; omega) ⟨?_, ?_⟩
    · rw [e0]; simp only [flat_cons]; rw [List.getElem_append_left c]; exact (rects_x (List.getElem_mem c)).1
    · rw [e1]; simp only [flat_cons]; rw [List.getElem_append_left c]; exact (rects_x (List.getElem_mem c)).2
  · exact c
  · exfalso
    have hlen : (rectsOf t.x0 t.x1 t.t).length < (flatS (t :: T)).length := by omega
    have := (h3 _ hlen c).1
    rw [e0] at this
    simp only [flat_cons] at this hlen
    rw [List.getElem_append_right (Nat.le_refl _)] at this
    rw [List.length_append] at hlen
    have hm : (flatS T)[(rectsOf t.x0 t.x1 t.t).length - (rectsOf t.x0 t.x1 t.t).length]'(by omega) ∈ flatS T := List.getElem_mem _
    obtain ⟨u, hu, hr⟩ := List.mem_flatMap.1 hm
    have g1 := (rects_x hr).1
    have g2 := h.after u hu
    have g3 := k.x.2.1
    rw [g1] at this
    omega

theorem SlabsOk.right : ∀ {S T : List Slab}, SlabsOk (S ++ T) → SlabsOk T := by
  intro S
  induction S with
  | nil => intro T h; exact h
  | cons s S ih => intro T h; exact ih h.tail
theorem SlabsOk.before : ∀ {T : List Slab} {s : Slab}, SlabsOk (T ++ [s]) → ∀ u ∈ T, u.x1 ≤ s.x0 := by
  intro T
  induction T with
  | nil => intro s _ u hu; cases hu
  | cons v T ih =>
    intro s h u hu
    rcases List.mem_cons.1 hu with rfl | hu
    · exact h.after s (by simp)
    · exact ih h.tail u hu
/-! ### telling a form -/
structure RightAt (a : List Rc) (k : Nat) (L : List Rc) : Prop where
  le : k ≤ a.length
  ex : ∃ S, SlabsOk S ∧ a.take k = flatS S ∧ (∀ T, SlabsOk T → a = flatS T → ∃ T', T = S ++ T') ∧ ((S = [] ∧ L = []) ∨ ∃ S' s, S = S' ++ [s] ∧ L = rectsOf s.x0 s.x1 s.t)
theorem RightAt.start (a : List Rc) : RightAt a 0 [] := ⟨Nat.zero_le _, [], trivial, rfl, fun T _ _ => ⟨T, rfl⟩, Or.inl ⟨rfl, rfl⟩⟩
theorem RightAt.done {a L : List Rc} (h : RightAt a a.length L) : IsForm a := by
  obtain ⟨S, h1, h2, _⟩ := h.ex
  exact ⟨S, h1, by rw [← h2, List.take_length]⟩
/-- what a form has next. -/
theorem RightAt.form {a L : List Rc} {k n : Nat} (h : RightAt a k L) (hk : k < a.length) (hn : FirstAt (a.drop k) n) (hf : IsForm a) :
    ∃ t, SlabOk t ∧ (a.drop k).take n = rectsOf t.x0 t.x1 t.t ∧ ∀ s : Slab, SlabOk s → L = rectsOf s.x0 s.x1 s.t → s.x1 ≤ t.x0 ∧ (s.x1 = t.x0 → s.t ≠ t.t) := by
  obtain ⟨S, h1, h2, h3, h4⟩ := h.ex
  obtain ⟨T, hT, rfl⟩ := hf
  obtain ⟨T', rfl⟩ := h3 T hT rfl
  rw [flat_append] at *
  have hl : k = (flatS S).length := by
    have := congrArg List.length h2
    rw [List.length_take, List.length_append] at this
    rw [List.length_append] at hk
    omega
  subst hl
  rw [List.drop_left] at *
  cases T' with
  | nil => simp [flatS] at hk
  | cons t T' =>
    have hT2 : SlabsOk (t :: T') := hT.right
    have e := first_slab hT2 hn
    refine ⟨t, hT2.head, by rw [e, flat_cons, List.take_left], fun s hs hL => ?_⟩
    rcases h4 with ⟨rfl, hL2⟩ | ⟨S', s', rfl, hL2⟩
    · rw [hL2] at hL
      have := rects_ne (x0 := s.x0) (x1 := s.x1) hs.ev hs.ne
      rw [← hL] at this; simp at this
    · have hs' : SlabOk s' := h1.each s' (by simp)
      have hb : Behind s' t := by
        clear h2 h3 hn hk h h1 hL hL2 e
        induction S' with
        | nil => exact hT.2.1
        | cons u S' ih => exact ih hT.tail
      have e1 : s'.t = s.t := by
        have := congrArg tog (hL2.symm.trans hL)
        rw [tog_rects _ _ _ hs'.ev, tog_rects _ _ _ hs.ev] at this
        exact this
      have e2 : s'.x1 = s.x1 := by
        have hp := rects_ne (x0 := s'.x0) (x1 := s'.x1) hs'.ev hs'.ne
        rw [← hL2] at hp
        obtain ⟨r, hr⟩ : ∃ r, r ∈ L := ⟨L[0], List.getElem_mem hp⟩
        have a1 := hr
        rw [hL2] at a1
        rw [hL] at hr
        rw [← (rects_x a1).2]; exact (rects_x hr).2
      rw [← e1, ← e2]
      exact hb
/-- the next slab fits. -/
theorem RightAt.step {a L : List Rc} {k n : Nat} (h : RightAt a k L) (hn : FirstAt (a.drop k) n) (hk : k < a.length) (hc : IsColP ((a.drop k).take n))
    (hb : ∀ (h1 : 0 < L.length) (h2 : 0 < ((a.drop k).take n).length), L[0].X1 ≤ ((a.drop k).take n)[0].X0 ∧ contB L ((a.drop k).take n) L[0].X1 ((a.drop k).take n)[0].X0 = false) : RightAt a (k + n) ((a.drop k).take n) := by
  obtain ⟨S, h1, h2, h3, h4⟩ := h.ex
  obtain ⟨n1, n2, n3, n4⟩ := hn
  rw [List.length_drop] at n2
  generalize hR : (a.drop k).take n = R at *
  have hRl : R.length = n := by rw [← hR, List.length_take, List.length_drop]; omega
  have h0 : 0 < R.length := by omega
  have hx : ∀ r ∈ R, r.X0 = R[0].X0 ∧ r.X1 = R[0].X1 := fun r hr => by
    obtain ⟨j, hj, rfl⟩ := List.mem_iff_getElem.1 hr
    have q := n3 j (by rw [List.length_drop]; omega) (by omega)
    have e1 : R[j] = (a.drop k)[j]'(by rw [List.length_drop]; omega) := by simp only [← hR, List.getElem_take]
    have e2 : R[0] = (a.drop k)[0]'(by rw [List.length_drop]; omega) := by simp only [← hR, List.getElem_take]
    rw [e1, e2]; exact q
  have hrt : rectsOf R[0].X0 R[0].X1 (tog R) = R := rects_tog hx
  have hok := tog_ok hc
  have hu : SlabOk ⟨R[0].X0, R[0].X1, tog R⟩ := by
    refine ⟨(hc 0 h0).1.1, fun e => ?_, hok.asc, hok.ev, hok.gr⟩
    have e' : tog R = [] := e
    have := tog_len R
    rw [e'] at this
    simp at this; omega
  refine ⟨by have := h.le; omega, S ++ [⟨R[0].X0, R[0].X1, tog R⟩], ?_, ?_, fun T hT e => ?_, Or.inr ⟨S, _, rfl, hrt.symm⟩⟩
  · refine h1.snoc hu (fun s hs => ?_)
    rcases h4 with ⟨rfl, _⟩ | ⟨S', s', rfl, hL⟩
    · simp at hs
    · simp at hs
      subst hs
      have hs' : SlabOk s' := h1.each s' (by simp)
      have hp := rects_ne (x0 := s'.x0) (x1 := s'.x1) hs'.ev hs'.ne
      rw [← hL] at hp
      obtain ⟨q1, q2⟩ := hb hp h0
      have e1 : L[0].X1 = s'.x1 := by
        have m : L[0] ∈ rectsOf s'.x0 s'.x1 s'.t := by rw [← hL]; exact List.getElem_mem hp
        exact (rects_x m).2
      rw [e1] at q1 q2
      refine ⟨q1, fun q3 q4 => ?_⟩
      have : contB L R s'.x1 R[0].X0 = true := by
        unfold contB
        rw [decide_eq_true q3, Bool.true_and, hL, yys_tog, tog_rects _ _ _ hs'.ev]
        exact q4
      rw [this] at q2; cases q2
  · rw [List.take_add, h2, hR, flat_append]
    congr 1
    rw [flat_cons]; simp only []; rw [hrt]; simp [flatS]
  · obtain ⟨T', rfl⟩ := h3 T hT e
    have hl : k = (flatS S).length := by
      have := congrArg List.length h2
      rw [List.length_take] at this; omega
    have hd : a.drop k = flatS T' := by rw [e, flat_append, hl, List.drop_left]
    cases T' with
    | nil => exfalso; have := congrArg List.length hd; rw [List.length_drop] at this; simp [flatS] at this; omega
    | cons t T' =>
      have hT2 : SlabsOk (t :: T') := hT.right
      have hn' : FirstAt (flatS (t :: T')) n := by rw [← hd]; exact ⟨n1, by rw [List.length_drop]; exact n2, n3, n4⟩
      have en := first_slab hT2 hn'
      have eR : R = rectsOf t.x0 t.x1 t.t := by rw [← hR, hd, en, flat_cons, List.take_left]
      have ht := hT2.head
      have m : R[0] ∈ rectsOf t.x0 t.x1 t.t := by rw [← eR]; exact List.getElem_mem h0
      have g1 := rects_x m
      refine ⟨T', ?_⟩
      rw [List.append_assoc]
      congr 1
      show t :: T' = _ :: T'
      congr 1
      cases t with
      | mk p0 p1 pt =>
        simp only at g1 eR ht
        rw [Slab.mk.injEq]
        exact ⟨g1.1.symm, g1.2.symm, by rw [eR, tog_rects _ _ _ ht.ev]⟩
/-! ### adding a slab at the end -/
end Go.Proofs.Ytdnoadngfkiabaa
namespace Go.Proofs.Ytdnoadngfkiabaa

end Go.Proofs.Ytdnoadngfkiabaa
namespace Go.Proofs.Ytdnoadngfkiabaa

theorem if_len {c : Prop} [Decidable c] (x : Int) (L : List Int) : (if c then x :: L else L).length ≤ L.length + 1 := by split <;> simp
theorem combGo_lenI (op : Bool → Bool → Bool) : ∀ (n : Nat) (a b : List Int) (pa pb was : Bool), a.length + b.length ≤ n → (combGo op a b pa pb was).length ≤ a.length + b.length := by
  intro n
  induction n with
  | zero =>
    intro a b pa pb was h
    rw [List.length_eq_zero_iff.1 (by omega : a.length = 0), List.length_eq_zero_iff.1 (by omega : b.length = 0)]
    unfold combGo; simp
  | succ n ih =>
    intro a b pa pb was h
    match a, b with
    | [], [] => unfold combGo; simp
    | x :: a, [] =>
      unfold combGo
      simp only [List.length_cons, List.length_nil] at h ⊢
      have := ih a [] (!pa) pb (op (!pa) pb) (by simp; omega)
      simp only [List.length_nil] at this
      exact Nat.le_trans (if_len _ _) (by omega)
    | [], y :: b =>
      unfold combGo
      simp only [List.length_cons, List.length_nil] at h ⊢
      have := ih [] b pa (!pb) (op pa (!pb)) (by simp; omega)
      simp only [List.length_nil] at this
      exact Nat.le_trans (if_len _ _) (by omega)
    | x :: a, y :: b =>
      unfold combGo
      simp only [List.length_cons] at h ⊢
      split
      · have := ih a (y :: b) (!pa) pb (op (!pa) pb) (by simp; omega)
        simp only [List.length_cons] at this
        exact Nat.le_trans (if_len _ _) (by omega)
      · split
        · have := ih (x :: a) b pa (!pb) (op pa (!pb)) (by simp; omega)
          simp only [List.length_cons] at this
          exact Nat.le_trans (if_len _ _) (by omega)
        · have := ih a b (!pa) (!pb) (op (!pa) (!pb)) (by omega)
          exact Nat.le_trans (if_len _ _) (by omega)
theorem comb_lenI (op : Bool → Bool → Bool) (a b : List Int) : (comb op a b).length ≤ a.length + b.length := combGo_lenI op _ a b _ _ _ (Nat.le_refl _)
/-- how many rectangles reach over x. -/
def covX (l : List Rc) (x : Int) : Nat := (l.filter fun r => decide (r.X0 ≤ x ∧ x < r.X1)).length
theorem covX_cons (r : Rc) (l : List Rc) (x : Int) : covX (r :: l) x = (if r.X0 ≤ x ∧ x < r.X1 then 1 else 0) + covX l x := by
  unfold covX
  rw [List.filter_cons]
  by_cases h : r.X0 ≤ x ∧ x < r.X1
  · simp [h]; omega
  · simp [h]
theorem colS_lenI (l : List Rc) (x : Int) : (colS l x).length ≤ 2 * covX l x := by
  induction l with
  | nil => simp [colS]
  | cons r l ih =>
    rw [covX_cons]
    unfold colS
    split
    · have := comb_lenI or [r.Y0, r.Y1] (colS l x)
      simp only [List.length_cons, List.length_nil] at this
      omega
    · omega
/-- the sides, each once. -/
def edL : List Rc → List Int
  | [] => []
  | r :: l => (if r.X0 ∈ edL l then [] else [r.X0]) ++ ((if r.X1 ∈ edL l then [] else [r.X1]) ++ edL l)
def sumZ (f : Int → Nat) : List Int → Nat
  | [] => 0
  | e :: E => f e + sumZ f E
theorem sumZ_append (f : Int → Nat) (E F : List Int) : sumZ f (E ++ F) = sumZ f E + sumZ f F := by
  induction E with
  | nil => simp [sumZ]
  | cons e E ih => show f e + sumZ f (E ++ F) = (f e + sumZ f E) + sumZ f F; rw [ih]; omega
theorem sumZ_perm {E F : List Int} (h : E.Perm F) (f : Int → Nat) : sumZ f E = sumZ f F := by
  induction h with
  | nil => rfl
  | cons e _ ih => show f e + _ = f e + _; rw [ih]
  | swap e g E => show f g + (f e + _) = f e + (f g + _); omega
  | trans _ _ h1 h2 => rw [h1, h2]
theorem sumZ_add (f g : Int → Nat) (E : List Int) : sumZ (fun e => f e + g e) E = sumZ f E + sumZ g E := by
  induction E with
  | nil => rfl
  | cons e E ih => show f e + g e + sumZ _ E = (f e + sumZ f E) + (g e + sumZ g E); rw [ih]; omega
theorem sumZ_le {f g : Int → Nat} (h : ∀ e, f e ≤ g e) (E : List Int) : sumZ f E ≤ sumZ g E := by
  induction E with
  | nil => exact Nat.le_refl _
  | cons e E ih => have := h e; show f e + sumZ f E ≤ g e + sumZ g E; omega
def insX (r : Rc) (x : Int) : Nat := if r.X0 ≤ x ∧ x < r.X1 then 1 else 0
/-- what another rectangle adds to the sum. -/
def addL (r : Rc) : List Rc → Nat
  | [] => 0
  | q :: l => insX r q.X0 + insX r q.X1 + addL r l
theorem ed_ins (r : Rc) (l : List Rc) : sumZ (insX r) (edL l) ≤ addL r l := by
  induction l with
  | nil => exact Nat.le_refl _
  | cons q l ih =>
    unfold edL addL
    rw [sumZ_append, sumZ_append]
    split <;> split <;> simp only [sumZ] <;> omega
theorem ed_mem {l : List Rc} {q : Rc} (h : q ∈ l) : q.X0 ∈ edL l ∧ q.X1 ∈ edL l := by
  induction l with
  | nil => cases h
  | cons r l ih =>
    unfold edL
    rcases List.mem_cons.1 h with rfl | h
    · refine ⟨?_, ?_⟩
      · by_cases c : q.X0 ∈ edL l
        · exact List.mem_append_right _ (List.mem_append_right _ c)
        · rw [if_neg c]; exact List.mem_append_left _ (List.mem_singleton.2 rfl)
      · by_cases c : q.X1 ∈ edL l
        · exact List.mem_append_right _ (List.mem_append_right _ c)
        · rw [if_neg c]; exact List.mem_append_right _ (List.mem_append_left _ (List.mem_singleton.2 rfl))
    · obtain ⟨a, b⟩ := ih h
      exact ⟨List.mem_append_right _ (List.mem_append_right _ a), List.mem_append_right _ (List.mem_append_right _ b)⟩
theorem pair_two (r : Rc) (hr : r.X0 < r.X1) (b0 b1 : Bool) : ∀ l : List Rc, (∀ q ∈ l, q.X0 < q.X1) → (b0 = true → ∀ q ∈ l, r.X0 ≠ q.X0 ∧ r.X0 ≠ q.X1) → (b1 = true → ∀ q ∈ l, r.X1 ≠ q.X0 ∧ r.X1 ≠ q.X1) →
    addL r l + (if b0 = true then covX l r.X0 else 0) + (if b1 = true then covX l r.X1 else 0) ≤ 2 * l.length := by
  intro l
  induction l with
  | nil => intro _ _ _; simp [addL, covX]
  | cons q l ih =>
    intro h1 h2 h3
    have ih := ih (fun p hp => h1 p (List.mem_cons_of_mem _ hp)) (fun e p hp => h2 e p (List.mem_cons_of_mem _ hp)) (fun e p hp => h3 e p (List.mem_cons_of_mem _ hp))
    have hq := h1 q List.mem_cons_self
    rw [covX_cons, covX_cons]
    unfold addL insX
    rw [List.length_cons]
    cases b0 <;> cases b1 <;> simp only [if_true, if_false, Bool.false_eq_true] at ih ⊢
    · split <;> split <;> omega
    · obtain ⟨k1, k2⟩ := h3 rfl q List.mem_cons_self
      split <;> split <;> split <;> omega
    · obtain ⟨k1, k2⟩ := h2 rfl q List.mem_cons_self
      split <;> split <;> split <;> omega
    · obtain ⟨k1, k2⟩ := h3 rfl q List.mem_cons_self
      obtain ⟨k3, k4⟩ := h2 rfl q List.mem_cons_self
      split <;> split <;> split <;> split <;> omega
theorem sum_sq : ∀ l : List Rc, (∀ q ∈ l, q.X0 < q.X1) → sumZ (covX l) (edL l) ≤ l.length * l.length := by
  intro l
  induction l with
  | nil => intro _; exact Nat.le_refl _
  | cons r l ih =>
    intro h
    have ih := ih (fun q hq => h q (List.mem_cons_of_mem _ hq))
    have hr := h r List.mem_cons_self
    have hp := pair_two r hr (decide (r.X0 ∉ edL l)) (decide (r.X1 ∉ edL l)) l (fun q hq => h q (List.mem_cons_of_mem _ hq))
      (fun e q hq => by
        have hn := of_decide_eq_true e
        obtain ⟨a, b⟩ := ed_mem hq
        exact ⟨fun c => hn (by rw [c]; exact a), fun c => hn (by rw [c]; exact b)⟩)
      (fun e q hq => by
        have hn := of_decide_eq_true e
        obtain ⟨a, b⟩ := ed_mem hq
        exact ⟨fun c => hn (by rw [c]; exact a), fun c => hn (by rw [c]; exact b)⟩)
    have hi := ed_ins r l
    have e : sumZ (covX (r :: l)) (edL l) = sumZ (insX r) (edL l) + sumZ (covX l) (edL l) := by
      rw [← sumZ_add]
      congr 1
      funext x
      rw [covX_cons]; rfl
    have c0 : covX (r :: l) r.X0 = 1 + covX l r.X0 := by rw [covX_cons, if_pos ⟨Int.le_refl _, hr⟩]
    have c1 : covX (r :: l) r.X1 = covX l r.X1 := by rw [covX_cons, if_neg (by omega)]; omega
    have key : sumZ (covX (r :: l)) (edL (r :: l)) ≤ (if decide (r.X0 ∉ edL l) = true then 1 + covX l r.X0 else 0) + (if decide (r.X1 ∉ edL l) = true then covX l r.X1 else 0) + (sumZ (insX r) (edL l) + sumZ (covX l) (edL l)) := by
      rw [← e]
      show sumZ _ ((if r.X0 ∈ edL l then [] else [r.X0]) ++ ((if r.X1 ∈ edL l then [] else [r.X1]) ++ edL l)) ≤ _
      rw [sumZ_append, sumZ_append]
      by_cases d0 : r.X0 ∈ edL l <;> by_cases d1 : r.X1 ∈ edL l <;> simp [d0, d1, sumZ, c0, c1] <;> omega
    rw [List.length_cons]
    have sq : (l.length + 1) * (l.length + 1) = l.length * l.length + 2 * l.length + 1 := by
      rw [Nat.add_mul, Nat.mul_add]; omega
    rw [sq]
    by_cases d0 : r.X0 ∈ edL l <;> by_cases d1 : r.X1 ∈ edL l <;> simp only [d0, d1, not_true_eq_false, not_false_eq_true, decide_true, decide_false, if_true, if_false, Bool.false_eq_true] at key hp <;> omega
theorem twos_half : ∀ t : List Int, (twos t).length * 2 ≤ t.length := by
  intro t
  match t with
  | [] => simp [twos]
  | [x] => simp [twos]
  | x :: y :: t =>
    have := twos_half t
    simp only [twos, List.length_cons]; omega
theorem step_up (T : List Slab) (a b : Int) (c : List Int) : (flatS (stepF T a b c)).length * 2 ≤ (flatS T).length * 2 + c.length := by
  have hc := twos_half c
  have e : ∀ x y : Int, (rectsOf x y c).length = (twos c).length := fun x y => by simp [rectsOf]
  unfold stepF
  split
  · omega
  · rcases List.eq_nil_or_concat T with rfl | ⟨U, s, rfl⟩
    · simp [flatS, e]; omega
    · rw [List.concat_eq_append]
      have hl : (U ++ [s]).getLast? = some s := by simp
      rw [hl]
      simp only []
      split
      · next h =>
        rw [List.dropLast_concat]
        simp [flatS, rectsOf, h.2]
      · simp [flatS, e]; omega
theorem grow_up (c : Int → List Int) : ∀ (E : List Int) (T : List Slab), (flatS (growF c T E)).length * 2 ≤ (flatS T).length * 2 + sumZ (fun e => (c e).length) E := by
  intro E
  induction E with
  | nil => intro T; unfold growF; simp [sumZ]
  | cons a E ih =>
    intro T
    cases E with
    | nil => unfold growF; simp [sumZ]
    | cons b E =>
      have h1 := ih (stepF T a b (c a))
      have h2 := step_up T a b (c a)
      have e : growF c T (a :: b :: E) = growF c (stepF T a b (c a)) (b :: E) := rfl
      have e2 : sumZ (fun e => (c e).length) (a :: b :: E) = (c a).length + sumZ (fun e => (c e).length) (b :: E) := rfl
      rw [e, e2]
      omega
theorem asc_nodup : ∀ {t : List Int}, Asc t → t.Nodup := by
  intro t
  induction t with
  | nil => intro _; exact List.nodup_nil
  | cons a t ih =>
    intro h
    refine List.nodup_cons.2 ⟨fun hm => ?_, ih h.tail⟩
    have := h.lt a hm
    omega
theorem ed_nodup (l : List Rc) (h : ∀ q ∈ l, q.X0 < q.X1) : (edL l).Nodup := by
  induction l with
  | nil => exact List.nodup_nil
  | cons r l ih =>
    have ih := ih (fun q hq => h q (List.mem_cons_of_mem _ hq))
    have hr := h r List.mem_cons_self
    unfold edL
    by_cases d0 : r.X0 ∈ edL l <;> by_cases d1 : r.X1 ∈ edL l <;> simp only [d0, d1, if_true, if_false, List.nil_append, List.singleton_append] <;> (try exact ih)
    · exact List.nodup_cons.2 ⟨d1, ih⟩
    · exact List.nodup_cons.2 ⟨d0, ih⟩
    · refine List.nodup_cons.2 ⟨fun hm => ?_, List.nodup_cons.2 ⟨d1, ih⟩⟩
      rcases List.mem_cons.1 hm with e | hm
      · omega
      · exact d0 hm
theorem ed_sides (l : List Rc) (z : Int) : z ∈ edL l ↔ z ∈ sides l := by
  constructor
  · intro h
    induction l with
    | nil => cases h
    | cons r l ih =>
      have e : sides (r :: l) = r.X0 :: r.X1 :: sides l := rfl
      rw [e]
      unfold edL at h
      rcases List.mem_append.1 h with h | h
      · split at h
        · cases h
        · rw [List.mem_singleton] at h; subst h; exact List.mem_cons_self
      · rcases List.mem_append.1 h with h | h
        · split at h
          · cases h
          · rw [List.mem_singleton] at h; subst h; exact List.mem_cons_of_mem _ List.mem_cons_self
        · exact List.mem_cons_of_mem _ (List.mem_cons_of_mem _ (ih h))
  · intro h
    obtain ⟨r, hr, hz⟩ := List.mem_flatMap.1 h
    obtain ⟨a, b⟩ := ed_mem hr
    simp at hz
    rcases hz with rfl | rfl
    · exact a
    · exact b
/-- the form of n rectangles has at most n * n. -/
theorem form_sq {l : List Rc} (hl : ∀ r ∈ l, ROk r) : (formL l).length ≤ l.length * l.length := by
  have hx : ∀ q ∈ l, q.X0 < q.X1 := fun q hq => (hl q hq).1.2.1
  have h1 := grow_up (fun x => comb or (colS l x) (colS [] x)) (sortS (sides l ++ sides [])) []
  have e0 : sides l ++ sides [] = sides l := by simp [sides]
  obtain ⟨s1, s2⟩ := sortS_is (sides l ++ sides [])
  have hp : (sortS (sides l ++ sides [])).Perm (edL l) := (List.perm_ext_iff_of_nodup (asc_nodup s1) (ed_nodup l hx)).2 (fun z => by rw [s2, e0, ed_sides])
  have h2 : sumZ (fun e => (comb or (colS l e) (colS [] e)).length) (sortS (sides l ++ sides [])) ≤ sumZ (fun e => covX l e + covX l e) (sortS (sides l ++ sides [])) := sumZ_le (fun e => by
    have := comb_lenI or (colS l e) (colS [] e)
    have h3 := colS_lenI l e
    have h4 : (colS [] e).length = 0 := rfl
    omega) _
  rw [sumZ_add, sumZ_perm hp (covX l)] at h2
  have h3 := sum_sq l hx
  have h4 : (flatS []).length = 0 := rfl
  show (flatS (growF _ _ _)).length ≤ _
  rw [h4] at h1
  omega
end Go.Proofs.Ytdnoadngfkiabaa
