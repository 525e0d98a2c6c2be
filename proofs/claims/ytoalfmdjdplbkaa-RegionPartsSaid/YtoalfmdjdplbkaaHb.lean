/-
  Plain mathematics of regions (layer 6): what the counts of the sides say of the cells, and the program's loop over the slabs. No program in this text.
-/
import Derived.Test.YtoalfmdjdplbkaaHa
set_option linter.unusedVariables false
namespace Go.Proofs.Ytoalfmdjdplbkaa

def edgesOf (k : Nat) (l : List Rc) : List Ed := l.flatMap fun r => [⟨r.X0, r.X1, r.Y0, k, 1⟩, ⟨r.X0, r.X1, r.Y1, k, -1⟩]
def edgesFrom : Nat → List (List Rc) → List Ed
  | _, [] => []
  | k, l :: t => edgesOf k l ++ edgesFrom (k + 1) t
/-- how many rectangles of a list have a cell. -/
def covN (l : List Rc) (x y : Int) : Int := ((l.filter fun r => decide (HasR r x y)).length : Int)
theorem covN_cons (r : Rc) (l : List Rc) (x y : Int) : covN (r :: l) x y = (if HasR r x y then 1 else 0) + covN l x y := by
  unfold covN
  rw [List.filter_cons]
  by_cases h : HasR r x y
  · simp [h]; omega
  · simp [h]
theorem covN_pos (l : List Rc) (x y : Int) : 0 < covN l x y ↔ HasL l x y := by
  unfold covN HasL
  constructor
  · intro h
    have : (l.filter fun r => decide (HasR r x y)) ≠ [] := by intro e; rw [e] at h; simp at h
    obtain ⟨r, hr⟩ := List.exists_mem_of_ne_nil _ this
    rw [List.mem_filter] at hr
    exact ⟨r, hr.1, by simpa using hr.2⟩
  · rintro ⟨r, hr, h⟩
    have : r ∈ l.filter fun r => decide (HasR r x y) := List.mem_filter.2 ⟨hr, by simpa using h⟩
    have := List.length_pos_of_mem this
    omega
theorem covN_nn (l : List Rc) (x y : Int) : 0 ≤ covN l x y := by unfold covN; omega
/-- no side lies between a and b. -/
def GapAB (a b : Int) (l : List Rc) : Prop := ∀ r ∈ l, (r.X0 ≤ a ∨ b ≤ r.X0) ∧ (r.X1 ≤ a ∨ b ≤ r.X1)
theorem upTo_append (y : Int) (E F : List Ed) : upTo y (E ++ F) = upTo y E ++ upTo y F := by unfold upTo; rw [List.filter_append]
theorem edges_cons (k : Nat) (r : Rc) (l : List Rc) : edgesOf k (r :: l) = [⟨r.X0, r.X1, r.Y0, k, 1⟩, ⟨r.X0, r.X1, r.Y1, k, -1⟩] ++ edgesOf k l := rfl
theorem edges_snoc (k : Nat) (r : Rc) (l : List Rc) : edgesOf k (l ++ [r]) = edgesOf k l ++ [⟨r.X0, r.X1, r.Y0, k, 1⟩, ⟨r.X0, r.X1, r.Y1, k, -1⟩] := by simp [edgesOf]
theorem edges_len (k : Nat) (l : List Rc) : (edgesOf k l).length = 2 * l.length := by
  induction l with
  | nil => rfl
  | cons r l ih => rw [edges_cons, List.length_append, ih]; simp; omega
theorem edges_list {k : Nat} {l : List Rc} {e : Ed} (h : e ∈ edgesOf k l) : e.l = k ∧ ∃ r ∈ l, (e.y = r.Y0 ∨ e.y = r.Y1) ∧ e.x0 = r.X0 ∧ e.x1 = r.X1 ∧ (e.s = 1 ∨ e.s = -1) := by
  obtain ⟨r, hr, he⟩ := List.mem_flatMap.1 h
  simp at he
  rcases he with rfl | rfl
  · exact ⟨rfl, r, hr, Or.inl rfl, rfl, rfl, Or.inl rfl⟩
  · exact ⟨rfl, r, hr, Or.inr rfl, rfl, rfl, Or.inr rfl⟩
theorem sum_list {a b : Int} (hab : a < b) (k : Nat) {l : List Rc} (hl : ∀ r ∈ l, ROk r) (hg : GapAB a b l) (y : Int) : sumE (ctE a b k) (upTo y (edgesOf k l)) = covN l a y := by
  induction l with
  | nil => rfl
  | cons r l ih =>
    rw [edges_cons, upTo_append, sumE_append, ih (fun q hq => hl q (List.mem_cons_of_mem _ hq)) (fun q hq => hg q (List.mem_cons_of_mem _ hq)), covN_cons]
    have hr := hl r List.mem_cons_self
    have h1 := hr.1; have h2 := hr.2
    obtain ⟨g1, g2⟩ := hg r List.mem_cons_self
    unfold Span at h1 h2
    have e : sumE (ctE a b k) (upTo y [⟨r.X0, r.X1, r.Y0, k, 1⟩, ⟨r.X0, r.X1, r.Y1, k, -1⟩]) = if HasR r a y then 1 else 0 := by
      by_cases c1 : r.Y0 ≤ y
      · by_cases c2 : r.Y1 ≤ y
        · have hn : ¬ HasR r a y := fun h => by have := h.2; omega
          rw [if_neg hn]
          simp only [upTo, List.filter_cons, c1, c2, decide_true, if_true, List.filter_nil, sumE, ctE]
          split <;> simp
        · simp only [upTo, List.filter_cons, c1, c2, decide_true, decide_false, if_true, List.filter_nil, sumE, ctE]
          by_cases c3 : r.X0 ≤ a ∧ b ≤ r.X1
          · have hn : HasR r a y := ⟨hr, by omega, by omega, by omega, by omega⟩
            simp [hn, c3, sumE]
          · have hn : ¬ HasR r a y := fun h => by obtain ⟨_, q1, q2, q3, q4⟩ := h; omega
            simp [hn, c3, sumE]
      · have hn : ¬ HasR r a y := fun h => by have := h.2; omega
        have c2 : ¬ r.Y1 ≤ y := by omega
        rw [if_neg hn]
        simp [upTo, c1, c2, sumE]
    rw [e]
theorem sum_other {a b : Int} {k k' : Nat} (h : k ≠ k') (l : List Rc) (y : Int) : sumE (ctE a b k) (upTo y (edgesOf k' l)) = 0 :=
  sumE_zero (fun e he => by
    have := (edges_list (List.mem_filter.1 he).1).1
    unfold ctE
    rw [if_neg]; rintro ⟨_, q⟩; exact h (by rw [← q, this]))
theorem sum_later {a b : Int} {k : Nat} : ∀ (LL : List (List Rc)) {k' : Nat}, k < k' → ∀ y, sumE (ctE a b k) (upTo y (edgesFrom k' LL)) = 0 := by
  intro LL
  induction LL with
  | nil => intro k' _ y; rfl
  | cons l LL ih => intro k' h y; rw [edgesFrom, upTo_append, sumE_append, sum_other (by omega), ih (by omega)]; rfl
theorem sum_from {a b : Int} (hab : a < b) : ∀ (LL : List (List Rc)) (k : Nat), (∀ l ∈ LL, ∀ r ∈ l, ROk r) → (∀ l ∈ LL, GapAB a b l) → ∀ (j : Nat) (h : j < LL.length) (y : Int),
    sumE (ctE a b (k + j)) (upTo y (edgesFrom k LL)) = covN LL[j] a y := by
  intro LL
  induction LL with
  | nil => intro k _ _ j h; simp at h
  | cons l LL ih =>
    intro k h1 h2 j h y
    rw [edgesFrom, upTo_append, sumE_append]
    cases j with
    | zero =>
      rw [Nat.add_zero, sum_list hab k (h1 l List.mem_cons_self) (h2 l List.mem_cons_self), sum_later LL (by omega)]
      simp
    | succ j =>
      rw [sum_other (by omega), show k + (j + 1) = k + 1 + j by omega, ih (k + 1) (fun m hm => h1 m (List.mem_cons_of_mem _ hm)) (fun m hm => h2 m (List.mem_cons_of_mem _ hm)) j (by simpa using h) y]
      simp
/-- what is kept: what the counts of the lists say. -/
def keptB (kp : List Int → Bool) (LL : List (List Rc)) (x y : Int) : Bool := kp (LL.map fun l => covN l x y)
theorem tells {kp : List Int → Bool} {LL : List (List Rc)} {a b : Int} (hab : a < b) (hl : ∀ l ∈ LL, ∀ r ∈ l, ROk r) (hg : ∀ l ∈ LL, GapAB a b l) {E : List Ed} (hE : (edgesFrom 0 LL).Perm E) : TellsK (keptB kp LL a) kp a b LL.length E := by
  intro y
  unfold keptB
  congr 1
  apply List.ext_getElem
  · simp [cntsE]
  · intro j h1 h2
    have hj : j < LL.length := by simpa using h1
    rw [cntsE_at _ _ _ _ _ hj, List.getElem_map]
    have := sum_from hab LL 0 hl hg j hj y
    rw [Nat.zero_add] at this
    rw [← this]
    exact sumE_perm (hE.filter _) _
theorem sum_all (a b : Int) (k : Nat) {E F : List Ed} (h : E.Perm F) (hz : sumE (ctE a b k) E = 0) : sumE (ctE a b k) F = 0 := by rw [← sumE_perm h]; exact hz
theorem sum_whole (a b : Int) (k k' : Nat) (l : List Rc) : sumE (ctE a b k) (edgesOf k' l) = 0 := by
  induction l with
  | nil => rfl
  | cons r l ih =>
    rw [edges_cons, sumE_append, ih]
    simp only [sumE, ctE]
    split <;> simp
theorem sum_wholes (a b : Int) (k : Nat) : ∀ (LL : List (List Rc)) (k' : Nat), sumE (ctE a b k) (edgesFrom k' LL) = 0 := by
  intro LL
  induction LL with
  | nil => intro _; rfl
  | cons l LL ih => intro k'; rw [edgesFrom, sumE_append, sum_whole, ih]; rfl
theorem from_grid : ∀ {LL : List (List Rc)} {k : Nat} {e : Ed}, (∀ l ∈ LL, ∀ r ∈ l, ROk r) → e ∈ edgesFrom k LL → (0 ≤ e.y ∧ e.y ≤ 1048576) ∧ (k ≤ e.l ∧ e.l < k + LL.length) ∧ (0 ≤ e.x0 ∧ e.x0 ≤ 1048576) ∧ (0 ≤ e.x1 ∧ e.x1 ≤ 1048576) ∧ (e.s = 1 ∨ e.s = -1) := by
  intro LL
  induction LL with
  | nil => intro k e _ h; cases h
  | cons l LL ih =>
    intro k e hl h
    rcases List.mem_append.1 h with h | h
    · obtain ⟨h1, r, hr, h2, h3, h4, h5⟩ := edges_list h
      have hr := hl l List.mem_cons_self r hr
      have q1 := hr.1; have q2 := hr.2
      unfold Span at q1 q2
      simp only [List.length_cons]
      refine ⟨by omega, by omega, by omega, by omega, h5⟩
    · obtain ⟨h1, h2, h3⟩ := ih (fun m hm => hl m (List.mem_cons_of_mem _ hm)) h
      simp only [List.length_cons]
      exact ⟨h1, by omega, h3⟩

/-! ### the loop over the slabs -/
structure FmAt (K : Int → Int → Bool) (S : List Int) (i : Nat) (T : List Slab) : Prop where
  grown : ∀ h : i < S.length, Grown T S[i]
  has : ∀ (h : i < S.length) x y, x < S[i] → (HasS T x y ↔ K x y = true)
def SortN (S : List Int) : Prop := ∀ i j (hi : i < S.length) (hj : j < S.length), i ≤ j → S[i] ≤ S[j]
/-- the cells lie between sides; between neighbouring sides all columns are one. -/
structure SidesOf (K : Int → Int → Bool) (S : List Int) : Prop where
  srt : SortN S
  gr : InG S
  out : ∀ x y, K x y = true → (∃ h : 0 < S.length, S[0] ≤ x) ∧ ∃ h : 0 < S.length, x < S[S.length - 1]
  flat : ∀ i (h : i + 1 < S.length) x y, S[i] ≤ x → x < S[i + 1] → K x y = K S[i] y
theorem FmAt.start {K : Int → Int → Bool} {S : List Int} (hS : SidesOf K S) : FmAt K S 0 [] :=
  ⟨fun _ => ⟨trivial, fun s hs => by cases hs⟩, fun h x y hx => ⟨fun ⟨s, hs, _⟩ => (by cases hs), fun hk => by obtain ⟨⟨_, h1⟩, _⟩ := hS.out x y hk; omega⟩⟩
theorem FmAt.skip {K : Int → Int → Bool} {S : List Int} {i : Nat} {T : List Slab} (h : FmAt K S i T) (hi : i + 1 < S.length) (e : S[i] = S[i + 1]) : FmAt K S (i + 1) T :=
  ⟨fun _ => by rw [← e]; exact h.grown (by omega), fun _ x y hx => h.has (by omega) x y (by rw [e]; exact hx)⟩
theorem FmAt.step {K : Int → Int → Bool} {S : List Int} {i : Nat} {T : List Slab} (h : FmAt K S i T) (hS : SidesOf K S) (hi : i + 1 < S.length) (hne : S[i] ≠ S[i + 1]) {c : List Int} (hc : ColOk c) (hin : ∀ y, inT c y = K S[i] y) : FmAt K S (i + 1) (stepF T S[i] S[i + 1] c) := by
  have hle := hS.srt i (i + 1) (by omega) hi (by omega)
  have hab : Span S[i] S[i + 1] := ⟨(hS.gr _ (List.getElem_mem (by omega))).1, by omega, (hS.gr _ (List.getElem_mem hi)).2⟩
  obtain ⟨h1, h2⟩ := step_is (h.grown (by omega)) hab hc
  refine ⟨fun _ => h1, fun _ x y hx => ?_⟩
  rw [h2 x y]
  by_cases c1 : x < S[i]
  · rw [h.has (by omega) x y c1]
    exact ⟨fun q => by rcases q with q | q; exact q; omega, Or.inl⟩
  · rw [hS.flat i hi x y (by omega) hx, ← hin y]
    constructor
    · rintro (⟨s, hs, q1, q2, q3⟩ | q)
      · have := (h.grown (by omega)).to s hs; omega
      · exact q.2.2
    · intro q; exact Or.inr ⟨by omega, hx, q⟩
theorem FmAt.done {K : Int → Int → Bool} {S : List Int} {T : List Slab} (h : FmAt K S (S.length - 1) T) (hS : SidesOf K S) (h0 : 0 < S.length) : SlabsOk T ∧ ∀ x y, HasS T x y ↔ K x y = true := by
  have hg := h.grown (by omega)
  refine ⟨hg.ok, fun x y => ?_⟩
  by_cases c : x < S[S.length - 1]
  · exact h.has (by omega) x y c
  · constructor
    · rintro ⟨s, hs, q1, q2, q3⟩; have := hg.to s hs; omega
    · intro q; obtain ⟨_, _, q2⟩ := hS.out x y q; omega
theorem step_len (T : List Slab) (a b : Int) (c : List Int) : (flatS T).length ≤ (flatS (stepF T a b c)).length := by
  unfold stepF
  split
  · exact Nat.le_refl _
  · rcases List.eq_nil_or_concat T with rfl | ⟨U, s, rfl⟩
    · simp [flatS]
    · rw [List.concat_eq_append]
      have hl : (U ++ [s]).getLast? = some s := by simp
      rw [hl]
      simp only []
      split
      · next h =>
        rw [List.dropLast_concat]
        simp [flatS, rectsOf, h.2]
      · simp [flatS]
/-- later slabs take no rectangles away. -/
theorem FmAt.le {K : Int → Int → Bool} {S : List Int} (hS : SidesOf K S) (hcol : ∀ i (h : i + 1 < S.length), ∃ c, ColOk c ∧ ∀ y, inT c y = K S[i] y) {F : List Rc} (hF : IsForm F) (hK : ∀ x y, HasL F x y ↔ K x y = true) :
    ∀ (n i : Nat) (T : List Slab), i + n + 1 = S.length → FmAt K S i T → (flatS T).length ≤ F.length := by
  intro n
  induction n with
  | zero =>
    intro i T hi h
    obtain rfl : i = S.length - 1 := by omega
    obtain ⟨h1, h2⟩ := h.done hS (by omega)
    rw [form_eq (l := flatS T) (m := F) ⟨T, h1, rfl⟩ hF (fun x y => by rw [flat_has h1, h2, hK])]
    exact Nat.le_refl _
  | succ n ih =>
    intro i T hi h
    by_cases e : S[i]'(by omega) = S[i + 1]'(by omega)
    · exact ih (i + 1) T (by omega) (h.skip (by omega) e)
    · obtain ⟨c, hc, hin⟩ := hcol i (by omega)
      exact Nat.le_trans (step_len T S[i] S[i + 1] c) (ih (i + 1) _ (by omega) (h.step hS (by omega) e hc hin))
end Go.Proofs.Ytoalfmdjdplbkaa
