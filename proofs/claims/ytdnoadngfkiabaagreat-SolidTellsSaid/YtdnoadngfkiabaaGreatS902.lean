/-
  Contracts of the program's layer 6 (4): slices of rectangles that the call made; the rows that column works on.
  Plain mathematics of regions (layer 6): the program's way to a column: the counts along the sorted lower and upper sides of the rectangles. No program in this text.
  Plain mathematics of regions (layer 6): what the counts of the sides say of the cells, and the program's loop over the slabs. No program in this text.
  Plain mathematics of regions (layer 6): the program's way to tell that a list is a form, and to add a slab at its end. No program in this text.
  Plain mathematics of regions (layer 6): the sorted sides of some lists, and what is kept between them. No program in this text.
-/
import Derived.Test.YtdnoadngfkiabaaGreatS901
import Derived.Laws.AppendOwn
import Derived.Test.YtdnoadngfkiabaaGreatS900
set_option linter.unusedVariables false
set_option maxRecDepth 100000
namespace Go.Proofs.YtdnoadngfkiabaaGreat
open Go.RowKit

theorem RRow.some {w : World} {b o : Nat} {l : List Rc} (h : RRow w (Option.some ⟨b, o, none⟩) l) : 0 < l.length → b < w.heap.size ∧ ∀ j (h : j < l.length), w.cell? ⟨b, o + j * 4, none⟩ = some (.int .i64 l[j].X0) ∧ w.cell? ⟨b, o + j * 4 + 1, none⟩ = some (.int .i64 l[j].Y0) ∧ w.cell? ⟨b, o + j * 4 + 2, none⟩ = some (.int .i64 l[j].X1) ∧ w.cell? ⟨b, o + j * 4 + 3, none⟩ = some (.int .i64 l[j].Y1) := fun h0 => by
  obtain ⟨b', o', e, hb, hc⟩ := h h0
  simp only [Option.some.injEq, Addr.mk.injEq, and_true] at e
  obtain ⟨rfl, rfl⟩ := e
  exact ⟨hb, hc⟩
theorem RRow.take {w : World} {A : Option Addr} {l : List Rc} (h : RRow w A l) (n : Nat) : RRow w A (l.take n) := fun h0 => by
  rw [List.length_take] at h0
  obtain ⟨b, o, rfl, hb, hc⟩ := h (by omega)
  exact ⟨b, o, rfl, hb, fun j hj => by rw [List.length_take] at hj; simpa using hc j (by omega)⟩
theorem RRow.drop {w : World} {b o : Nat} {l : List Rc} (h : RRow w (Option.some ⟨b, o, none⟩) l) (n : Nat) : RRow w (Option.some ⟨b, o + n * 4, none⟩) (l.drop n) := fun h0 => by
  rw [List.length_drop] at h0
  obtain ⟨hb, hc⟩ := h.some (by omega)
  refine ⟨b, o + n * 4, rfl, hb, fun j hj => ?_⟩
  rw [List.length_drop] at hj
  have := hc (n + j) (by omega)
  rw [List.getElem_drop, show o + n * 4 + j * 4 = o + (n + j) * 4 by omega]
  exact this
theorem RRow.nil (w : World) (A : Option Addr) : RRow w A [] := fun h => absurd h (by simp)
theorem infoRect : (Tryz.prog.info? 33).map (fun i => (i.zero, i.size, i.bytes)) = some (some (.agg #[.int .i64 0, .int .i64 0, .int .i64 0, .int .i64 0]), 4, 32) := by kernel_rfl
theorem infoEdge : (Tryz.prog.info? 95).map (fun i => (i.zero, i.size, i.bytes)) = some (some (.agg #[.int .i64 0, .int .i64 0, .int .i64 0, .int .i64 0, .int .i64 0]), 5, 40) := by kernel_rfl
/-- a slice's own block is one of another world, too, where that block is. -/
theorem own_stays {w w' : World} {B e size n : Nat} {v : Value} {xs : List Value} (h : w.ownsRow B e size v n xs) (hk : ∀ g, v.ownBlock = some g → w'.heap[g]? = w.heap[g]?) : w'.ownsRow B e size v n xs := by
  obtain ⟨h1, h2⟩ := h
  refine ⟨h1, ?_⟩
  rcases h2 with ⟨rfl, h3⟩ | ⟨g, cap, cur, rfl, hB, hg, h4⟩
  · exact Or.inl ⟨rfl, h3⟩
  · exact Or.inr ⟨g, cap, cur, rfl, hB, by rw [hk g rfl]; exact hg, h4⟩
theorem own_go {w w' : World} {B e size n : Nat} {v : Value} {xs : List Value} (h : w.ownsRow B e size v n xs) (hb : Below w.heap.size w w') : w'.ownsRow B e size v n xs :=
  own_stays h (fun g hg => hb.block g (h.lt g hg).2)
theorem own_base {w : World} {B B' e size n : Nat} {v : Value} {xs : List Value} (h : w.ownsRow B e size v n xs) (hB : B' ≤ B) : w.ownsRow B' e size v n xs := by
  obtain ⟨h1, h2⟩ := h
  refine ⟨h1, ?_⟩
  rcases h2 with h2 | ⟨g, cap, cur, rfl, hB2, h4⟩
  · exact Or.inl h2
  · exact Or.inr ⟨g, cap, cur, rfl, Nat.le_trans hB hB2, h4⟩
theorem set_other (wr : World) (a : Addr) (x : Value) (g : Nat) (h : g ≠ a.block) : (wr.setCell a x).heap[g]? = wr.heap[g]? := by
  simp [World.setCell, Array.getElem?_modify]; intro e; exact absurd e.symm h
def rcells (l : List Rc) : List Value := l.flatMap fun r => [.int .i64 r.X0, .int .i64 r.Y0, .int .i64 r.X1, .int .i64 r.Y1]
theorem rcells_len (l : List Rc) : (rcells l).length = l.length * 4 := by
  induction l with
  | nil => rfl
  | cons r l ih => show (_ :: _ :: _ :: _ :: rcells l).length = _; simp [ih]; omega
theorem rcells_append (l m : List Rc) : rcells (l ++ m) = rcells l ++ rcells m := by simp [rcells]
theorem rcells_at : ∀ (l : List Rc) (j : Nat) (h : j < l.length), (rcells l)[j * 4]? = some (.int .i64 l[j].X0) ∧ (rcells l)[j * 4 + 1]? = some (.int .i64 l[j].Y0) ∧ (rcells l)[j * 4 + 2]? = some (.int .i64 l[j].X1) ∧ (rcells l)[j * 4 + 3]? = some (.int .i64 l[j].Y1) := by
  intro l
  induction l with
  | nil => intro j h; simp at h
  | cons r l ih =>
    intro j h
    cases j with
    | zero => exact ⟨rfl, rfl, rfl, rfl⟩
    | succ j =>
      have := ih j (by simpa using h)
      rw [show (j + 1) * 4 = j * 4 + 1 + 1 + 1 + 1 by omega]
      exact this
theorem rcells_one : ∀ (l : List Rc), ∀ u ∈ rcells l, u.oneCell' = true := by
  intro l u hu
  obtain ⟨r, _, hu⟩ := List.mem_flatMap.1 hu
  simp at hu
  rcases hu with rfl | rfl | rfl | rfl <;> rfl
/-- the cells with one side turned. -/
theorem rcells_set : ∀ (l : List Rc) (j : Nat) (h : j < l.length) (x : Int), (rcells l).set (j * 4 + 2) (.int .i64 x) = rcells (l.set j ⟨l[j].X0, l[j].Y0, x, l[j].Y1⟩) ∧ (rcells l).set (j * 4 + 3) (.int .i64 x) = rcells (l.set j ⟨l[j].X0, l[j].Y0, l[j].X1, x⟩) := by
  intro l
  induction l with
  | nil => intro j h; simp at h
  | cons r l ih =>
    intro j h x
    cases j with
    | zero => exact ⟨rfl, rfl⟩
    | succ j =>
      have := ih j (by simpa using h) x
      rw [show (j + 1) * 4 + 2 = (j * 4 + 2) + 1 + 1 + 1 + 1 by omega, show (j + 1) * 4 + 3 = (j * 4 + 3) + 1 + 1 + 1 + 1 by omega]
      show _ :: _ :: _ :: _ :: (rcells l).set _ _ = _ ∧ _ :: _ :: _ :: _ :: (rcells l).set _ _ = _
      rw [this.1, this.2]
      exact ⟨rfl, rfl⟩
/-- a slice that a call made, as a list of rectangles. -/
theorem own_rects {w : World} {B : Nat} {v : Value} {l : List Rc} (h : w.ownsRow B 33 4 v l.length (rcells l)) :
    ∃ A cap, v = .slice A l.length cap ∧ RRow w A l ∧ l.length ≤ cap ∧ cap ≤ 9223372036854775807 ∧ (0 < l.length → ∃ g, A = some ⟨g, 0, none⟩ ∧ B ≤ g ∧ g < w.heap.size) ∧ (A = none → cap = 0) := by
  have hh := h
  obtain ⟨h1, h2⟩ := h
  rcases h2 with ⟨rfl, h3⟩ | ⟨g, cap, cur, rfl, hB, hg, h4⟩
  · rw [h3]
    exact ⟨none, 0, rfl, fun h => by omega, Nat.le_refl _, by omega, fun h => absurd h (Nat.lt_irrefl _), fun _ => rfl⟩
  · have hlt : g < w.heap.size := by
      rcases Nat.lt_or_ge g w.heap.size with hlt | hge
      · exact hlt
      · rw [Array.getElem?_eq_none hge] at hg; cases hg
    refine ⟨_, cap, rfl, fun h0 => ⟨g, 0, rfl, hlt, fun j hj => ?_⟩, ?_, ?_, fun _ => ⟨g, rfl, hB, hlt⟩, fun h => by cases h⟩
    · have c := fun i (hi : i < l.length * 4) => World.ownsRow.cellAt hh i hi
      obtain ⟨e0, e1, e2, e3⟩ := rcells_at l j hj
      rw [Nat.zero_add]
      exact ⟨(c _ (by omega)).trans e0, (c _ (by omega)).trans e1, (c _ (by omega)).trans e2, (c _ (by omega)).trans e3⟩
    · exact h4.1
    · have := h4.2.1; unfold maxLen at this; omega
end Go.Proofs.YtdnoadngfkiabaaGreat
namespace Go.Proofs.YtdnoadngfkiabaaGreat

structure Ed where
  x0 : Int
  x1 : Int
  y : Int
  l : Nat
  s : Int
/-- what a side counts for list k between a and b. -/
def ctE (a b : Int) (k : Nat) (e : Ed) : Int := if (e.x0 ≤ a ∧ b ≤ e.x1) ∧ e.l = k then e.s else 0
def sumE (f : Ed → Int) : List Ed → Int
  | [] => 0
  | e :: E => f e + sumE f E
theorem sumE_append (f : Ed → Int) (E F : List Ed) : sumE f (E ++ F) = sumE f E + sumE f F := by
  induction E with
  | nil => simp [sumE]
  | cons e E ih =>
    show f e + sumE f (E ++ F) = (f e + sumE f E) + sumE f F
    rw [ih]; omega
theorem sumE_perm {E F : List Ed} (h : E.Perm F) (f : Ed → Int) : sumE f E = sumE f F := by
  induction h with
  | nil => rfl
  | cons e _ ih => unfold sumE; rw [ih]
  | swap e g E => unfold sumE; unfold sumE; omega
  | trans _ _ h1 h2 => rw [h1, h2]
theorem sumE_zero {f : Ed → Int} {E : List Ed} (h : ∀ e ∈ E, f e = 0) : sumE f E = 0 := by
  induction E with
  | nil => rfl
  | cons e E ih => unfold sumE; rw [h e List.mem_cons_self, ih (fun g hg => h g (List.mem_cons_of_mem _ hg))]; rfl
/-- the counts of m lists. -/
def cntsE (a b : Int) (m : Nat) (E : List Ed) : List Int := (List.range m).map fun k => sumE (ctE a b k) E
theorem cntsE_len (a b : Int) (m : Nat) (E : List Ed) : (cntsE a b m E).length = m := by simp [cntsE]
theorem cntsE_at (a b : Int) (m : Nat) (E : List Ed) (k : Nat) (h : k < m) : (cntsE a b m E)[k]'(by rw [cntsE_len]; exact h) = sumE (ctE a b k) E := by simp [cntsE]
/-- one side more: the count of its list turns, if it reaches over a and b. -/
theorem cntsE_snoc (a b : Int) (m : Nat) (E : List Ed) (e : Ed) : cntsE a b m (E ++ [e]) = if e.x0 ≤ a ∧ b ≤ e.x1 then (cntsE a b m E).modify e.l (· + e.s) else cntsE a b m E := by
  split
  · next h =>
    apply List.ext_getElem
    · simp [cntsE]
    · intro k h1 h2
      rw [List.getElem_modify]
      simp only [cntsE, List.getElem_map, List.getElem_range]
      rw [sumE_append]
      simp only [sumE, ctE, h, true_and, and_self]
      split <;> omega
  · next h =>
    unfold cntsE
    apply List.map_congr_left
    intro k _
    rw [sumE_append]
    simp [sumE, ctE, h]
def upTo (y : Int) (E : List Ed) : List Ed := E.filter fun e => decide (e.y ≤ y)
def SortE (E : List Ed) : Prop := ∀ i j (hi : i < E.length) (hj : j < E.length), i ≤ j → E[i].y ≤ E[j].y
theorem upTo_take {E : List Ed} (hs : SortE E) {i : Nat} (hi : i < E.length) {y : Int} (h1 : E[i].y ≤ y) (h2 : ∀ h : i + 1 < E.length, y < E[i + 1].y) : upTo y E = E.take (i + 1) := by
  unfold upTo
  conv => lhs; rw [← List.take_append_drop (i + 1) E]
  rw [List.filter_append, List.filter_eq_self.2, List.filter_eq_nil_iff.2, List.append_nil]
  · intro e he
    obtain ⟨j, hj, rfl⟩ := List.mem_iff_getElem.1 he
    simp only [List.length_drop] at hj
    rw [List.getElem_drop]
    have := hs (i + 1) (i + 1 + j) (by omega) (by omega) (by omega)
    have := h2 (by omega)
    simp only [decide_eq_true_eq]; omega
  · intro e he
    obtain ⟨j, hj, rfl⟩ := List.mem_iff_getElem.1 he
    simp only [List.length_take] at hj
    rw [List.getElem_take]
    have := hs j i (by omega) hi (by omega)
    simp only [decide_eq_true_eq]; omega
theorem upTo_none {E : List Ed} (hs : SortE E) {y : Int} (h : ∀ h : 0 < E.length, y < E[0].y) : upTo y E = [] := by
  unfold upTo
  rw [List.filter_eq_nil_iff]
  intro e he
  obtain ⟨j, hj, rfl⟩ := List.mem_iff_getElem.1 he
  have := hs 0 j (by omega) hj (by omega)
  have := h (by omega)
  simp only [decide_eq_true_eq]; omega
theorem upTo_all {E : List Ed} {y : Int} (h : ∀ e ∈ E, e.y ≤ y) : upTo y E = E := by
  unfold upTo
  rw [List.filter_eq_self]
  intro e he; simpa using h e he
theorem Asc.snoc {T : List Int} (h : Asc T) {z : Int} (hz : ∀ x ∈ T, x < z) : Asc (T ++ [z]) := by
  induction T with
  | nil => trivial
  | cons a T ih =>
    rw [List.cons_append]
    refine Asc.cons (ih h.tail (fun x hx => hz x (List.mem_cons_of_mem _ hx))) (fun x hx => ?_)
    rcases List.mem_append.1 hx with hx | hx
    · exact h.lt x hx
    · rw [List.mem_singleton] at hx; subst hx; exact hz a List.mem_cons_self
theorem inT_all {T : List Int} {y : Int} (h : ∀ x ∈ T, x ≤ y) : inT T y = odd T := by unfold inT odd; rw [cntT_all h]
theorem inT_snoc_lt {T : List Int} {y z : Int} (h : y < z) : inT (T ++ [z]) y = inT T y := by
  unfold inT cntT
  rw [List.filter_append]
  simp [show ¬ z ≤ y by omega]
theorem odd_snoc (T : List Int) (z : Int) : odd (T ++ [z]) = !odd T := by
  unfold odd
  rw [List.length_append, List.length_singleton, Bool.eq_iff_iff]
  simp only [beq_iff_eq, Bool.not_eq_true', beq_eq_false_iff_ne, ne_eq]; omega

/-- the column, as far as the first i sides tell it. -/
structure ColAt (K : Int → Bool) (E : List Ed) (i : Nat) (kept : Bool) (T : List Int) : Prop where
  asc : Asc T
  par : odd T = kept
  low : ∀ (h : i < E.length), ∀ z ∈ T, z < E[i].y
  inn : ∀ y, (∀ (h : i < E.length), y < E[i].y) → inT T y = K y
  gr : ∀ z ∈ T, ∃ e ∈ E, z = e.y
  len : T.length ≤ i
/-- what is kept at y is told by the counts of the sides up to y. -/
def TellsK (K : Int → Bool) (kp : List Int → Bool) (a b : Int) (m : Nat) (E : List Ed) : Prop := ∀ y, K y = kp (cntsE a b m (upTo y E))
def ZeroK (kp : List Int → Bool) (m : Nat) : Prop := kp (List.replicate m 0) = false
theorem cnts_nil (a b : Int) (m : Nat) : cntsE a b m [] = List.replicate m 0 := by
  apply List.ext_getElem
  · simp [cntsE]
  · intro k h1 h2; simp [cntsE, sumE]
theorem ColAt.start {K : Int → Bool} {kp : List Int → Bool} {a b : Int} {m : Nat} {E : List Ed} (hK : TellsK K kp a b m E) (h0 : ZeroK kp m) (hs : SortE E) : ColAt K E 0 false [] :=
  ⟨trivial, rfl, fun _ z hz => (by cases hz), fun y hy => by rw [hK y, upTo_none hs hy, cnts_nil, h0]; rfl, fun z hz => (by cases hz), Nat.le_refl _⟩
theorem ColAt.skip {K : Int → Bool} {E : List Ed} {i : Nat} {kept : Bool} {T : List Int} (h : ColAt K E i kept T) (hi : i + 1 < E.length) (he : E[i + 1].y = E[i].y) : ColAt K E (i + 1) kept T :=
  ⟨h.asc, h.par, fun _ z hz => by rw [he]; exact h.low (by omega) z hz, fun y hy => h.inn y (fun h' => by have := hy hi; rw [he] at this; exact this), h.gr, by have := h.len; omega⟩
section
variable {K : Int → Bool} {kp : List Int → Bool} {a b : Int} {m : Nat} {E : List Ed} {i : Nat} {kept : Bool} {T : List Int}
theorem ColAt.here (hK : TellsK K kp a b m E) (hs : SortE E) (hi : i < E.length) {y : Int} (h1 : E[i].y ≤ y) (h2 : ∀ h : i + 1 < E.length, y < E[i + 1].y) : K y = kp (cntsE a b m (E.take (i + 1))) := by
  rw [hK y, upTo_take hs hi h1 h2]
theorem ColAt.stay (h : ColAt K E i kept T) (hK : TellsK K kp a b m E) (hs : SortE E) (hi : i < E.length) (hn : ∀ h : i + 1 < E.length, E[i + 1].y ≠ E[i].y) (he : kp (cntsE a b m (E.take (i + 1))) = kept) : ColAt K E (i + 1) kept T := by
  refine ⟨h.asc, h.par, fun h' z hz => ?_, fun y hy => ?_, h.gr, by have := h.len; omega⟩
  · have := h.low hi z hz; have := hs i (i + 1) hi h' (by omega); omega
  · by_cases c : y < E[i].y
    · exact h.inn y (fun _ => c)
    · rw [ColAt.here hK hs hi (by omega) hy, he, inT_all (fun z hz => by have := h.low hi z hz; omega), h.par]
theorem ColAt.turn (h : ColAt K E i kept T) (hK : TellsK K kp a b m E) (hs : SortE E) (hi : i < E.length) (hn : ∀ h : i + 1 < E.length, E[i + 1].y ≠ E[i].y) {is : Bool} (he : kp (cntsE a b m (E.take (i + 1))) = is) (hne : is ≠ kept) : ColAt K E (i + 1) is (T ++ [E[i].y]) := by
  refine ⟨h.asc.snoc (h.low hi), ?_, fun h' z hz => ?_, fun y hy => ?_, fun z hz => ?_, by have := h.len; simp; omega⟩
  · rw [odd_snoc, h.par]; cases is <;> cases kept <;> simp at hne ⊢
  · have h3 := hs i (i + 1) hi h' (by omega)
    have h4 := hn h'
    rcases List.mem_append.1 hz with hz | hz
    · have := h.low hi z hz; omega
    · rw [List.mem_singleton] at hz; omega
  · by_cases c : y < E[i].y
    · rw [inT_snoc_lt c]; exact h.inn y (fun _ => c)
    · rw [ColAt.here hK hs hi (by omega) hy, he, inT_all (fun z hz => ?_), odd_snoc, h.par]
      · cases is <;> cases kept <;> simp at hne ⊢
      · rcases List.mem_append.1 hz with hz | hz
        · have := h.low hi z hz; omega
        · rw [List.mem_singleton] at hz; omega
  · rcases List.mem_append.1 hz with hz | hz
    · exact h.gr z hz
    · rw [List.mem_singleton] at hz; exact ⟨_, List.getElem_mem hi, hz⟩
/-- all sides told: the column. -/
theorem ColAt.done (h : ColAt K E E.length kept T) (hK : TellsK K kp a b m E) (h0 : ZeroK kp m) (hz : ∀ k, sumE (ctE a b k) E = 0) (hg : ∀ e ∈ E, 0 ≤ e.y ∧ e.y ≤ 1048576) : ColOk T ∧ ∀ y, inT T y = K y := by
  have hin : ∀ y, inT T y = K y := fun y => h.inn y (fun h' => absurd h' (Nat.lt_irrefl _))
  have hT : InG T := fun z hz => by obtain ⟨e, he, rfl⟩ := h.gr z hz; exact hg e he
  refine ⟨⟨h.asc, ?_, hT⟩, hin⟩
  rw [← odd_even, ← inT_all (y := 1048576) (fun z hz => (hT z hz).2), hin, hK, upTo_all (fun e he => (hg e he).2)]
  have : cntsE a b m E = List.replicate m 0 := by
    apply List.ext_getElem
    · simp [cntsE]
    · intro k h1 h2; simp [cntsE, hz]
  rw [this]; exact h0
end

/-! ### rectangles while a column is being told -/
def rectsUp (x0 x1 : Int) : List Int → List Rc
  | a :: b :: t => ⟨x0, a, x1, b⟩ :: rectsUp x0 x1 t
  | [a] => [⟨x0, a, x1, 0⟩]
  | [] => []
theorem rectsUp_even (x0 x1 : Int) : ∀ t, Even t → rectsUp x0 x1 t = rectsOf x0 x1 t := by
  intro t he
  refine even_ind (P := fun t => rectsUp x0 x1 t = rectsOf x0 x1 t) rfl (fun a b t _ ih => ?_) t he
  show _ :: _ = _
  rw [ih]; rfl
theorem rectsUp_begin (x0 x1 y : Int) : ∀ t, Even t → rectsUp x0 x1 (t ++ [y]) = rectsUp x0 x1 t ++ [⟨x0, y, x1, 0⟩] := by
  intro t he
  refine even_ind (P := fun t => rectsUp x0 x1 (t ++ [y]) = rectsUp x0 x1 t ++ [⟨x0, y, x1, 0⟩]) rfl (fun a b t _ ih => ?_) t he
  show _ :: rectsUp x0 x1 (t ++ [y]) = _ :: (rectsUp x0 x1 t ++ _)
  rw [ih]
/-- the last rectangle gets its upper side. -/
theorem rectsUp_end (x0 x1 y : Int) : ∀ t, odd t = true → ∃ L z, rectsUp x0 x1 t = L ++ [⟨x0, z, x1, 0⟩] ∧ rectsUp x0 x1 (t ++ [y]) = L ++ [⟨x0, z, x1, y⟩] := by
  intro t
  match t with
  | [] => intro h; simp [odd] at h
  | [a] => intro _; exact ⟨[], a, rfl, rfl⟩
  | a :: b :: t =>
    intro h
    obtain ⟨L, z, h1, h2⟩ := rectsUp_end x0 x1 y t (by unfold odd at h ⊢; simp at h ⊢; omega)
    exact ⟨⟨x0, a, x1, b⟩ :: L, z, by unfold rectsUp; rw [h1]; rfl, by show _ :: rectsUp x0 x1 (t ++ [y]) = _; rw [h2]; rfl⟩
theorem rectsUp_len (x0 x1 : Int) : ∀ t : List Int, (rectsUp x0 x1 t).length ≤ t.length := by
  intro t
  match t with
  | [] => exact Nat.le_refl _
  | [a] => exact Nat.le_refl _
  | a :: b :: t =>
    have := rectsUp_len x0 x1 t
    unfold rectsUp; simp only [List.length_cons]; omega
end Go.Proofs.YtdnoadngfkiabaaGreat
namespace Go.Proofs.YtdnoadngfkiabaaGreat

def edgesOf (k : Nat) (l : List Rc) : List Ed := l.flatMap fun r => [⟨r.X0, r.X1, r.Y0, k, 1⟩, ⟨r.X0, r.X1, r.Y1, k, -1⟩]
def edgesFrom : Nat → List (List Rc) → List Ed
  | _, [] => []
  | k, l :: t => edgesOf k l ++ edgesFrom (k + 1) t
/-- how many rectangles of a list have a cell. -/
def covN (l : List Rc) (x y : Int) : Int := ((l.filter fun r => decide (HasR r x y)).length : Int)
theorem covN_cons (r : Rc) (l : List Rc) (x y : Int) : covN (r :: l) x y = (if HasR r x y then 1 else 0) + covN l x y := by
  unfold covN
  rw [List.filter_cons]
  by_cases h : HasR r x y
  · simp [h]; omega
  · simp [h]
theorem covN_pos (l : List Rc) (x y : Int) : 0 < covN l x y ↔ HasL l x y := by
  unfold covN HasL
  constructor
  · intro h
    have : (l.filter fun r => decide (HasR r x y)) ≠ [] := by intro e; rw [e] at h; simp at h
    obtain ⟨r, hr⟩ := List.exists_mem_of_ne_nil _ this
    rw [List.mem_filter] at hr
    exact ⟨r, hr.1, by simpa using hr.2⟩
  · rintro ⟨r, hr, h⟩
    have : r ∈ l.filter fun r => decide (HasR r x y) := List.mem_filter.2 ⟨hr, by simpa using h⟩
    have := List.length_pos_of_mem this
    omega
theorem covN_nn (l : List Rc) (x y : Int) : 0 ≤ covN l x y := by unfold covN; omega
/-- no side lies between a and b. -/
def GapAB (a b : Int) (l : List Rc) : Prop := ∀ r ∈ l, (r.X0 ≤ a ∨ b ≤ r.X0) ∧ (r.X1 ≤ a ∨ b ≤ r.X1)
theorem upTo_append (y : Int) (E F : List Ed) : upTo y (E ++ F) = upTo y E ++ upTo y F := by unfold upTo; rw [List.filter_append]
theorem edges_cons (k : Nat) (r : Rc) (l : List Rc) : edgesOf k (r :: l) = [⟨r.X0, r.X1, r.Y0, k, 1⟩, ⟨r.X0, r.X1, r.Y1, k, -1⟩] ++ edgesOf k l := rfl
theorem edges_snoc (k : Nat) (r : Rc) (l : List Rc) : edgesOf k (l ++ [r]) = edgesOf k l ++ [⟨r.X0, r.X1, r.Y0, k, 1⟩, ⟨r.X0, r.X1, r.Y1, k, -1⟩] := by simp [edgesOf]
theorem edges_len (k : Nat) (l : List Rc) : (edgesOf k l).length = 2 * l.length := by
  induction l with
  | nil => rfl
  | cons r l ih => rw [edges_cons, List.length_append, ih]; simp; omega
theorem edges_list {k : Nat} {l : List Rc} {e : Ed} (h : e ∈ edgesOf k l) : e.l = k ∧ ∃ r ∈ l, (e.y = r.Y0 ∨ e.y = r.Y1) ∧ e.x0 = r.X0 ∧ e.x1 = r.X1 ∧ (e.s = 1 ∨ e.s = -1) := by
  obtain ⟨r, hr, he⟩ := List.mem_flatMap.1 h
  simp at he
  rcases he with rfl | rfl
  · exact ⟨rfl, r, hr, Or.inl rfl, rfl, rfl, Or.inl rfl⟩
  · exact ⟨rfl, r, hr, Or.inr rfl, rfl, rfl, Or.inr rfl⟩
theorem sum_list {a b : Int} (hab : a < b) (k : Nat) {l : List Rc} (hl : ∀ r ∈ l, ROk r) (hg : GapAB a b l) (y : Int) : sumE (ctE a b k) (upTo y (edgesOf k l)) = covN l a y := by
  induction l with
  | nil => rfl
  | cons r l ih =>
    rw [edges_cons, upTo_append, sumE_append, ih (fun q hq => hl q (List.mem_cons_of_mem _ hq)) (fun q hq => hg q (List.mem_cons_of_mem _ hq)), covN_cons]
    have hr := hl r List.mem_cons_self
    have h1 := hr.1; have h2 := hr.2
    obtain ⟨g1, g2⟩ := hg r List.mem_cons_self
    unfold Span at h1 h2
    have e : sumE (ctE a b k) (upTo y [⟨r.X0, r.X1, r.Y0, k, 1⟩, ⟨r.X0, r.X1, r.Y1, k, -1⟩]) = if HasR r a y then 1 else 0 := by
      by_cases c1 : r.Y0 ≤ y
      · by_cases c2 : r.Y1 ≤ y
        · have hn : ¬ HasR r a y := fun h => by have := h.2; omega
          rw [if_neg hn]
          simp only [upTo, List.filter_cons, c1, c2, decide_true, if_true, List.filter_nil, sumE, ctE]
          split <;> simp
        · simp only [upTo, List.filter_cons, c1, c2, decide_true, decide_false, if_true, List.filter_nil, sumE, ctE]
          by_cases c3 : r.X0 ≤ a ∧ b ≤ r.X1
          · have hn : HasR r a y := ⟨hr, by omega, by omega, by omega, by omega⟩
            simp [hn, c3, sumE]
          · have hn : ¬ HasR r a y := fun h => by obtain ⟨_, q1, q2, q3, q4⟩ := h; omega
            simp [hn, c3, sumE]
      · have hn : ¬ HasR r a y := fun h => by have := h.2; omega
        have c2 : ¬ r.Y1 ≤ y := by omega
        rw [if_neg hn]
        simp [upTo, c1, c2, sumE]
    rw [e]
theorem sum_other {a b : Int} {k k' : Nat} (h : k ≠ k') (l : List Rc) (y : Int) : sumE (ctE a b k) (upTo y (edgesOf k' l)) = 0 :=
  sumE_zero (fun e he => by
    have := (edges_list (List.mem_filter.1 he).1).1
    unfold ctE
    rw [if_neg]; rintro ⟨_, q⟩; exact h (by rw [← q, this]))
theorem sum_later {a b : Int} {k : Nat} : ∀ (LL : List (List Rc)) {k' : Nat}, k < k' → ∀ y, sumE (ctE a b k) (upTo y (edgesFrom k' LL)) = 0 := by
  intro LL
  induction LL with
  | nil => intro k' _ y; rfl
  | cons l LL ih => intro k' h y; rw [edgesFrom, upTo_append, sumE_append, sum_other (by omega), ih (by omega)]; rfl
theorem sum_from {a b : Int} (hab : a < b) : ∀ (LL : List (List Rc)) (k : Nat), (∀ l ∈ LL, ∀ r ∈ l, ROk r) → (∀ l ∈ LL, GapAB a b l) → ∀ (j : Nat) (h : j < LL.length) (y : Int),
    sumE (ctE a b (k + j)) (upTo y (edgesFrom k LL)) = covN LL[j] a y := by
  intro LL
  induction LL with
  | nil => intro k _ _ j h; simp at h
  | cons l LL ih =>
    intro k h1 h2 j h y
    rw [edgesFrom, upTo_append, sumE_append]
    cases j with
    | zero =>
      rw [Nat.add_zero, sum_list hab k (h1 l List.mem_cons_self) (h2 l List.mem_cons_self), sum_later LL (by omega)]
      simp
    | succ j =>
      rw [sum_other (by omega), show k + (j + 1) = k + 1 + j by omega, ih (k + 1) (fun m hm => h1 m (List.mem_cons_of_mem _ hm)) (fun m hm => h2 m (List.mem_cons_of_mem _ hm)) j (by simpa using h) y]
      simp
/-- what is kept: what the counts of the lists say. -/
def keptB (kp : List Int → Bool) (LL : List (List Rc)) (x y : Int) : Bool := kp (LL.map fun l => covN l x y)
theorem tells {kp : List Int → Bool} {LL : List (List Rc)} {a b : Int} (hab : a < b) (hl : ∀ l ∈ LL, ∀ r ∈ l, ROk r) (hg : ∀ l ∈ LL, GapAB a b l) {E : List Ed} (hE : (edgesFrom 0 LL).Perm E) : TellsK (keptB kp LL a) kp a b LL.length E := by
  intro y
  unfold keptB
  congr 1
  apply List.ext_getElem
  · simp [cntsE]
  · intro j h1 h2
    have hj : j < LL.length := by simpa using h1
    rw [cntsE_at _ _ _ _ _ hj, List.getElem_map]
    have := sum_from hab LL 0 hl hg j hj y
    rw [Nat.zero_add] at this
    rw [← this]
    exact sumE_perm (hE.filter _) _
theorem sum_all (a b : Int) (k : Nat) {E F : List Ed} (h : E.Perm F) (hz : sumE (ctE a b k) E = 0) : sumE (ctE a b k) F = 0 := by rw [← sumE_perm h]; exact hz
theorem sum_whole (a b : Int) (k k' : Nat) (l : List Rc) : sumE (ctE a b k) (edgesOf k' l) = 0 := by
  induction l with
  | nil => rfl
  | cons r l ih =>
    rw [edges_cons, sumE_append, ih]
    simp only [sumE, ctE]
    split <;> simp
theorem sum_wholes (a b : Int) (k : Nat) : ∀ (LL : List (List Rc)) (k' : Nat), sumE (ctE a b k) (edgesFrom k' LL) = 0 := by
  intro LL
  induction LL with
  | nil => intro _; rfl
  | cons l LL ih => intro k'; rw [edgesFrom, sumE_append, sum_whole, ih]; rfl
theorem from_grid : ∀ {LL : List (List Rc)} {k : Nat} {e : Ed}, (∀ l ∈ LL, ∀ r ∈ l, ROk r) → e ∈ edgesFrom k LL → (0 ≤ e.y ∧ e.y ≤ 1048576) ∧ (k ≤ e.l ∧ e.l < k + LL.length) ∧ (0 ≤ e.x0 ∧ e.x0 ≤ 1048576) ∧ (0 ≤ e.x1 ∧ e.x1 ≤ 1048576) ∧ (e.s = 1 ∨ e.s = -1) := by
  intro LL
  induction LL with
  | nil => intro k e _ h; cases h
  | cons l LL ih =>
    intro k e hl h
    rcases List.mem_append.1 h with h | h
    · obtain ⟨h1, r, hr, h2, h3, h4, h5⟩ := edges_list h
      have hr := hl l List.mem_cons_self r hr
      have q1 := hr.1; have q2 := hr.2
      unfold Span at q1 q2
      simp only [List.length_cons]
      refine ⟨by omega, by omega, by omega, by omega, h5⟩
    · obtain ⟨h1, h2, h3⟩ := ih (fun m hm => hl m (List.mem_cons_of_mem _ hm)) h
      simp only [List.length_cons]
      exact ⟨h1, by omega, h3⟩

/-! ### the loop over the slabs -/
structure FmAt (K : Int → Int → Bool) (S : List Int) (i : Nat) (T : List Slab) : Prop where
  grown : ∀ h : i < S.length, Grown T S[i]
  has : ∀ (h : i < S.length) x y, x < S[i] → (HasS T x y ↔ K x y = true)
def SortN (S : List Int) : Prop := ∀ i j (hi : i < S.length) (hj : j < S.length), i ≤ j → S[i] ≤ S[j]
/-- the cells lie between sides; between neighbouring sides all columns are one. -/
structure SidesOf (K : Int → Int → Bool) (S : List Int) : Prop where
  srt : SortN S
  gr : InG S
  out : ∀ x y, K x y = true → (∃ h : 0 < S.length, S[0] ≤ x) ∧ ∃ h : 0 < S.length, x < S[S.length - 1]
  flat : ∀ i (h : i + 1 < S.length) x y, S[i] ≤ x → x < S[i + 1] → K x y = K S[i] y
theorem FmAt.start {K : Int → Int → Bool} {S : List Int} (hS : SidesOf K S) : FmAt K S 0 [] :=
  ⟨fun _ => ⟨trivial, fun s hs => by cases hs⟩, fun h x y hx => ⟨fun ⟨s, hs, _⟩ => (by cases hs), fun hk => by obtain ⟨⟨_, h1⟩, _⟩ := hS.out x y hk; omega⟩⟩
theorem FmAt.skip {K : Int → Int → Bool} {S : List Int} {i : Nat} {T : List Slab} (h : FmAt K S i T) (hi : i + 1 < S.length) (e : S[i] = S[i + 1]) : FmAt K S (i + 1) T :=
  ⟨fun _ => by rw [← e]; exact h.grown (by omega), fun _ x y hx => h.has (by omega) x y (by rw [e]; exact hx)⟩
theorem FmAt.step {K : Int → Int → Bool} {S : List Int} {i : Nat} {T : List Slab} (h : FmAt K S i T) (hS : SidesOf K S) (hi : i + 1 < S.length) (hne : S[i] ≠ S[i + 1]) {c : List Int} (hc : ColOk c) (hin : ∀ y, inT c y = K S[i] y) : FmAt K S (i + 1) (stepF T S[i] S[i + 1] c) := by
  have hle := hS.srt i (i + 1) (by omega) hi (by omega)
  have hab : Span S[i] S[i + 1] := ⟨(hS.gr _ (List.getElem_mem (by omega))).1, by omega, (hS.gr _ (List.getElem_mem hi)).2⟩
  obtain ⟨h1, h2⟩ := step_is (h.grown (by omega)) hab hc
  refine ⟨fun _ => h1, fun _ x y hx => ?_⟩
  rw [h2 x y]
  by_cases c1 : x < S[i]
  · rw [h.has (by omega) x y c1]
    exact ⟨fun q => by rcases q with q | q; exact q; omega, Or.inl⟩
  · rw [hS.flat i hi x y (by omega) hx, ← hin y]
    constructor
    · rintro (⟨s, hs, q1, q2, q3⟩ | q)
      · have := (h.grown (by omega)).to s hs; omega
      · exact q.2.2
    · intro q; exact Or.inr ⟨by omega, hx, q⟩
theorem FmAt.done {K : Int → Int → Bool} {S : List Int} {T : List Slab} (h : FmAt K S (S.length - 1) T) (hS : SidesOf K S) (h0 : 0 < S.length) : SlabsOk T ∧ ∀ x y, HasS T x y ↔ K x y = true := by
  have hg := h.grown (by omega)
  refine ⟨hg.ok, fun x y => ?_⟩
  by_cases c : x < S[S.length - 1]
  · exact h.has (by omega) x y c
  · constructor
    · rintro ⟨s, hs, q1, q2, q3⟩; have := hg.to s hs; omega
    · intro q; obtain ⟨_, _, q2⟩ := hS.out x y q; omega
theorem step_len (T : List Slab) (a b : Int) (c : List Int) : (flatS T).length ≤ (flatS (stepF T a b c)).length := by
  unfold stepF
  split
  · exact Nat.le_refl _
  · rcases List.eq_nil_or_concat T with rfl | ⟨U, s, rfl⟩
    · simp [flatS]
    · rw [List.concat_eq_append]
      have hl : (U ++ [s]).getLast? = some s := by simp
      rw [hl]
      simp only []
      split
      · next h =>
        rw [List.dropLast_concat]
        simp [flatS, rectsOf, h.2]
      · simp [flatS]
/-- later slabs take no rectangles away. -/
theorem FmAt.le {K : Int → Int → Bool} {S : List Int} (hS : SidesOf K S) (hcol : ∀ i (h : i + 1 < S.length), ∃ c, ColOk c ∧ ∀ y, inT c y = K S[i] y) {F : List Rc} (hF : IsForm F) (hK : ∀ x y, HasL F x y ↔ K x y = true) :
    ∀ (n i : Nat) (T : List Slab), i + n + 1 = S.length → FmAt K S i T → (flatS T).length ≤ F.length := by
  intro n
  induction n with
  | zero =>
    intro i T hi h
    obtain rfl : i = S.length - 1 := by omega
    obtain ⟨h1, h2⟩ := h.done hS (by omega)
    rw [form_eq (l := flatS T) (m := F) ⟨T, h1, rfl⟩ hF (fun x y => by rw [flat_has h1, h2, hK])]
    exact Nat.le_refl _
  | succ n ih =>
    intro i T hi h
    by_cases e : S[i]'(by omega) = S[i + 1]'(by omega)
    · exact ih (i + 1) T (by omega) (h.skip (by omega) e)
    · obtain ⟨c, hc, hin⟩ := hcol i (by omega)
      exact Nat.le_trans (step_len T S[i] S[i + 1] c) (ih (i + 1) _ (by omega) (h.step hS (by omega) e hc hin))
end Go.Proofs.YtdnoadngfkiabaaGreat
namespace Go.Proofs.YtdnoadngfkiabaaGreat

/-- the rectangles at the beginning that lie between the same x. -/
structure FirstAt (l : List Rc) (n : Nat) : Prop where
  pos : 0 < n
  le : n ≤ l.length
  same : ∀ j (h : j < l.length), j < n → l[j].X0 = (l[0]'(by omega)).X0 ∧ l[j].X1 = (l[0]'(by omega)).X1
  stop : ∀ h : n < l.length, ¬ (l[n].X0 = (l[0]'(by omega)).X0 ∧ l[n].X1 = (l[0]'(by omega)).X1)
/-- the rectangles at the end that begin at the same x. -/
structure LastAt (l : List Rc) (n : Nat) : Prop where
  le : n ≤ l.length
  same : ∀ j (h : j < l.length), n ≤ j → l[j].X0 = (l[l.length - 1]'(by omega)).X0
  stop : ∀ h : 0 < n, l[n - 1].X0 ≠ (l[l.length - 1]'(by omega)).X0
/-- the same interval of y. -/
def yyB (a b : Rc) : Bool := decide (a.Y0 = b.Y0 ∧ a.Y1 = b.Y1)
/-- two lists have the same intervals of y. -/
def yysB : List Rc → List Rc → Bool
  | [], [] => true
  | a :: l, b :: m => yyB a b && yysB l m
  | _, _ => false
/-- two slabs that are not empty are one. -/
def contB (l m : List Rc) (a b : Int) : Bool := decide (a = b) && yysB l m
/-- valid rectangles with ascending intervals of y that don't meet. -/
def IsColP (l : List Rc) : Prop := ∀ j (h : j < l.length), ROk l[j] ∧ ∀ h0 : 0 < j, l[j - 1].Y1 < l[j].Y0
theorem IsColP.tail {a : Rc} {l : List Rc} (h : IsColP (a :: l)) : IsColP l := fun j hj => by
  obtain ⟨h1, h2⟩ := h (j + 1) (by simpa using hj)
  refine ⟨by simpa using h1, fun h0 => ?_⟩
  obtain ⟨j, rfl⟩ : ∃ i, j = i + 1 := ⟨j - 1, by omega⟩
  have := h2 (by omega)
  simpa using this
def tog (l : List Rc) : List Int := l.flatMap fun r => [r.Y0, r.Y1]
theorem tog_cons (r : Rc) (l : List Rc) : tog (r :: l) = r.Y0 :: r.Y1 :: tog l := rfl
theorem tog_even (l : List Rc) : Even (tog l) := by
  induction l with
  | nil => unfold Even; rfl
  | cons r l ih => rw [tog_cons]; unfold Even at *; simp; omega
theorem tog_ok {l : List Rc} (h : IsColP l) : ColOk (tog l) := by
  refine ⟨?_, tog_even l, ?_⟩
  · induction l with
    | nil => trivial
    | cons r l ih =>
      rw [tog_cons]
      have hr := (h 0 (by simp)).1
      have ht := ih h.tail
      cases l with
      | nil => exact ⟨hr.2.2.1, trivial⟩
      | cons q l =>
        have := (h 1 (by simp)).2 (by omega)
        simp only [List.getElem_cons_succ, List.getElem_cons_zero, Nat.sub_self] at this
        rw [tog_cons] at ht ⊢
        exact ⟨hr.2.2.1, this, ht⟩
  · intro z hz
    obtain ⟨r, hr, hz⟩ := List.mem_flatMap.1 hz
    obtain ⟨j, hj, rfl⟩ := List.mem_iff_getElem.1 hr
    have := (h j hj).1.2
    unfold Span at this
    simp at hz; rcases hz with rfl | rfl <;> omega
theorem tog_rects (x0 x1 : Int) : ∀ t, Even t → tog (rectsOf x0 x1 t) = t := by
  intro t he
  refine even_ind (P := fun t => tog (rectsOf x0 x1 t) = t) rfl (fun a b t _ ih => ?_) t he
  show a :: b :: tog (rectsOf x0 x1 t) = _
  rw [ih]
theorem rects_tog {x0 x1 : Int} {l : List Rc} (h : ∀ r ∈ l, r.X0 = x0 ∧ r.X1 = x1) : rectsOf x0 x1 (tog l) = l := by
  induction l with
  | nil => rfl
  | cons r l ih =>
    rw [tog_cons]
    show (⟨x0, r.Y0, x1, r.Y1⟩ : Rc) :: rectsOf x0 x1 (tog l) = _
    rw [ih (fun q hq => h q (List.mem_cons_of_mem _ hq))]
    obtain ⟨h1, h2⟩ := h r List.mem_cons_self
    congr 1
    exact Rc.eq h1.symm rfl h2.symm rfl
theorem rects_x {x0 x1 : Int} {t : List Int} {r : Rc} (h : r ∈ rectsOf x0 x1 t) : r.X0 = x0 ∧ r.X1 = x1 := by
  unfold rectsOf at h
  obtain ⟨p, _, rfl⟩ := List.mem_map.1 h
  exact ⟨rfl, rfl⟩
theorem rects_ne {x0 x1 : Int} {t : List Int} (he : Even t) (hne : t ≠ []) : 0 < (rectsOf x0 x1 t).length := by
  match t with
  | [] => exact absurd rfl hne
  | [a] => exact absurd he (by unfold Even; simp)
  | a :: b :: t => simp [rectsOf, twos]
theorem first_y {x0 x1 b : Int} : ∀ {t : List Int}, Asc (b :: t) → ∀ h : 0 < (rectsOf x0 x1 t).length, b < ((rectsOf x0 x1 t)[0]).Y0 := by
  intro t ha h
  match t with
  | [] => simp [rectsOf, twos] at h
  | [c] => simp [rectsOf, twos] at h
  | c :: d :: t => exact ha.1
theorem tog_len (l : List Rc) : (tog l).length = 2 * l.length := by
  induction l with
  | nil => rfl
  | cons r l ih => rw [tog_cons]; simp [ih]; omega
theorem rects_col {x0 x1 : Int} (hx : Span x0 x1) : ∀ t, Even t → Asc t → InG t → IsColP (rectsOf x0 x1 t) := by
  intro t he
  refine even_ind (P := fun t => Asc t → InG t → IsColP (rectsOf x0 x1 t)) (fun _ _ j h => by simp [rectsOf, twos] at h) (fun a b t he ih ha hg => ?_) t he
  have e : rectsOf x0 x1 (a :: b :: t) = ⟨x0, a, x1, b⟩ :: rectsOf x0 x1 t := rfl
  have hga := hg a List.mem_cons_self
  have hgb := hg b (List.mem_cons_of_mem _ List.mem_cons_self)
  have ih := ih ha.2.tail (fun z hz => hg z (List.mem_cons_of_mem _ (List.mem_cons_of_mem _ hz)))
  intro j hj
  simp only [e] at hj ⊢
  cases j with
  | zero => exact ⟨⟨hx, hga.1, ha.1, hgb.2⟩, fun h => absurd h (Nat.lt_irrefl _)⟩
  | succ j =>
    obtain ⟨k1, k2⟩ := ih j (by simpa using hj)
    refine ⟨by simpa using k1, fun _ => ?_⟩
    cases j with
    | zero =>
      simp only [List.getElem_cons_succ, List.getElem_cons_zero, Nat.add_sub_cancel]
      exact first_y ha.2 _
    | succ j =>
      have := k2 (by omega)
      simpa using this
theorem yys_tog : ∀ {l m : List Rc}, yysB l m = true ↔ tog l = tog m := by
  intro l
  induction l with
  | nil => intro m; cases m with
    | nil => simp [yysB]
    | cons b m => simp [yysB, tog]
  | cons a l ih =>
    intro m
    cases m with
    | nil => simp [yysB, tog]
    | cons b m => rw [tog_cons, tog_cons]; simp [yysB, yyB, ih, and_assoc]
theorem yys_rects {a b c d : Int} {s t : List Int} (hs : Even s) (ht : Even t) : yysB (rectsOf a b s) (rectsOf c d t) = true ↔ s = t := by
  rw [yys_tog, tog_rects _ _ _ hs, tog_rects _ _ _ ht]

/-! ### the first slab -/
theorem flat_cons (t : Slab) (T : List Slab) : flatS (t :: T) = rectsOf t.x0 t.x1 t.t ++ flatS T := by simp [flatS]
theorem flat_append (S T : List Slab) : flatS (S ++ T) = flatS S ++ flatS T := by simp [flatS]
theorem first_slab {t : Slab} {T : List Slab} (h : SlabsOk (t :: T)) {n : Nat} (hn : FirstAt (flatS (t :: T)) n) : n = (rectsOf t.x0 t.x1 t.t).length := by
  have k := h.head
  have hp := rects_ne (x0 := t.x0) (x1 := t.x1) k.ev k.ne
  obtain ⟨h1, h2, h3, h4⟩ := hn
  have e0 : ((flatS (t :: T))[0]'(by rw [flat_cons, List.length_append]; omega)).X0 = t.x0 := by
    simp only [flat_cons]
    rw [List.getElem_append_left hp]
    exact (rects_x (List.getElem_mem hp)).1
  have e1 : ((flatS (t :: T))[0]'(by rw [flat_cons, List.length_append]; omega)).X1 = t.x1 := by
    simp only [flat_cons]
    rw [List.getElem_append_left hp]
    exact (rects_x (List.getElem_mem hp)).2
  rcases Nat.lt_trichotomy n (rectsOf t.x0 t.x1 t.t).length with c | c | c
  · exfalso
    refine h4 (by rw [flat_cons, List.length_append]; omega) ⟨?_, ?_⟩
    · rw [e0]; simp only [flat_cons]; rw [List.getElem_append_left c]; exact (rects_x (List.getElem_mem c)).1
    · rw [e1]; simp only [flat_cons]; rw [List.getElem_append_left c]; exact (rects_x (List.getElem_mem c)).2
  · exact c
  · exfalso
    have hlen : (rectsOf t.x0 t.x1 t.t).length < (flatS (t :: T)).length := by omega
    have := (h3 _ hlen c).1
    rw [e0] at this
    simp only [flat_cons] at this hlen
    rw [List.getElem_append_right (Nat.le_refl _)] at this
    rw [List.length_append] at hlen
    have hm : (flatS T)[(rectsOf t.x0 t.x1 t.t).length - (rectsOf t.x0 t.x1 t.t).length]'(by omega) ∈ flatS T := List.getElem_mem _
    obtain ⟨u, hu, hr⟩ := List.mem_flatMap.1 hm
    have g1 := (rects_x hr).1
    have g2 := h.after u hu
    have g3 := k.x.2.1
    rw [g1] at this
    omega

theorem SlabsOk.right : ∀ {S T : List Slab}, SlabsOk (S ++ T) → SlabsOk T := by
  intro S
  induction S with
  | nil => intro T h; exact h
  | cons s S ih => intro T h; exact ih h.tail
theorem SlabsOk.before : ∀ {T : List Slab} {s : Slab}, SlabsOk (T ++ [s]) → ∀ u ∈ T, u.x1 ≤ s.x0 := by
  intro T
  induction T with
  | nil => intro s _ u hu; cases hu
  | cons v T ih =>
    intro s h u hu
    rcases List.mem_cons.1 hu with rfl | hu
    · exact h.after s (by simp)
    · exact ih h.tail u hu
/-! ### telling a form -/
structure RightAt (a : List Rc) (k : Nat) (L : List Rc) : Prop where
  le : k ≤ a.length
  ex : ∃ S, SlabsOk S ∧ a.take k = flatS S ∧ (∀ T, SlabsOk T → a = flatS T → ∃ T', T = S ++ T') ∧ ((S = [] ∧ L = []) ∨ ∃ S' s, S = S' ++ [s] ∧ L = rectsOf s.x0 s.x1 s.t)
theorem RightAt.start (a : List Rc) : RightAt a 0 [] := ⟨Nat.zero_le _, [], trivial, rfl, fun T _ _ => ⟨T, rfl⟩, Or.inl ⟨rfl, rfl⟩⟩
theorem RightAt.done {a L : List Rc} (h : RightAt a a.length L) : IsForm a := by
  obtain ⟨S, h1, h2, _⟩ := h.ex
  exact ⟨S, h1, by rw [← h2, List.take_length]⟩
/-- what a form has next. -/
theorem RightAt.form {a L : List Rc} {k n : Nat} (h : RightAt a k L) (hk : k < a.length) (hn : FirstAt (a.drop k) n) (hf : IsForm a) :
    ∃ t, SlabOk t ∧ (a.drop k).take n = rectsOf t.x0 t.x1 t.t ∧ ∀ s : Slab, SlabOk s → L = rectsOf s.x0 s.x1 s.t → s.x1 ≤ t.x0 ∧ (s.x1 = t.x0 → s.t ≠ t.t) := by
  obtain ⟨S, h1, h2, h3, h4⟩ := h.ex
  obtain ⟨T, hT, rfl⟩ := hf
  obtain ⟨T', rfl⟩ := h3 T hT rfl
  rw [flat_append] at *
  have hl : k = (flatS S).length := by
    have := congrArg List.length h2
    rw [List.length_take, List.length_append] at this
    rw [List.length_append] at hk
    omega
  subst hl
  rw [List.drop_left] at *
  cases T' with
  | nil => simp [flatS] at hk
  | cons t T' =>
    have hT2 : SlabsOk (t :: T') := hT.right
    have e := first_slab hT2 hn
    refine ⟨t, hT2.head, by rw [e, flat_cons, List.take_left], fun s hs hL => ?_⟩
    rcases h4 with ⟨rfl, hL2⟩ | ⟨S', s', rfl, hL2⟩
    · rw [hL2] at hL
      have := rects_ne (x0 := s.x0) (x1 := s.x1) hs.ev hs.ne
      rw [← hL] at this; simp at this
    · have hs' : SlabOk s' := h1.each s' (by simp)
      have hb : Behind s' t := by
        clear h2 h3 hn hk h h1 hL hL2 e
        induction S' with
        | nil => exact hT.2.1
        | cons u S' ih => exact ih hT.tail
      have e1 : s'.t = s.t := by
        have := congrArg tog (hL2.symm.trans hL)
        rw [tog_rects _ _ _ hs'.ev, tog_rects _ _ _ hs.ev] at this
        exact this
      have e2 : s'.x1 = s.x1 := by
        have hp := rects_ne (x0 := s'.x0) (x1 := s'.x1) hs'.ev hs'.ne
        rw [← hL2] at hp
        obtain ⟨r, hr⟩ : ∃ r, r ∈ L := ⟨L[0], List.getElem_mem hp⟩
        have a1 := hr
        rw [hL2] at a1
        rw [hL] at hr
        rw [← (rects_x a1).2]; exact (rects_x hr).2
      rw [← e1, ← e2]
      exact hb
/-- the next slab fits. -/
theorem RightAt.step {a L : List Rc} {k n : Nat} (h : RightAt a k L) (hn : FirstAt (a.drop k) n) (hk : k < a.length) (hc : IsColP ((a.drop k).take n))
    (hb : ∀ (h1 : 0 < L.length) (h2 : 0 < ((a.drop k).take n).length), L[0].X1 ≤ ((a.drop k).take n)[0].X0 ∧ contB L ((a.drop k).take n) L[0].X1 ((a.drop k).take n)[0].X0 = false) : RightAt a (k + n) ((a.drop k).take n) := by
  obtain ⟨S, h1, h2, h3, h4⟩ := h.ex
  obtain ⟨n1, n2, n3, n4⟩ := hn
  rw [List.length_drop] at n2
  generalize hR : (a.drop k).take n = R at *
  have hRl : R.length = n := by rw [← hR, List.length_take, List.length_drop]; omega
  have h0 : 0 < R.length := by omega
  have hx : ∀ r ∈ R, r.X0 = R[0].X0 ∧ r.X1 = R[0].X1 := fun r hr => by
    obtain ⟨j, hj, rfl⟩ := List.mem_iff_getElem.1 hr
    have q := n3 j (by rw [List.length_drop]; omega) (by omega)
    have e1 : R[j] = (a.drop k)[j]'(by rw [List.length_drop]; omega) := by simp only [← hR, List.getElem_take]
    have e2 : R[0] = (a.drop k)[0]'(by rw [List.length_drop]; omega) := by simp only [← hR, List.getElem_take]
    rw [e1, e2]; exact q
  have hrt : rectsOf R[0].X0 R[0].X1 (tog R) = R := rects_tog hx
  have hok := tog_ok hc
  have hu : SlabOk ⟨R[0].X0, R[0].X1, tog R⟩ := by
    refine ⟨(hc 0 h0).1.1, fun e => ?_, hok.asc, hok.ev, hok.gr⟩
    have e' : tog R = [] := e
    have := tog_len R
    rw [e'] at this
    simp at this; omega
  refine ⟨by have := h.le; omega, S ++ [⟨R[0].X0, R[0].X1, tog R⟩], ?_, ?_, fun T hT e => ?_, Or.inr ⟨S, _, rfl, hrt.symm⟩⟩
  · refine h1.snoc hu (fun s hs => ?_)
    rcases h4 with ⟨rfl, _⟩ | ⟨S', s', rfl, hL⟩
    · simp at hs
    · simp at hs
      subst hs
      have hs' : SlabOk s' := h1.each s' (by simp)
      have hp := rects_ne (x0 := s'.x0) (x1 := s'.x1) hs'.ev hs'.ne
      rw [← hL] at hp
      obtain ⟨q1, q2⟩ := hb hp h0
      have e1 : L[0].X1 = s'.x1 := by
        have m : L[0] ∈ rectsOf s'.x0 s'.x1 s'.t := by rw [← hL]; exact List.getElem_mem hp
        exact (rects_x m).2
      rw [e1] at q1 q2
      refine ⟨q1, fun q3 q4 => ?_⟩
      have : contB L R s'.x1 R[0].X0 = true := by
        unfold contB
        rw [decide_eq_true q3, Bool.true_and, hL, yys_tog, tog_rects _ _ _ hs'.ev]
        exact q4
      rw [this] at q2; cases q2
  · rw [List.take_add, h2, hR, flat_append]
    congr 1
    rw [flat_cons]; simp only []; rw [hrt]; simp [flatS]
  · obtain ⟨T', rfl⟩ := h3 T hT e
    have hl : k = (flatS S).length := by
      have := congrArg List.length h2
      rw [List.length_take] at this; omega
    have hd : a.drop k = flatS T' := by rw [e, flat_append, hl, List.drop_left]
    cases T' with
    | nil => exfalso; have := congrArg List.length hd; rw [List.length_drop] at this; simp [flatS] at this; omega
    | cons t T' =>
      have hT2 : SlabsOk (t :: T') := hT.right
      have hn' : FirstAt (flatS (t :: T')) n := by rw [← hd]; exact ⟨n1, by rw [List.length_drop]; exact n2, n3, n4⟩
      have en := first_slab hT2 hn'
      have eR : R = rectsOf t.x0 t.x1 t.t := by rw [← hR, hd, en, flat_cons, List.take_left]
      have ht := hT2.head
      have m : R[0] ∈ rectsOf t.x0 t.x1 t.t := by rw [← eR]; exact List.getElem_mem h0
      have g1 := rects_x m
      refine ⟨T', ?_⟩
      rw [List.append_assoc]
      congr 1
      show t :: T' = _ :: T'
      congr 1
      cases t with
      | mk p0 p1 pt =>
        simp only at g1 eR ht
        rw [Slab.mk.injEq]
        exact ⟨g1.1.symm, g1.2.symm, by rw [eR, tog_rects _ _ _ ht.ev]⟩
/-! ### adding a slab at the end -/
theorem last_slab {T : List Slab} {s : Slab} (h : SlabsOk (T ++ [s])) {n : Nat} (hn : LastAt (flatS (T ++ [s])) n) (hlt : n < (flatS (T ++ [s])).length) : n = (flatS T).length := by
  have hs := h.each s (by simp)
  have hp := rects_ne (x0 := s.x0) (x1 := s.x1) hs.ev hs.ne
  have e : flatS (T ++ [s]) = flatS T ++ rectsOf s.x0 s.x1 s.t := by rw [flat_append, flat_cons]; simp [flatS]
  obtain ⟨h1, h2, h3⟩ := hn
  have hlen : (flatS (T ++ [s])).length = (flatS T).length + (rectsOf s.x0 s.x1 s.t).length := by rw [e, List.length_append]
  have e0 : ((flatS (T ++ [s]))[(flatS (T ++ [s])).length - 1]'(by omega)).X0 = s.x0 := by
    have m : (flatS (T ++ [s]))[(flatS (T ++ [s])).length - 1]'(by omega) ∈ rectsOf s.x0 s.x1 s.t := by
      simp only [e]
      rw [List.getElem_append_right (by rw [List.length_append]; omega)]
      exact List.getElem_mem _
    exact (rects_x m).1
  rcases Nat.lt_trichotomy n (flatS T).length with c | c | c
  · exfalso
    have := h2 n hlt (Nat.le_refl _)
    rw [e0] at this
    have hm : (flatS (T ++ [s]))[n] ∈ flatS T := by simp only [e]; rw [List.getElem_append_left c]; exact List.getElem_mem _
    obtain ⟨u, hu, hr⟩ := List.mem_flatMap.1 hm
    have g1 := (rects_x hr).1
    obtain ⟨h5, _, h6⟩ := h.init
    have g4 := h.each u (List.mem_append_left _ hu)
    have g5 : u.x1 ≤ s.x0 := h.before u hu
    have g6 := g4.x.2.1
    rw [g1] at this
    omega
  · exact c
  · exfalso
    refine h3 (by omega) ?_
    rw [e0]
    have m : (flatS (T ++ [s]))[n - 1]'(by omega) ∈ rectsOf s.x0 s.x1 s.t := by
      simp only [e]
      rw [List.getElem_append_right (by omega)]
      exact List.getElem_mem _
    exact (rects_x m).1
theorem rects_wide' (x0 x1 b : Int) (t : List Int) : (rectsOf x0 x1 t).map (fun r => (⟨r.X0, r.Y0, b, r.Y1⟩ : Rc)) = rectsOf x0 b t := by
  unfold rectsOf; rw [List.map_map]; rfl
end Go.Proofs.YtdnoadngfkiabaaGreat
namespace Go.Proofs.YtdnoadngfkiabaaGreat

/-- all sides told one by one: there is a column. -/
theorem ColAt.run {K : Int → Bool} {kp : List Int → Bool} {a b : Int} {m : Nat} {E : List Ed} (hK : TellsK K kp a b m E) (h0 : ZeroK kp m) (hs : SortE E) : ∀ i, i ≤ E.length → ∃ kept T, ColAt K E i kept T := by
  intro i
  induction i with
  | zero => intro _; exact ⟨false, [], ColAt.start hK h0 hs⟩
  | succ i ih =>
    intro hi
    obtain ⟨kept, T, h⟩ := ih (by omega)
    by_cases hn : ∃ h : i + 1 < E.length, E[i + 1].y = E[i].y
    · exact ⟨kept, T, h.skip hn.1 hn.2⟩
    · have hn' : ∀ h : i + 1 < E.length, E[i + 1].y ≠ E[i].y := fun h e => hn ⟨h, e⟩
      by_cases he : kp (cntsE a b m (E.take (i + 1))) = kept
      · exact ⟨kept, T, h.stay hK hs (by omega) hn' he⟩
      · exact ⟨_, _, h.turn hK hs (by omega) hn' rfl he⟩
def sidesAll (LL : List (List Rc)) : List Int := LL.flatMap sides
theorem kept_zero {kp : List Int → Bool} {LL : List (List Rc)} (h0 : ZeroK kp LL.length) {x y : Int} (h : ∀ l ∈ LL, ¬ HasL l x y) : keptB kp LL x y = false := by
  unfold keptB
  have : (LL.map fun l => covN l x y) = List.replicate LL.length 0 := by
    apply List.ext_getElem
    · simp
    · intro j h1 h2
      simp only [List.getElem_map, List.getElem_replicate]
      have hj : j < LL.length := by simpa using h1
      have h3 := h _ (List.getElem_mem hj)
      rw [← covN_pos] at h3
      have := covN_nn LL[j] x y
      omega
  rw [this]; exact h0
theorem gap_of {S : List Int} (hs : SortN S) {i : Nat} (hi : i + 1 < S.length) {z : Int} (hz : z ∈ S) : z ≤ S[i] ∨ S[i + 1] ≤ z := by
  obtain ⟨j, hj, rfl⟩ := List.mem_iff_getElem.1 hz
  rcases Nat.lt_or_ge i j with h | h
  · exact Or.inr (hs _ _ hi hj h)
  · exact Or.inl (hs _ _ hj (by omega) h)
theorem gapAB {S : List Int} {LL : List (List Rc)} (hs : SortN S) (hp : S.Perm (sidesAll LL)) {i : Nat} (hi : i + 1 < S.length) : ∀ l ∈ LL, GapAB S[i] S[i + 1] l := by
  intro l hl r hr
  have h1 : r.X0 ∈ S := hp.mem_iff.2 (List.mem_flatMap.2 ⟨l, hl, (sides_mem hr).1⟩)
  have h2 : r.X1 ∈ S := hp.mem_iff.2 (List.mem_flatMap.2 ⟨l, hl, (sides_mem hr).2⟩)
  exact ⟨gap_of hs hi h1, gap_of hs hi h2⟩
theorem sides_of {kp : List Int → Bool} {LL : List (List Rc)} {S : List Int} (hl : ∀ l ∈ LL, ∀ r ∈ l, ROk r) (h0 : ZeroK kp LL.length) (hs : SortN S) (hp : S.Perm (sidesAll LL)) : SidesOf (keptB kp LL) S := by
  refine ⟨hs, fun z hz => ?_, fun x y hk => ?_, fun i hi x y h1 h2 => ?_⟩
  · obtain ⟨l, hl1, hz⟩ := List.mem_flatMap.1 (hp.mem_iff.1 hz)
    exact sides_gr (hl l hl1) z hz
  · have : ∃ l ∈ LL, HasL l x y := by
      apply Classical.byContradiction
      intro hn
      rw [kept_zero h0 (fun l hl1 h => hn ⟨l, hl1, h⟩)] at hk
      cases hk
    obtain ⟨l, hl1, r, hr, hh⟩ := this
    have m1 : r.X0 ∈ S := hp.mem_iff.2 (List.mem_flatMap.2 ⟨l, hl1, (sides_mem hr).1⟩)
    have m2 : r.X1 ∈ S := hp.mem_iff.2 (List.mem_flatMap.2 ⟨l, hl1, (sides_mem hr).2⟩)
    have hp0 : 0 < S.length := List.length_pos_of_mem m1
    obtain ⟨j1, hj1, e1⟩ := List.mem_iff_getElem.1 m1
    obtain ⟨j2, hj2, e2⟩ := List.mem_iff_getElem.1 m2
    have q1 := hs 0 j1 hp0 hj1 (Nat.zero_le _)
    have q2 := hs j2 (S.length - 1) hj2 (by omega) (by omega)
    have a1 := hh.2.1; have a2 := hh.2.2.1
    exact ⟨⟨hp0, by omega⟩, hp0, by omega⟩
  · unfold keptB
    congr 1
    apply List.map_congr_left
    intro l hl1
    have hg := gapAB hs hp hi l hl1
    unfold covN
    congr 2
    apply List.filter_congr
    intro r hr
    obtain ⟨g1, g2⟩ := hg r hr
    have : HasR r x y ↔ HasR r S[i] y := by
      unfold HasR
      have e1 : r.X0 ≤ x ↔ r.X0 ≤ S[i] := by omega
      have e2 : x < r.X1 ↔ S[i] < r.X1 := by omega
      rw [e1, e2]
    by_cases h : HasR r x y
    · simp [h, this.1 h]
    · rw [decide_eq_false h, decide_eq_false (fun k => h (this.2 k))]
theorem col_ex {kp : List Int → Bool} {LL : List (List Rc)} {S : List Int} {E : List Ed} (hl : ∀ l ∈ LL, ∀ r ∈ l, ROk r) (h0 : ZeroK kp LL.length) (hs : SortN S) (hp : S.Perm (sidesAll LL)) (hE : (edgesFrom 0 LL).Perm E) (hSE : SortE E) :
    ∀ i (h : i + 1 < S.length), S[i] ≠ S[i + 1] → ∃ c, ColOk c ∧ ∀ y, inT c y = keptB kp LL S[i] y := by
  intro i hi hne
  have hlt : S[i] < S[i + 1] := by have := hs i (i + 1) (by omega) hi (by omega); omega
  have hK := tells (kp := kp) hlt hl (gapAB hs hp hi) hE
  obtain ⟨kept, T, h⟩ := ColAt.run hK h0 hSE E.length (Nat.le_refl _)
  exact ⟨T, h.done hK h0 (fun k => sum_all _ _ _ hE (sum_wholes _ _ _ _ _)) (fun e he => (from_grid hl (hE.mem_iff.2 he)).1)⟩
/-- later slabs take no rectangles away. -/
theorem FmAt.le' {K : Int → Int → Bool} {S : List Int} (hS : SidesOf K S) (hcol : ∀ i (h : i + 1 < S.length), S[i] ≠ S[i + 1] → ∃ c, ColOk c ∧ ∀ y, inT c y = K S[i] y) {F : List Rc} (hF : IsForm F) (hK : ∀ x y, HasL F x y ↔ K x y = true) :
    ∀ (n i : Nat) (T : List Slab), i + n + 1 = S.length → FmAt K S i T → (flatS T).length ≤ F.length := by
  intro n
  induction n with
  | zero =>
    intro i T hi h
    obtain rfl : i = S.length - 1 := by omega
    obtain ⟨h1, h2⟩ := h.done hS (by omega)
    rw [form_eq (l := flatS T) (m := F) ⟨T, h1, rfl⟩ hF (fun x y => by rw [flat_has h1, h2, hK])]
    exact Nat.le_refl _
  | succ n ih =>
    intro i T hi h
    by_cases e : S[i]'(by omega) = S[i + 1]'(by omega)
    · exact ih (i + 1) T (by omega) (h.skip (by omega) e)
    · obtain ⟨c, hc, hin⟩ := hcol i (by omega) e
      exact Nat.le_trans (step_len T S[i] S[i + 1] c) (ih (i + 1) _ (by omega) (h.step hS (by omega) e hc hin))
theorem sides_len (l : List Rc) : (sides l).length = 2 * l.length := by
  induction l with
  | nil => rfl
  | cons r l ih => have e : sides (r :: l) = r.X0 :: r.X1 :: sides l := rfl; rw [e, List.length_cons, List.length_cons, ih, List.length_cons]; omega
theorem sides_next (l : List Rc) (k : Nat) (h : k < l.length) : sides (l.take (k + 1)) = sides (l.take k) ++ [l[k].X0, l[k].X1] := by
  rw [List.take_succ_eq_append_getElem h]; unfold sides; rw [List.flatMap_append]; rfl
theorem edges_next (i : Nat) (l : List Rc) (k : Nat) (h : k < l.length) : edgesOf i (l.take (k + 1)) = edgesOf i (l.take k) ++ [⟨l[k].X0, l[k].X1, l[k].Y0, i, 1⟩, ⟨l[k].X0, l[k].X1, l[k].Y1, i, -1⟩] := by
  rw [List.take_succ_eq_append_getElem h, edges_snoc]
theorem sidesAll_next (LL : List (List Rc)) (i : Nat) (h : i < LL.length) : sidesAll (LL.take (i + 1)) = sidesAll (LL.take i) ++ sides LL[i] := by
  rw [List.take_succ_eq_append_getElem h]; unfold sidesAll; rw [List.flatMap_append]; simp
theorem edgesFrom_append : ∀ (A B : List (List Rc)) (k : Nat), edgesFrom k (A ++ B) = edgesFrom k A ++ edgesFrom (k + A.length) B := by
  intro A
  induction A with
  | nil => intro B k; rfl
  | cons a A ih => intro B k; rw [List.cons_append, edgesFrom, edgesFrom, ih, List.append_assoc, List.length_cons, show k + 1 + A.length = k + (A.length + 1) by omega]
theorem edgesAll_next (LL : List (List Rc)) (i : Nat) (h : i < LL.length) : edgesFrom 0 (LL.take (i + 1)) = edgesFrom 0 (LL.take i) ++ edgesOf i LL[i] := by
  rw [List.take_succ_eq_append_getElem h, edgesFrom_append, List.length_take, Nat.min_eq_left (by omega), Nat.zero_add]
  simp [edgesFrom]
theorem edges_sides : ∀ (LL : List (List Rc)) (k : Nat), (edgesFrom k LL).length = (sidesAll LL).length := by
  intro LL
  induction LL with
  | nil => intro k; rfl
  | cons l LL ih => intro k; rw [edgesFrom, List.length_append, ih, edges_len]; simp [sidesAll, sides_len]
/-- how many rectangles there are in all. -/
def total (LL : List (List Rc)) : Nat := (LL.map List.length).sum
theorem sidesAll_len : ∀ LL : List (List Rc), (sidesAll LL).length = 2 * total LL := by
  intro LL
  induction LL with
  | nil => rfl
  | cons l LL ih =>
    have e : sidesAll (l :: LL) = sides l ++ sidesAll LL := rfl
    rw [e, List.length_append, ih, sides_len]; simp [total]; omega
theorem total_append (A B : List (List Rc)) : total (A ++ B) = total A + total B := by simp [total]
theorem total_cons (l : List Rc) (B : List (List Rc)) : total (l :: B) = l.length + total B := by simp [total]
theorem total_take (LL : List (List Rc)) (i : Nat) (h : i < LL.length) (k : Nat) (hk : k ≤ LL[i].length) : (sidesAll (LL.take i) ++ sides (LL[i].take k)).length ≤ 2 * total LL := by
  rw [List.length_append, sides_len, List.length_take]
  have e : LL = LL.take i ++ LL[i] :: LL.drop (i + 1) := by rw [← List.drop_eq_getElem_cons h, List.take_append_drop]
  have : total LL = total (LL.take i) + (LL[i].length + total (LL.drop (i + 1))) := by
    have h := congrArg total e
    rw [total_append, total_cons] at h
    exact h
  rw [sidesAll_len]
  omega
end Go.Proofs.YtdnoadngfkiabaaGreat
