/-
  Plain mathematics of regions (layer 6): the program's way to a column: the counts along the sorted lower and upper sides of the rectangles. No program in this text.
-/
import Derived.Test.YtoalfmdjdplbkaaGc
set_option linter.unusedVariables false
namespace Go.Proofs.Ytoalfmdjdplbkaa

structure Ed where
  x0 : Int
  x1 : Int
  y : Int
  l : Nat
  s : Int
/-- what a side counts for list k between a and b. -/
def ctE (a b : Int) (k : Nat) (e : Ed) : Int := if (e.x0 ≤ a ∧ b ≤ e.x1) ∧ e.l = k then e.s else 0
def sumE (f : Ed → Int) : List Ed → Int
  | [] => 0
  | e :: E => f e + sumE f E
theorem sumE_append (f : Ed → Int) (E F : List Ed) : sumE f (E ++ F) = sumE f E + sumE f F := by
  induction E with
  | nil => simp [sumE]
  | cons e E ih =>
    show f e + sumE f (E ++ F) = (f e + sumE f E) + sumE f F
    rw [ih]; omega
theorem sumE_perm {E F : List Ed} (h : E.Perm F) (f : Ed → Int) : sumE f E = sumE f F := by
  induction h with
  | nil => rfl
  | cons e _ ih => unfold sumE; rw [ih]
  | swap e g E => unfold sumE; unfold sumE; omega
  | trans _ _ h1 h2 => rw [h1, h2]
theorem sumE_zero {f : Ed → Int} {E : List Ed} (h : ∀ e ∈ E, f e = 0) : sumE f E = 0 := by
  induction E with
  | nil => rfl
  | cons e E ih => unfold sumE; rw [h e List.mem_cons_self, ih (fun g hg => h g (List.mem_cons_of_mem _ hg))]; rfl
/-- the counts of m lists. -/
def cntsE (a b : Int) (m : Nat) (E : List Ed) : List Int := (List.range m).map fun k => sumE (ctE a b k) E
theorem cntsE_len (a b : Int) (m : Nat) (E : List Ed) : (cntsE a b m E).length = m := by simp [cntsE]
theorem cntsE_at (a b : Int) (m : Nat) (E : List Ed) (k : Nat) (h : k < m) : (cntsE a b m E)[k]'(by rw [cntsE_len]; exact h) = sumE (ctE a b k) E := by simp [cntsE]
/-- one side more: the count of its list turns, if it reaches over a and b. -/
theorem cntsE_snoc (a b : Int) (m : Nat) (E : List Ed) (e : Ed) : cntsE a b m (E ++ [e]) = if e.x0 ≤ a ∧ b ≤ e.x1 then (cntsE a b m E).modify e.l (· + e.s) else cntsE a b m E := by
  split
  · next h =>
    apply List.ext_getElem
    · simp [cntsE]
    · intro k h1 h2
      rw [List.getElem_modify]
      simp only [cntsE, List.getElem_map, List.getElem_range]
      rw [sumE_append]
      simp only [sumE, ctE, h, true_and, and_self]
      split <;> omega
  · next h =>
    unfold cntsE
    apply List.map_congr_left
    intro k _
    rw [sumE_append]
    simp [sumE, ctE, h]
def upTo (y : Int) (E : List Ed) : List Ed := E.filter fun e => decide (e.y ≤ y)
def SortE (E : List Ed) : Prop := ∀ i j (hi : i < E.length) (hj : j < E.length), i ≤ j → E[i].y ≤ E[j].y
theorem upTo_take {E : List Ed} (hs : SortE E) {i : Nat} (hi : i < E.length) {y : Int} (h1 : E[i].y ≤ y) (h2 : ∀ h : i + 1 < E.length, y < E[i + 1].y) : upTo y E = E.take (i + 1) := by
  unfold upTo
  conv => lhs; rw [← List.take_append_drop (i + 1) E]
  rw [List.filter_append, List.filter_eq_self.2, List.filter_eq_nil_iff.2, List.append_nil]
  · intro e he
    obtain ⟨j, hj, rfl⟩ := List.mem_iff_getElem.1 he
    simp only [List.length_drop] at hj
    rw [List.getElem_drop]
    have := hs (i + 1) (i + 1 + j) (by omega) (by omega) (by omega)
    have := h2 (by omega)
    simp only [decide_eq_true_eq]; omega
  · intro e he
    obtain ⟨j, hj, rfl⟩ := List.mem_iff_getElem.1 he
    simp only [List.length_take] at hj
    rw [List.getElem_take]
    have := hs j i (by omega) hi (by omega)
    simp only [decide_eq_true_eq]; omega
theorem upTo_none {E : List Ed} (hs : SortE E) {y : Int} (h : ∀ h : 0 < E.length, y < E[0].y) : upTo y E = [] := by
  unfold upTo
  rw [List.filter_eq_nil_iff]
  intro e he
  obtain ⟨j, hj, rfl⟩ := List.mem_iff_getElem.1 he
  have := hs 0 j (by omega) hj (by omega)
  have := h (by omega)
  simp only [decide_eq_true_eq]; omega
theorem upTo_all {E : List Ed} {y : Int} (h : ∀ e ∈ E, e.y ≤ y) : upTo y E = E := by
  unfold upTo
  rw [List.filter_eq_self]
  intro e he; simpa using h e he
theorem Asc.snoc {T : List Int} (h : Asc T) {z : Int} (hz : ∀ x ∈ T, x < z) : Asc (T ++ [z]) := by
  induction T with
  | nil => trivial
  | cons a T ih =>
    rw [List.cons_append]
    refine Asc.cons (ih h.tail (fun x hx => hz x (List.mem_cons_of_mem _ hx))) (fun x hx => ?_)
    rcases List.mem_append.1 hx with hx | hx
    · exact h.lt x hx
    · rw [List.mem_singleton] at hx; subst hx; exact hz a List.mem_cons_self
theorem inT_all {T : List Int} {y : Int} (h : ∀ x ∈ T, x ≤ y) : inT T y = odd T := by unfold inT odd; rw [cntT_all h]
theorem inT_snoc_lt {T : List Int} {y z : Int} (h : y < z) : inT (T ++ [z]) y = inT T y := by
  unfold inT cntT
  rw [List.filter_append]
  simp [show ¬ z ≤ y by omega]
theorem odd_snoc (T : List Int) (z : Int) : odd (T ++ [z]) = !odd T := by
  unfold odd
  rw [List.length_append, List.length_singleton, Bool.eq_iff_iff]
  simp only [beq_iff_eq, Bool.not_eq_true', beq_eq_false_iff_ne, ne_eq]; omega

/-- the column, as far as the first i sides tell it. -/
structure ColAt (K : Int → Bool) (E : List Ed) (i : Nat) (kept : Bool) (T : List Int) : Prop where
  asc : Asc T
  par : odd T = kept
  low : ∀ (h : i < E.length), ∀ z ∈ T, z < E[i].y
  inn : ∀ y, (∀ (h : i < E.length), y < E[i].y) → inT T y = K y
  gr : ∀ z ∈ T, ∃ e ∈ E, z = e.y
  len : T.length ≤ i
/-- what is kept at y is told by the counts of the sides up to y. -/
def TellsK (K : Int → Bool) (kp : List Int → Bool) (a b : Int) (m : Nat) (E : List Ed) : Prop := ∀ y, K y = kp (cntsE a b m (upTo y E))
def ZeroK (kp : List Int → Bool) (m : Nat) : Prop := kp (List.replicate m 0) = false
theorem cnts_nil (a b : Int) (m : Nat) : cntsE a b m [] = List.replicate m 0 := by
  apply List.ext_getElem
  · simp [cntsE]
  · intro k h1 h2; simp [cntsE, sumE]
theorem ColAt.start {K : Int → Bool} {kp : List Int → Bool} {a b : Int} {m : Nat} {E : List Ed} (hK : TellsK K kp a b m E) (h0 : ZeroK kp m) (hs : SortE E) : ColAt K E 0 false [] :=
  ⟨trivial, rfl, fun _ z hz => (by cases hz), fun y hy => by rw [hK y, upTo_none hs hy, cnts_nil, h0]; rfl, fun z hz => (by cases hz), Nat.le_refl _⟩
theorem ColAt.skip {K : Int → Bool} {E : List Ed} {i : Nat} {kept : Bool} {T : List Int} (h : ColAt K E i kept T) (hi : i + 1 < E.length) (he : E[i + 1].y = E[i].y) : ColAt K E (i + 1) kept T :=
  ⟨h.asc, h.par, fun _ z hz => by rw [he]; exact h.low (by omega) z hz, fun y hy => h.inn y (fun h' => by have := hy hi; rw [he] at this; exact this), h.gr, by have := h.len; omega⟩
section
variable {K : Int → Bool} {kp : List Int → Bool} {a b : Int} {m : Nat} {E : List Ed} {i : Nat} {kept : Bool} {T : List Int}
theorem ColAt.here (hK : TellsK K kp a b m E) (hs : SortE E) (hi : i < E.length) {y : Int} (h1 : E[i].y ≤ y) (h2 : ∀ h : i + 1 < E.length, y < E[i + 1].y) : K y = kp (cntsE a b m (E.take (i + 1))) := by
  rw [hK y, upTo_take hs hi h1 h2]
theorem ColAt.stay (h : ColAt K E i kept T) (hK : TellsK K kp a b m E) (hs : SortE E) (hi : i < E.length) (hn : ∀ h : i + 1 < E.length, E[i + 1].y ≠ E[i].y) (he : kp (cntsE a b m (E.take (i + 1))) = kept) : ColAt K E (i + 1) kept T := by
  refine ⟨h.asc, h.par, fun h' z hz => ?_, fun y hy => ?_, h.gr, by have := h.len; omega⟩
  · have := h.low hi z hz; have := hs i (i + 1) hi h' (by omega); omega
  · by_cases c : y < E[i].y
    · exact h.inn y (fun _ => c)
    · rw [ColAt.here hK hs hi (by omega) hy, he, inT_all (fun z hz => by have := h.low hi z hz; omega), h.par]
theorem ColAt.turn (h : ColAt K E i kept T) (hK : TellsK K kp a b m E) (hs : SortE E) (hi : i < E.length) (hn : ∀ h : i + 1 < E.length, E[i + 1].y ≠ E[i].y) {is : Bool} (he : kp (cntsE a b m (E.take (i + 1))) = is) (hne : is ≠ kept) : ColAt K E (i + 1) is (T ++ [E[i].y]) := by
  refine ⟨h.asc.snoc (h.low hi), ?_, fun h' z hz => ?_, fun y hy => ?_, fun z hz => ?_, by have := h.len; simp; omega⟩
  · rw [odd_snoc, h.par]; cases is <;> cases kept <;> simp at hne ⊢
  · have h3 := hs i (i + 1) hi h' (by omega)
    have h4 := hn h'
    rcases List.mem_append.1 hz with hz | hz
    · have := h.low hi z hz; omega
    · rw [List.mem_singleton] at hz; omega
  · by_cases c : y < E[i].y
    · rw [inT_snoc_lt c]; exact h.inn y (fun _ => c)
    · rw [ColAt.here hK hs hi (by omega) hy, he, inT_all (fun z hz => ?_), odd_snoc, h.par]
      · cases is <;> cases kept <;> simp at hne ⊢
      · rcases List.mem_append.1 hz with hz | hz
        · have := h.low hi z hz; omega
        · rw [List.mem_singleton] at hz; omega
  · rcases List.mem_append.1 hz with hz | hz
    · exact h.gr z hz
    · rw [List.mem_singleton] at hz; exact ⟨_, List.getElem_mem hi, hz⟩
/-- all sides told: the column. -/
theorem ColAt.done (h : ColAt K E E.length kept T) (hK : TellsK K kp a b m E) (h0 : ZeroK kp m) (hz : ∀ k, sumE (ctE a b k) E = 0) (hg : ∀ e ∈ E, 0 ≤ e.y ∧ e.y ≤ 1048576) : ColOk T ∧ ∀ y, inT T y = K y := by
  have hin : ∀ y, inT T y = K y := fun y => h.inn y (fun h' => absurd h' (Nat.lt_irrefl _))
  have hT : InG T := fun z hz => by obtain ⟨e, he, rfl⟩ := h.gr z hz; exact hg e he
  refine ⟨⟨h.asc, ?_, hT⟩, hin⟩
  rw [← odd_even, ← inT_all (y := 1048576) (fun z hz => (hT z hz).2), hin, hK, upTo_all (fun e he => (hg e he).2)]
  have : cntsE a b m E = List.replicate m 0 := by
    apply List.ext_getElem
    · simp [cntsE]
    · intro k h1 h2; simp [cntsE, hz]
  rw [this]; exact h0
end

/-! ### rectangles while a column is being told -/
def rectsUp (x0 x1 : Int) : List Int → List Rc
  | a :: b :: t => ⟨x0, a, x1, b⟩ :: rectsUp x0 x1 t
  | [a] => [⟨x0, a, x1, 0⟩]
  | [] => []
theorem rectsUp_even (x0 x1 : Int) : ∀ t, Even t → rectsUp x0 x1 t = rectsOf x0 x1 t := by
  intro t he
  refine even_ind (P := fun t => rectsUp x0 x1 t = rectsOf x0 x1 t) rfl (fun a b t _ ih => ?_) t he
  show _ :: _ = _
  rw [ih]; rfl
theorem rectsUp_begin (x0 x1 y : Int) : ∀ t, Even t → rectsUp x0 x1 (t ++ [y]) = rectsUp x0 x1 t ++ [⟨x0, y, x1, 0⟩] := by
  intro t he
  refine even_ind (P := fun t => rectsUp x0 x1 (t ++ [y]) = rectsUp x0 x1 t ++ [⟨x0, y, x1, 0⟩]) rfl (fun a b t _ ih => ?_) t he
  show _ :: rectsUp x0 x1 (t ++ [y]) = _ :: (rectsUp x0 x1 t ++ _)
  rw [ih]
/-- the last rectangle gets its upper side. -/
theorem rectsUp_end (x0 x1 y : Int) : ∀ t, odd t = true → ∃ L z, rectsUp x0 x1 t = L ++ [⟨x0, z, x1, 0⟩] ∧ rectsUp x0 x1 (t ++ [y]) = L ++ [⟨x0, z, x1, y⟩] := by
  intro t
  match t with
  | [] => intro h; simp [odd] at h
  | [a] => intro _; exact ⟨[], a, rfl, rfl⟩
  | a :: b :: t =>
    intro h
    obtain ⟨L, z, h1, h2⟩ := rectsUp_end x0 x1 y t (by unfold odd at h ⊢; simp at h ⊢; omega)
    exact ⟨⟨x0, a, x1, b⟩ :: L, z, by unfold rectsUp; rw [h1]; rfl, by show _ :: rectsUp x0 x1 (t ++ [y]) = _; rw [h2]; rfl⟩
theorem rectsUp_len (x0 x1 : Int) : ∀ t : List Int, (rectsUp x0 x1 t).length ≤ t.length := by
  intro t
  match t with
  | [] => exact Nat.le_refl _
  | [a] => exact Nat.le_refl _
  | a :: b :: t =>
    have := rectsUp_len x0 x1 t
    unfold rectsUp; simp only [List.length_cons]; omega
end Go.Proofs.Ytoalfmdjdplbkaa
