/-
  Plain mathematics of regions (layer 6): how many rectangles the form of n rectangles has at most: n * n. No program in this text.
-/
import Derived.Test.YtkjblmfmaenllaaHa
set_option linter.unusedVariables false
namespace Go.Proofs.Ytkjblmfmaenllaa

theorem if_len {c : Prop} [Decidable c] (x : Int) (L : List Int) : (if c then x :: L else L).length ≤ L.length + 1 := by split <;> simp
theorem combGo_lenI (op : Bool → Bool → Bool) : ∀ (n : Nat) (a b : List Int) (pa pb was : Bool), a.length + b.length ≤ n → (combGo op a b pa pb was).length ≤ a.length + b.length := by
  intro n
  induction n with
  | zero =>
    intro a b pa pb was h
    rw [List.length_eq_zero_iff.1 (by omega : a.length = 0), List.length_eq_zero_iff.1 (by omega : b.length = 0)]
    unfold combGo; simp
  | succ n ih =>
    intro a b pa pb was h
    match a, b with
    | [], [] => unfold combGo; simp
    | x :: a, [] =>
      unfold combGo
      simp only [List.length_cons, List.length_nil] at h ⊢
      have := ih a [] (!pa) pb (op (!pa) pb) (by simp; omega)
      simp only [List.length_nil] at this
      exact Nat.le_trans (if_len _ _) (by omega)
    | [], y :: b =>
      unfold combGo
      simp only [List.length_cons, List.length_nil] at h ⊢
      have := ih [] b pa (!pb) (op pa (!pb)) (by simp; omega)
      simp only [List.length_nil] at this
      exact Nat.le_trans (if_len _ _) (by omega)
    | x :: a, y :: b =>
      unfold combGo
      simp only [List.length_cons] at h ⊢
      split
      · have := ih a (y :: b) (!pa) pb (op (!pa) pb) (by simp; omega)
        simp only [List.length_cons] at this
        exact Nat.le_trans (if_len _ _) (by omega)
      · split
        · have := ih (x :: a) b pa (!pb) (op pa (!pb)) (by simp; omega)
          simp only [List.length_cons] at this
          exact Nat.le_trans (if_len _ _) (by omega)
        · have := ih a b (!pa) (!pb) (op (!pa) (!pb)) (by omega)
          exact Nat.le_trans (if_len _ _) (by omega)
theorem comb_lenI (op : Bool → Bool → Bool) (a b : List Int) : (comb op a b).length ≤ a.length + b.length := combGo_lenI op _ a b _ _ _ (Nat.le_refl _)
/-- how many rectangles reach over x. -/
def covX (l : List Rc) (x : Int) : Nat := (l.filter fun r => decide (r.X0 ≤ x ∧ x < r.X1)).length
theorem covX_cons (r : Rc) (l : List Rc) (x : Int) : covX (r :: l) x = (if r.X0 ≤ x ∧ x < r.X1 then 1 else 0) + covX l x := by
  unfold covX
  rw [List.filter_cons]
  by_cases h : r.X0 ≤ x ∧ x < r.X1
  · simp [h]; omega
  · simp [h]
theorem colS_lenI (l : List Rc) (x : Int) : (colS l x).length ≤ 2 * covX l x := by
  induction l with
  | nil => simp [colS]
  | cons r l ih =>
    rw [covX_cons]
    unfold colS
    split
    · have := comb_lenI or [r.Y0, r.Y1] (colS l x)
      simp only [List.length_cons, List.length_nil] at this
      omega
    · omega
/-- the sides, each once. -/
def edL : List Rc → List Int
  | [] => []
  | r :: l => (if r.X0 ∈ edL l then [] else [r.X0]) ++ ((if r.X1 ∈ edL l then [] else [r.X1]) ++ edL l)
def sumZ (f : Int → Nat) : List Int → Nat
  | [] => 0
  | e :: E => f e + sumZ f E
theorem sumZ_append (f : Int → Nat) (E F : List Int) : sumZ f (E ++ F) = sumZ f E + sumZ f F := by
  induction E with
  | nil => simp [sumZ]
  | cons e E ih => show f e + sumZ f (E ++ F) = (f e + sumZ f E) + sumZ f F; rw [ih]; omega
theorem sumZ_perm {E F : List Int} (h : E.Perm F) (f : Int → Nat) : sumZ f E = sumZ f F := by
  induction h with
  | nil => rfl
  | cons e _ ih => show f e + _ = f e + _; rw [ih]
  | swap e g E => show f g + (f e + _) = f e + (f g + _); omega
  | trans _ _ h1 h2 => rw [h1, h2]
theorem sumZ_add (f g : Int → Nat) (E : List Int) : sumZ (fun e => f e + g e) E = sumZ f E + sumZ g E := by
  induction E with
  | nil => rfl
  | cons e E ih => show f e + g e + sumZ _ E = (f e + sumZ f E) + (g e + sumZ g E); rw [ih]; omega
theorem sumZ_le {f g : Int → Nat} (h : ∀ e, f e ≤ g e) (E : List Int) : sumZ f E ≤ sumZ g E := by
  induction E with
  | nil => exact Nat.le_refl _
  | cons e E ih => have := h e; show f e + sumZ f E ≤ g e + sumZ g E; omega
def insX (r : Rc) (x : Int) : Nat := if r.X0 ≤ x ∧ x < r.X1 then 1 else 0
/-- what another rectangle adds to the sum. -/
def addL (r : Rc) : List Rc → Nat
  | [] => 0
  | q :: l => insX r q.X0 + insX r q.X1 + addL r l
theorem ed_ins (r : Rc) (l : List Rc) : sumZ (insX r) (edL l) ≤ addL r l := by
  induction l with
  | nil => exact Nat.le_refl _
  | cons q l ih =>
    unfold edL addL
    rw [sumZ_append, sumZ_append]
    split <;> split <;> simp only [sumZ] <;> omega
theorem ed_mem {l : List Rc} {q : Rc} (h : q ∈ l) : q.X0 ∈ edL l ∧ q.X1 ∈ edL l := by
  induction l with
  | nil => cases h
  | cons r l ih =>
    unfold edL
    rcases List.mem_cons.1 h with rfl | h
    · refine ⟨?_, ?_⟩
      · by_cases c : q.X0 ∈ edL l
        · exact List.mem_append_right _ (List.mem_append_right _ c)
        · rw [if_neg c]; exact List.mem_append_left _ (List.mem_singleton.2 rfl)
      · by_cases c : q.X1 ∈ edL l
        · exact List.mem_append_right _ (List.mem_append_right _ c)
        · rw [if_neg c]; exact List.mem_append_right _ (List.mem_append_left _ (List.mem_singleton.2 rfl))
    · obtain ⟨a, b⟩ := ih h
      exact ⟨List.mem_append_right _ (List.mem_append_right _ a), List.mem_append_right _ (List.mem_append_right _ b)⟩
theorem pair_two (r : Rc) (hr : r.X0 < r.X1) (b0 b1 : Bool) : ∀ l : List Rc, (∀ q ∈ l, q.X0 < q.X1) → (b0 = true → ∀ q ∈ l, r.X0 ≠ q.X0 ∧ r.X0 ≠ q.X1) → (b1 = true → ∀ q ∈ l, r.X1 ≠ q.X0 ∧ r.X1 ≠ q.X1) →
    addL r l + (if b0 = true then covX l r.X0 else 0) + (if b1 = true then covX l r.X1 else 0) ≤ 2 * l.length := by
  intro l
  induction l with
  | nil => intro _ _ _; simp [addL, covX]
  | cons q l ih =>
    intro h1 h2 h3
    have ih := ih (fun p hp => h1 p (List.mem_cons_of_mem _ hp)) (fun e p hp => h2 e p (List.mem_cons_of_mem _ hp)) (fun e p hp => h3 e p (List.mem_cons_of_mem _ hp))
    have hq := h1 q List.mem_cons_self
    rw [covX_cons, covX_cons]
    unfold addL insX
    rw [List.length_cons]
    cases b0 <;> cases b1 <;> simp only [if_true, if_false, Bool.false_eq_true] at ih ⊢
    · split <;> split <;> omega
    · obtain ⟨k1, k2⟩ := h3 rfl q List.mem_cons_self
      split <;> split <;> split <;> omega
    · obtain ⟨k1, k2⟩ := h2 rfl q List.mem_cons_self
      split <;> split <;> split <;> omega
    · obtain ⟨k1, k2⟩ := h3 rfl q List.mem_cons_self
      obtain ⟨k3, k4⟩ := h2 rfl q List.mem_cons_self
      split <;> split <;> split <;> split <;> omega
theorem sum_sq : ∀ l : List Rc, (∀ q ∈ l, q.X0 < q.X1) → sumZ (covX l) (edL l) ≤ l.length * l.length := by
  intro l
  induction l with
  | nil => intro _; exact Nat.le_refl _
  | cons r l ih =>
    intro h
    have ih := ih (fun q hq => h q (List.mem_cons_of_mem _ hq))
    have hr := h r List.mem_cons_self
    have hp := pair_two r hr (decide (r.X0 ∉ edL l)) (decide (r.X1 ∉ edL l)) l (fun q hq => h q (List.mem_cons_of_mem _ hq))
      (fun e q hq => by
        have hn := of_decide_eq_true e
        obtain ⟨a, b⟩ := ed_mem hq
        exact ⟨fun c => hn (by rw [c]; exact a), fun c => hn (by rw [c]; exact b)⟩)
      (fun e q hq => by
        have hn := of_decide_eq_true e
        obtain ⟨a, b⟩ := ed_mem hq
        exact ⟨fun c => hn (by rw [c]; exact a), fun c => hn (by rw [c]; exact b)⟩)
    have hi := ed_ins r l
    have e : sumZ (covX (r :: l)) (edL l) = sumZ (insX r) (edL l) + sumZ (covX l) (edL l) := by
      rw [← sumZ_add]
      congr 1
      funext x
      rw [covX_cons]; rfl
    have c0 : covX (r :: l) r.X0 = 1 + covX l r.X0 := by rw [covX_cons, if_pos ⟨Int.le_refl _, hr⟩]
    have c1 : covX (r :: l) r.X1 = covX l r.X1 := by rw [covX_cons, if_neg (by omega)]; omega
    have key : sumZ (covX (r :: l)) (edL (r :: l)) ≤ (if decide (r.X0 ∉ edL l) = true then 1 + covX l r.X0 else 0) + (if decide (r.X1 ∉ edL l) = true then covX l r.X1 else 0) + (sumZ (insX r) (edL l) + sumZ (covX l) (edL l)) := by
      rw [← e]
      show sumZ _ ((if r.X0 ∈ edL l then [] else [r.X0]) ++ ((if r.X1 ∈ edL l then [] else [r.X1]) ++ edL l)) ≤ _
      rw [sumZ_append, sumZ_append]
      by_cases d0 : r.X0 ∈ edL l <;> by_cases d1 : r.X1 ∈ edL l <;> simp [d0, d1, sumZ, c0, c1] <;> omega
    rw [List.length_cons]
    have sq : (l.length + 1) * (l.length + 1) = l.length * l.length + 2 * l.length + 1 := by
      rw [Nat.add_mul, Nat.mul_add]; omega
    rw [sq]
    by_cases d0 : r.X0 ∈ edL l <;> by_cases d1 : r.X1 ∈ edL l <;> simp only [d0, d1, not_true_eq_false, not_false_eq_true, decide_true, decide_false, if_true, if_false, Bool.false_eq_true] at key hp <;> omega
theorem twos_half : ∀ t : List Int, (twos t).length * 2 ≤ t.length := by
  intro t
  match t with
  | [] => simp [twos]
  | [x] => simp [twos]
  | x :: y :: t =>
    have := twos_half t
    simp only [twos, List.length_cons]; omega
theorem step_up (T : List Slab) (a b : Int) (c : List Int) : (flatS (stepF T a b c)).length * 2 ≤ (flatS T).length * 2 + c.length := by
  have hc := twos_half c
  have e : ∀ x y : Int, (rectsOf x y c).length = (twos c).length := fun x y => by simp [rectsOf]
  unfold stepF
  split
  · omega
  · rcases List.eq_nil_or_concat T with rfl | ⟨U, s, rfl⟩
    · simp [flatS, e]; omega
    · rw [List.concat_eq_append]
      have hl : (U ++ [s]).getLast? = some s := by simp
      rw [hl]
      simp only []
      split
      · next h =>
        rw [List.dropLast_concat]
        simp [flatS, rectsOf, h.2]
      · simp [flatS, e]; omega
theorem grow_up (c : Int → List Int) : ∀ (E : List Int) (T : List Slab), (flatS (growF c T E)).length * 2 ≤ (flatS T).length * 2 + sumZ (fun e => (c e).length) E := by
  intro E
  induction E with
  | nil => intro T; unfold growF; simp [sumZ]
  | cons a E ih =>
    intro T
    cases E with
    | nil => unfold growF; simp [sumZ]
    | cons b E =>
      have h1 := ih (stepF T a b (c a))
      have h2 := step_up T a b (c a)
      have e : growF c T (a :: b :: E) = growF c (stepF T a b (c a)) (b :: E) := rfl
      have e2 : sumZ (fun e => (c e).length) (a :: b :: E) = (c a).length + sumZ (fun e => (c e).length) (b :: E) := rfl
      rw [e, e2]
      omega
theorem asc_nodup : ∀ {t : List Int}, Asc t → t.Nodup := by
  intro t
  induction t with
  | nil => intro _; exact List.nodup_nil
  | cons a t ih =>
    intro h
    refine List.nodup_cons.2 ⟨fun hm => ?_, ih h.tail⟩
    have := h.lt a hm
    omega
theorem ed_nodup (l : List Rc) (h : ∀ q ∈ l, q.X0 < q.X1) : (edL l).Nodup := by
  induction l with
  | nil => exact List.nodup_nil
  | cons r l ih =>
    have ih := ih (fun q hq => h q (List.mem_cons_of_mem _ hq))
    have hr := h r List.mem_cons_self
    unfold edL
    by_cases d0 : r.X0 ∈ edL l <;> by_cases d1 : r.X1 ∈ edL l <;> simp only [d0, d1, if_true, if_false, List.nil_append, List.singleton_append] <;> (try exact ih)
    · exact List.nodup_cons.2 ⟨d1, ih⟩
    · exact List.nodup_cons.2 ⟨d0, ih⟩
    · refine List.nodup_cons.2 ⟨fun hm => ?_, List.nodup_cons.2 ⟨d1, ih⟩⟩
      rcases List.mem_cons.1 hm with e | hm
      · omega
      · exact d0 hm
theorem ed_sides (l : List Rc) (z : Int) : z ∈ edL l ↔ z ∈ sides l := by
  constructor
  · intro h
    induction l with
    | nil => cases h
    | cons r l ih =>
      have e : sides (r :: l) = r.X0 :: r.X1 :: sides l := rfl
      rw [e]
      unfold edL at h
      rcases List.mem_append.1 h with h | h
      · split at h
        · cases h
        · rw [List.mem_singleton] at h; subst h; exact List.mem_cons_self
      · rcases List.mem_append.1 h with h | h
        · split at h
          · cases h
          · rw [List.mem_singleton] at h; subst h; exact List.mem_cons_of_mem _ List.mem_cons_self
        · exact List.mem_cons_of_mem _ (List.mem_cons_of_mem _ (ih h))
  · intro h
    obtain ⟨r, hr, hz⟩ := List.mem_flatMap.1 h
    obtain ⟨a, b⟩ := ed_mem hr
    simp at hz
    rcases hz with rfl | rfl
    · exact a
    · exact b
/-- the form of n rectangles has at most n * n. -/
theorem form_sq {l : List Rc} (hl : ∀ r ∈ l, ROk r) : (formL l).length ≤ l.length * l.length := by
  have hx : ∀ q ∈ l, q.X0 < q.X1 := fun q hq => (hl q hq).1.2.1
  have h1 := grow_up (fun x => comb or (colS l x) (colS [] x)) (sortS (sides l ++ sides [])) []
  have e0 : sides l ++ sides [] = sides l := by simp [sides]
  obtain ⟨s1, s2⟩ := sortS_is (sides l ++ sides [])
  have hp : (sortS (sides l ++ sides [])).Perm (edL l) := (List.perm_ext_iff_of_nodup (asc_nodup s1) (ed_nodup l hx)).2 (fun z => by rw [s2, e0, ed_sides])
  have h2 : sumZ (fun e => (comb or (colS l e) (colS [] e)).length) (sortS (sides l ++ sides [])) ≤ sumZ (fun e => covX l e + covX l e) (sortS (sides l ++ sides [])) := sumZ_le (fun e => by
    have := comb_lenI or (colS l e) (colS [] e)
    have h3 := colS_lenI l e
    have h4 : (colS [] e).length = 0 := rfl
    omega) _
  rw [sumZ_add, sumZ_perm hp (covX l)] at h2
  have h3 := sum_sq l hx
  have h4 : (flatS []).length = 0 := rfl
  show (flatS (growF _ _ _)).length ≤ _
  rw [h4] at h1
  omega
theorem covX_append (a b : List Rc) (x : Int) : covX (a ++ b) x = covX a x + covX b x := by simp [covX]
theorem sides_append (a b : List Rc) : sides (a ++ b) = sides a ++ sides b := by simp [sides]
/-- the form of a combination of p and q rectangles has at most (p + q) * (p + q). -/
theorem formO_sq (op : Bool → Bool → Bool) {a b : List Rc} (ha : ∀ r ∈ a, ROk r) (hb : ∀ r ∈ b, ROk r) : (formO op a b).length ≤ (a.length + b.length) * (a.length + b.length) := by
  have hx : ∀ q ∈ a ++ b, q.X0 < q.X1 := fun q hq => by
    rcases List.mem_append.1 hq with h | h
    · exact (ha q h).1.2.1
    · exact (hb q h).1.2.1
  have h1 := grow_up (fun x => comb op (colS a x) (colS b x)) (sortS (sides a ++ sides b)) []
  obtain ⟨s1, s2⟩ := sortS_is (sides a ++ sides b)
  have hp : (sortS (sides a ++ sides b)).Perm (edL (a ++ b)) := (List.perm_ext_iff_of_nodup (asc_nodup s1) (ed_nodup _ hx)).2 (fun z => by rw [s2, ed_sides, sides_append])
  have h2 : sumZ (fun e => (comb op (colS a e) (colS b e)).length) (sortS (sides a ++ sides b)) ≤ sumZ (fun e => covX (a ++ b) e + covX (a ++ b) e) (sortS (sides a ++ sides b)) := sumZ_le (fun e => by
    have := comb_lenI op (colS a e) (colS b e)
    have h3 := colS_lenI a e
    have h4 := colS_lenI b e
    rw [covX_append]
    omega) _
  rw [sumZ_add, sumZ_perm hp (covX (a ++ b))] at h2
  have h3 := sum_sq _ hx
  rw [List.length_append] at h3
  have h4 : (flatS []).length = 0 := rfl
  show (flatS (growF _ _ _)).length ≤ _
  rw [h4] at h1
  omega
end Go.Proofs.Ytkjblmfmaenllaa
