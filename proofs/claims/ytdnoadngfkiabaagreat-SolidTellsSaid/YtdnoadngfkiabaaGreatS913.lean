/-
  Plain mathematics of regions (layer 6): how many rectangles the form of n rectangles has at most: n * n. No program in this text.
  Plain mathematics of solids (layer 9), 2: boxes, the solid of a list of boxes, the operations, sets of cubes, the volume. No program in this text.
-/
import Derived.Test.YtdnoadngfkiabaaGreatS902
import Derived.Test.YtdnoadngfkiabaaGreatS906
set_option linter.unusedVariables false
namespace Go.Proofs.YtdnoadngfkiabaaGreat

theorem if_len {c : Prop} [Decidable c] (x : Int) (L : List Int) : (if c then x :: L else L).length ≤ L.length + 1 := by split <;> simp
theorem combGo_lenI (op : Bool → Bool → Bool) : ∀ (n : Nat) (a b : List Int) (pa pb was : Bool), a.length + b.length ≤ n → (combGo op a b pa pb was).length ≤ a.length + b.length := by
  intro n
  induction n with
  | zero =>
    intro a b pa pb was h
    rw [List.length_eq_zero_iff.1 (by omega : a.length = 0), List.length_eq_zero_iff.1 (by omega : b.length = 0)]
    unfold combGo; simp
  | succ n ih =>
    intro a b pa pb was h
    match a, b with
    | [], [] => unfold combGo; simp
    | x :: a, [] =>
      unfold combGo
      simp only [List.length_cons, List.length_nil] at h ⊢
      have := ih a [] (!pa) pb (op (!pa) pb) (by simp; omega)
      simp only [List.length_nil] at this
      exact Nat.le_trans (if_len _ _) (by omega)
    | [], y :: b =>
      unfold combGo
      simp only [List.length_cons, List.length_nil] at h ⊢
      have := ih [] b pa (!pb) (op pa (!pb)) (by simp; omega)
      simp only [List.length_nil] at this
      exact Nat.le_trans (if_len _ _) (by omega)
    | x :: a, y :: b =>
      unfold combGo
      simp only [List.length_cons] at h ⊢
      split
      · have := ih a (y :: b) (!pa) pb (op (!pa) pb) (by simp; omega)
        simp only [List.length_cons] at this
        exact Nat.le_trans (if_len _ _) (by omega)
      · split
        · have := ih (x :: a) b pa (!pb) (op pa (!pb)) (by simp; omega)
          simp only [List.length_cons] at this
          exact Nat.le_trans (if_len _ _) (by omega)
        · have := ih a b (!pa) (!pb) (op (!pa) (!pb)) (by omega)
          exact Nat.le_trans (if_len _ _) (by omega)
theorem comb_lenI (op : Bool → Bool → Bool) (a b : List Int) : (comb op a b).length ≤ a.length + b.length := combGo_lenI op _ a b _ _ _ (Nat.le_refl _)
/-- how many rectangles reach over x. -/
def covX (l : List Rc) (x : Int) : Nat := (l.filter fun r => decide (r.X0 ≤ x ∧ x < r.X1)).length
theorem covX_cons (r : Rc) (l : List Rc) (x : Int) : covX (r :: l) x = (if r.X0 ≤ x ∧ x < r.X1 then 1 else 0) + covX l x := by
  unfold covX
  rw [List.filter_cons]
  by_cases h : r.X0 ≤ x ∧ x < r.X1
  · simp [h]; omega
  · simp [h]
theorem colS_lenI (l : List Rc) (x : Int) : (colS l x).length ≤ 2 * covX l x := by
  induction l with
  | nil => simp [colS]
  | cons r l ih =>
    rw [covX_cons]
    unfold colS
    split
    · have := comb_lenI or [r.Y0, r.Y1] (colS l x)
      simp only [List.length_cons, List.length_nil] at this
      omega
    · omega
/-- the sides, each once. -/
def edL : List Rc → List Int
  | [] => []
  | r :: l => (if r.X0 ∈ edL l then [] else [r.X0]) ++ ((if r.X1 ∈ edL l then [] else [r.X1]) ++ edL l)
def sumZ (f : Int → Nat) : List Int → Nat
  | [] => 0
  | e :: E => f e + sumZ f E
theorem sumZ_append (f : Int → Nat) (E F : List Int) : sumZ f (E ++ F) = sumZ f E + sumZ f F := by
  induction E with
  | nil => simp [sumZ]
  | cons e E ih => show f e + sumZ f (E ++ F) = (f e + sumZ f E) + sumZ f F; rw [ih]; omega
theorem sumZ_perm {E F : List Int} (h : E.Perm F) (f : Int → Nat) : sumZ f E = sumZ f F := by
  induction h with
  | nil => rfl
  | cons e _ ih => show f e + _ = f e + _; rw [ih]
  | swap e g E => show f g + (f e + _) = f e + (f g + _); omega
  | trans _ _ h1 h2 => rw [h1, h2]
theorem sumZ_add (f g : Int → Nat) (E : List Int) : sumZ (fun e => f e + g e) E = sumZ f E + sumZ g E := by
  induction E with
  | nil => rfl
  | cons e E ih => show f e + g e + sumZ _ E = (f e + sumZ f E) + (g e + sumZ g E); rw [ih]; omega
theorem sumZ_le {f g : Int → Nat} (h : ∀ e, f e ≤ g e) (E : List Int) : sumZ f E ≤ sumZ g E := by
  induction E with
  | nil => exact Nat.le_refl _
  | cons e E ih => have := h e; show f e + sumZ f E ≤ g e + sumZ g E; omega
def insX (r : Rc) (x : Int) : Nat := if r.X0 ≤ x ∧ x < r.X1 then 1 else 0
/-- what another rectangle adds to the sum. -/
def addL (r : Rc) : List Rc → Nat
  | [] => 0
  | q :: l => insX r q.X0 + insX r q.X1 + addL r l
theorem ed_ins (r : Rc) (l : List Rc) : sumZ (insX r) (edL l) ≤ addL r l := by
  induction l with
  | nil => exact Nat.le_refl _
  | cons q l ih =>
    unfold edL addL
    rw [sumZ_append, sumZ_append]
    split <;> split <;> simp only [sumZ] <;> omega
theorem ed_mem {l : List Rc} {q : Rc} (h : q ∈ l) : q.X0 ∈ edL l ∧ q.X1 ∈ edL l := by
  induction l with
  | nil => cases h
  | cons r l ih =>
    unfold edL
    rcases List.mem_cons.1 h with rfl | h
    · refine ⟨?_, ?_⟩
      · by_cases c : q.X0 ∈ edL l
        · exact List.mem_append_right _ (List.mem_append_right _ c)
        · rw [if_neg c]; exact List.mem_append_left _ (List.mem_singleton.2 rfl)
      · by_cases c : q.X1 ∈ edL l
        · exact List.mem_append_right _ (List.mem_append_right _ c)
        · rw [if_neg c]; exact List.mem_append_right _ (List.mem_append_left _ (List.mem_singleton.2 rfl))
    · obtain ⟨a, b⟩ := ih h
      exact ⟨List.mem_append_right _ (List.mem_append_right _ a), List.mem_append_right _ (List.mem_append_right _ b)⟩
theorem pair_two (r : Rc) (hr : r.X0 < r.X1) (b0 b1 : Bool) : ∀ l : List Rc, (∀ q ∈ l, q.X0 < q.X1) → (b0 = true → ∀ q ∈ l, r.X0 ≠ q.X0 ∧ r.X0 ≠ q.X1) → (b1 = true → ∀ q ∈ l, r.X1 ≠ q.X0 ∧ r.X1 ≠ q.X1) →
    addL r l + (if b0 = true then covX l r.X0 else 0) + (if b1 = true then covX l r.X1 else 0) ≤ 2 * l.length := by
  intro l
  induction l with
  | nil => intro _ _ _; simp [addL, covX]
  | cons q l ih =>
    intro h1 h2 h3
    have ih := ih (fun p hp => h1 p (List.mem_cons_of_mem _ hp)) (fun e p hp => h2 e p (List.mem_cons_of_mem _ hp)) (fun e p hp => h3 e p (List.mem_cons_of_mem _ hp))
    have hq := h1 q List.mem_cons_self
    rw [covX_cons, covX_cons]
    unfold addL insX
    rw [List.length_cons]
    cases b0 <;> cases b1 <;> simp only [if_true, if_false, Bool.false_eq_true] at ih ⊢
    · split <;> split <;> omega
    · obtain ⟨k1, k2⟩ := h3 rfl q List.mem_cons_self
      split <;> split <;> split <;> omega
    · obtain ⟨k1, k2⟩ := h2 rfl q List.mem_cons_self
      split <;> split <;> split <;> omega
    · obtain ⟨k1, k2⟩ := h3 rfl q List.mem_cons_self
      obtain ⟨k3, k4⟩ := h2 rfl q List.mem_cons_self
      split <;> split <;> split <;> split <;> omega
theorem sum_sq : ∀ l : List Rc, (∀ q ∈ l, q.X0 < q.X1) → sumZ (covX l) (edL l) ≤ l.length * l.length := by
  intro l
  induction l with
  | nil => intro _; exact Nat.le_refl _
  | cons r l ih =>
    intro h
    have ih := ih (fun q hq => h q (List.mem_cons_of_mem _ hq))
    have hr := h r List.mem_cons_self
    have hp := pair_two r hr (decide (r.X0 ∉ edL l)) (decide (r.X1 ∉ edL l)) l (fun q hq => h q (List.mem_cons_of_mem _ hq))
      (fun e q hq => by
        have hn := of_decide_eq_true e
        obtain ⟨a, b⟩ := ed_mem hq
        exact ⟨fun c => hn (by rw [c]; exact a), fun c => hn (by rw [c]; exact b)⟩)
      (fun e q hq => by
        have hn := of_decide_eq_true e
        obtain ⟨a, b⟩ := ed_mem hq
        exact ⟨fun c => hn (by rw [c]; exact a), fun c => hn (by rw [c]; exact b)⟩)
    have hi := ed_ins r l
    have e : sumZ (covX (r :: l)) (edL l) = sumZ (insX r) (edL l) + sumZ (covX l) (edL l) := by
      rw [← sumZ_add]
      congr 1
      funext x
      rw [covX_cons]; rfl
    have c0 : covX (r :: l) r.X0 = 1 + covX l r.X0 := by rw [covX_cons, if_pos ⟨Int.le_refl _, hr⟩]
    have c1 : covX (r :: l) r.X1 = covX l r.X1 := by rw [covX_cons, if_neg (by omega)]; omega
    have key : sumZ (covX (r :: l)) (edL (r :: l)) ≤ (if decide (r.X0 ∉ edL l) = true then 1 + covX l r.X0 else 0) + (if decide (r.X1 ∉ edL l) = true then covX l r.X1 else 0) + (sumZ (insX r) (edL l) + sumZ (covX l) (edL l)) := by
      rw [← e]
      show sumZ _ ((if r.X0 ∈ edL l then [] else [r.X0]) ++ ((if r.X1 ∈ edL l then [] else [r.X1]) ++ edL l)) ≤ _
      rw [sumZ_append, sumZ_append]
      by_cases d0 : r.X0 ∈ edL l <;> by_cases d1 : r.X1 ∈ edL l <;> simp [d0, d1, sumZ, c0, c1] <;> omega
    rw [List.length_cons]
    have sq : (l.length + 1) * (l.length + 1) = l.length * l.length + 2 * l.length + 1 := by
      rw [Nat.add_mul, Nat.mul_add]; omega
    rw [sq]
    by_cases d0 : r.X0 ∈ edL l <;> by_cases d1 : r.X1 ∈ edL l <;> simp only [d0, d1, not_true_eq_false, not_false_eq_true, decide_true, decide_false, if_true, if_false, Bool.false_eq_true] at key hp <;> omega
theorem twos_half : ∀ t : List Int, (twos t).length * 2 ≤ t.length := by
  intro t
  match t with
  | [] => simp [twos]
  | [x] => simp [twos]
  | x :: y :: t =>
    have := twos_half t
    simp only [twos, List.length_cons]; omega
theorem step_up (T : List Slab) (a b : Int) (c : List Int) : (flatS (stepF T a b c)).length * 2 ≤ (flatS T).length * 2 + c.length := by
  have hc := twos_half c
  have e : ∀ x y : Int, (rectsOf x y c).length = (twos c).length := fun x y => by simp [rectsOf]
  unfold stepF
  split
  · omega
  · rcases List.eq_nil_or_concat T with rfl | ⟨U, s, rfl⟩
    · simp [flatS, e]; omega
    · rw [List.concat_eq_append]
      have hl : (U ++ [s]).getLast? = some s := by simp
      rw [hl]
      simp only []
      split
      · next h =>
        rw [List.dropLast_concat]
        simp [flatS, rectsOf, h.2]
      · simp [flatS, e]; omega
theorem grow_up (c : Int → List Int) : ∀ (E : List Int) (T : List Slab), (flatS (growF c T E)).length * 2 ≤ (flatS T).length * 2 + sumZ (fun e => (c e).length) E := by
  intro E
  induction E with
  | nil => intro T; unfold growF; simp [sumZ]
  | cons a E ih =>
    intro T
    cases E with
    | nil => unfold growF; simp [sumZ]
    | cons b E =>
      have h1 := ih (stepF T a b (c a))
      have h2 := step_up T a b (c a)
      have e : growF c T (a :: b :: E) = growF c (stepF T a b (c a)) (b :: E) := rfl
      have e2 : sumZ (fun e => (c e).length) (a :: b :: E) = (c a).length + sumZ (fun e => (c e).length) (b :: E) := rfl
      rw [e, e2]
      omega
theorem asc_nodup : ∀ {t : List Int}, Asc t → t.Nodup := by
  intro t
  induction t with
  | nil => intro _; exact List.nodup_nil
  | cons a t ih =>
    intro h
    refine List.nodup_cons.2 ⟨fun hm => ?_, ih h.tail⟩
    have := h.lt a hm
    omega
theorem ed_nodup (l : List Rc) (h : ∀ q ∈ l, q.X0 < q.X1) : (edL l).Nodup := by
  induction l with
  | nil => exact List.nodup_nil
  | cons r l ih =>
    have ih := ih (fun q hq => h q (List.mem_cons_of_mem _ hq))
    have hr := h r List.mem_cons_self
    unfold edL
    by_cases d0 : r.X0 ∈ edL l <;> by_cases d1 : r.X1 ∈ edL l <;> simp only [d0, d1, if_true, if_false, List.nil_append, List.singleton_append] <;> (try exact ih)
    · exact List.nodup_cons.2 ⟨d1, ih⟩
    · exact List.nodup_cons.2 ⟨d0, ih⟩
    · refine List.nodup_cons.2 ⟨fun hm => ?_, List.nodup_cons.2 ⟨d1, ih⟩⟩
      rcases List.mem_cons.1 hm with e | hm
      · omega
      · exact d0 hm
theorem ed_sides (l : List Rc) (z : Int) : z ∈ edL l ↔ z ∈ sides l := by
  constructor
  · intro h
    induction l with
    | nil => cases h
    | cons r l ih =>
      have e : sides (r :: l) = r.X0 :: r.X1 :: sides l := rfl
      rw [e]
      unfold edL at h
      rcases List.mem_append.1 h with h | h
      · split at h
        · cases h
        · rw [List.mem_singleton] at h; subst h; exact List.mem_cons_self
      · rcases List.mem_append.1 h with h | h
        · split at h
          · cases h
          · rw [List.mem_singleton] at h; subst h; exact List.mem_cons_of_mem _ List.mem_cons_self
        · exact List.mem_cons_of_mem _ (List.mem_cons_of_mem _ (ih h))
  · intro h
    obtain ⟨r, hr, hz⟩ := List.mem_flatMap.1 h
    obtain ⟨a, b⟩ := ed_mem hr
    simp at hz
    rcases hz with rfl | rfl
    · exact a
    · exact b
/-- the form of n rectangles has at most n * n. -/
theorem form_sq {l : List Rc} (hl : ∀ r ∈ l, ROk r) : (formL l).length ≤ l.length * l.length := by
  have hx : ∀ q ∈ l, q.X0 < q.X1 := fun q hq => (hl q hq).1.2.1
  have h1 := grow_up (fun x => comb or (colS l x) (colS [] x)) (sortS (sides l ++ sides [])) []
  have e0 : sides l ++ sides [] = sides l := by simp [sides]
  obtain ⟨s1, s2⟩ := sortS_is (sides l ++ sides [])
  have hp : (sortS (sides l ++ sides [])).Perm (edL l) := (List.perm_ext_iff_of_nodup (asc_nodup s1) (ed_nodup l hx)).2 (fun z => by rw [s2, e0, ed_sides])
  have h2 : sumZ (fun e => (comb or (colS l e) (colS [] e)).length) (sortS (sides l ++ sides [])) ≤ sumZ (fun e => covX l e + covX l e) (sortS (sides l ++ sides [])) := sumZ_le (fun e => by
    have := comb_lenI or (colS l e) (colS [] e)
    have h3 := colS_lenI l e
    have h4 : (colS [] e).length = 0 := rfl
    omega) _
  rw [sumZ_add, sumZ_perm hp (covX l)] at h2
  have h3 := sum_sq l hx
  have h4 : (flatS []).length = 0 := rfl
  show (flatS (growF _ _ _)).length ≤ _
  rw [h4] at h1
  omega
theorem covX_append (a b : List Rc) (x : Int) : covX (a ++ b) x = covX a x + covX b x := by simp [covX]
theorem sides_append (a b : List Rc) : sides (a ++ b) = sides a ++ sides b := by simp [sides]
/-- the form of a combination of p and q rectangles has at most (p + q) * (p + q). -/
theorem formO_sq (op : Bool → Bool → Bool) {a b : List Rc} (ha : ∀ r ∈ a, ROk r) (hb : ∀ r ∈ b, ROk r) : (formO op a b).length ≤ (a.length + b.length) * (a.length + b.length) := by
  have hx : ∀ q ∈ a ++ b, q.X0 < q.X1 := fun q hq => by
    rcases List.mem_append.1 hq with h | h
    · exact (ha q h).1.2.1
    · exact (hb q h).1.2.1
  have h1 := grow_up (fun x => comb op (colS a x) (colS b x)) (sortS (sides a ++ sides b)) []
  obtain ⟨s1, s2⟩ := sortS_is (sides a ++ sides b)
  have hp : (sortS (sides a ++ sides b)).Perm (edL (a ++ b)) := (List.perm_ext_iff_of_nodup (asc_nodup s1) (ed_nodup _ hx)).2 (fun z => by rw [s2, ed_sides, sides_append])
  have h2 : sumZ (fun e => (comb op (colS a e) (colS b e)).length) (sortS (sides a ++ sides b)) ≤ sumZ (fun e => covX (a ++ b) e + covX (a ++ b) e) (sortS (sides a ++ sides b)) := sumZ_le (fun e => by
    have := comb_lenI op (colS a e) (colS b e)
    have h3 := colS_lenI a e
    have h4 := colS_lenI b e
    rw [covX_append]
    omega) _
  rw [sumZ_add, sumZ_perm hp (covX (a ++ b))] at h2
  have h3 := sum_sq _ hx
  rw [List.length_append] at h3
  have h4 : (flatS []).length = 0 := rfl
  show (flatS (growF _ _ _)).length ≤ _
  rw [h4] at h1
  omega
end Go.Proofs.YtdnoadngfkiabaaGreat
namespace Go.Proofs.YtdnoadngfkiabaaGreat

/-- a box: base and heights. -/
structure Bx where
  r : Rc
  z0 : Int
  z1 : Int
def BOk (b : Bx) : Prop := ROk b.r ∧ HOk b.z0 b.z1
instance (b : Bx) : Decidable (BOk b) := by unfold BOk; infer_instance
instance (l : List Bx) : Decidable (∀ b ∈ l, BOk b) := List.decidableBAll (fun b => BOk b) l
def basesB : List Bx → Int → List Rc
  | [], _ => []
  | b :: l, z => if b.z0 ≤ z ∧ z < b.z1 then b.r :: basesB l z else basesB l z
theorem bases_append (l m : List Bx) (z : Int) : basesB (l ++ m) z = basesB l z ++ basesB m z := by
  induction l with
  | nil => rfl
  | cons b l ih =>
    rw [List.cons_append, basesB, basesB, ih]
    split
    · rw [List.cons_append]
    · rfl
theorem bases_mem {l : List Bx} {z : Int} {r : Rc} : r ∈ basesB l z ↔ ∃ b ∈ l, b.r = r ∧ b.z0 ≤ z ∧ z < b.z1 := by
  induction l with
  | nil => simp [basesB]
  | cons b l ih =>
    rw [basesB]
    split
    · next c =>
      rw [List.mem_cons, ih]
      constructor
      · rintro (rfl | ⟨d, hd, k⟩)
        · exact ⟨b, List.mem_cons_self, rfl, c⟩
        · exact ⟨d, List.mem_cons_of_mem _ hd, k⟩
      · rintro ⟨d, hd, k⟩
        rcases List.mem_cons.1 hd with rfl | hd
        · exact Or.inl k.1.symm
        · exact Or.inr ⟨d, hd, k⟩
    · next c =>
      rw [ih]
      constructor
      · rintro ⟨d, hd, k⟩; exact ⟨d, List.mem_cons_of_mem _ hd, k⟩
      · rintro ⟨d, hd, k⟩
        rcases List.mem_cons.1 hd with rfl | hd
        · exact absurd k.2 c
        · exact ⟨d, hd, k⟩
theorem bases_len (l : List Bx) (z : Int) : (basesB l z).length ≤ l.length := by
  induction l with
  | nil => exact Nat.le_refl _
  | cons b l ih => rw [basesB]; split <;> simp only [List.length_cons] <;> omega
theorem bases_ok {l : List Bx} (h : ∀ b ∈ l, BOk b) (z : Int) : ∀ r ∈ basesB l z, ROk r := by
  intro r hr
  obtain ⟨b, hb, rfl, _⟩ := bases_mem.1 hr
  exact (h b hb).1
def htB (l : List Bx) : List Int := l.flatMap fun b => [b.z0, b.z1]
theorem htB_mem {l : List Bx} {z : Int} : z ∈ htB l ↔ ∃ b ∈ l, z = b.z0 ∨ z = b.z1 := by simp [htB]
theorem htB_len (l : List Bx) : (htB l).length = 2 * l.length := by
  induction l with
  | nil => rfl
  | cons b l ih => rw [show htB (b :: l) = b.z0 :: b.z1 :: htB l from rfl, List.length_cons, List.length_cons, ih, List.length_cons]; omega
theorem htB_next (l : List Bx) (k : Nat) (h : k < l.length) : htB (l.take (k + 1)) = htB (l.take k) ++ [l[k].z0, l[k].z1] := by
  unfold htB; rw [List.take_succ_eq_append_getElem h, List.flatMap_append]; simp
theorem htB_in {l : List Bx} (h : ∀ b ∈ l, BOk b) : InZ (htB l) := by
  intro z hz
  obtain ⟨b, hb, e⟩ := htB_mem.1 hz
  have := (h b hb).2
  unfold HOk at this
  omega
def secB (l : List Bx) (z : Int) : List Rc := formL (basesB l z)
theorem form_nil : formL [] = [] := by decide
theorem secB_form {l : List Bx} (h : ∀ b ∈ l, BOk b) (z : Int) : IsForm (secB l z) := (formL_is (bases_ok h z)).1
theorem bases_same {l : List Bx} {z z' : Int} (h1 : z ≤ z') (h : ∀ x ∈ htB l, ¬ (z < x ∧ x ≤ z')) : basesB l z = basesB l z' := by
  induction l with
  | nil => rfl
  | cons b l ih =>
    have e : htB (b :: l) = b.z0 :: b.z1 :: htB l := rfl
    rw [e] at h
    have k0 := h b.z0 List.mem_cons_self
    have k1 := h b.z1 (List.mem_cons_of_mem _ List.mem_cons_self)
    have ih := ih (fun x hx => h x (List.mem_cons_of_mem _ (List.mem_cons_of_mem _ hx)))
    rw [basesB, basesB, ih]
    by_cases c : b.z0 ≤ z ∧ z < b.z1
    · rw [if_pos c, if_pos (by omega)]
    · rw [if_neg c, if_neg (by omega)]
theorem bases_out {l : List Bx} {z : Int} (h : ∀ b ∈ l, ¬ (b.z0 ≤ z ∧ z < b.z1)) : basesB l z = [] := by
  induction l with
  | nil => rfl
  | cons b l ih =>
    rw [basesB, if_neg (h b List.mem_cons_self)]
    exact ih (fun d hd => h d (List.mem_cons_of_mem _ hd))
theorem chgB (l : List Bx) : Chg (secB l) (htB l) := by
  refine ⟨fun z z' h1 h2 => by unfold secB; rw [bases_same h1 h2], fun z h => ?_, fun z h => ?_⟩
  · unfold secB
    rw [bases_out (fun b hb => by have := h b.z0 (htB_mem.2 ⟨b, hb, Or.inl rfl⟩); omega), form_nil]
  · unfold secB
    rw [bases_out (fun b hb => by have := h b.z1 (htB_mem.2 ⟨b, hb, Or.inr rfl⟩); omega), form_nil]
/-- the solid of a list of boxes. -/
def solB (l : List Bx) : List Sl := solGo (secB l) [] (sortS (htB l))
theorem solB_is {l : List Bx} (h : ∀ b ∈ l, BOk b) : SForm (solB l) ∧ ∀ z, secS (solB l) z = secB l z := by
  obtain ⟨s1, s2⟩ := sortS_is (htB l)
  exact sol_is (secB_form h) s1 (fun x hx => htB_in h x ((s2 x).1 hx)) ((chgB l).of (fun z => (s2 z).symm))
def ofS (l : List Bx) : List Sl × Int := if ∀ b ∈ l, BOk b then (if l.length ≤ 200 then capS (solB l) else ([], 6)) else ([], 1)
/-! ### the operations -/
def htS (S : List Sl) : List Int := S.flatMap fun s => [s.z0, s.z1]
theorem htS_mem {S : List Sl} {z : Int} : z ∈ htS S ↔ ∃ s ∈ S, z = s.z0 ∨ z = s.z1 := by simp [htS]
theorem htS_len (S : List Sl) : (htS S).length = 2 * S.length := by
  induction S with
  | nil => rfl
  | cons b l ih => rw [show htS (b :: l) = b.z0 :: b.z1 :: htS l from rfl, List.length_cons, List.length_cons, ih, List.length_cons]; omega
theorem htS_next (S : List Sl) (k : Nat) (h : k < S.length) : htS (S.take (k + 1)) = htS (S.take k) ++ [S[k].z0, S[k].z1] := by
  unfold htS; rw [List.take_succ_eq_append_getElem h, List.flatMap_append]; simp
theorem htS_in {S : List Sl} (h : SForm S) : InZ (htS S) := by
  intro z hz
  obtain ⟨b, hb, e⟩ := htS_mem.1 hz
  have := (h.each b hb).h
  unfold HOk at this
  omega
theorem sec_same {S : List Sl} {z z' : Int} (h1 : z ≤ z') (h : ∀ x ∈ htS S, ¬ (z < x ∧ x ≤ z')) : secS S z = secS S z' := by
  induction S with
  | nil => rfl
  | cons b l ih =>
    have e : htS (b :: l) = b.z0 :: b.z1 :: htS l := rfl
    rw [e] at h
    have k0 := h b.z0 List.mem_cons_self
    have k1 := h b.z1 (List.mem_cons_of_mem _ List.mem_cons_self)
    have ih := ih (fun x hx => h x (List.mem_cons_of_mem _ (List.mem_cons_of_mem _ hx)))
    rw [sec_cons, sec_cons, ih]
    by_cases c : b.z0 ≤ z ∧ z < b.z1
    · rw [if_pos c, if_pos (by omega)]
    · rw [if_neg c, if_neg (by omega)]
def secO (op : Bool → Bool → Bool) (a b : List Sl) (z : Int) : List Rc := formO op (secS a z) (secS b z)
theorem sec_ok {S : List Sl} (h : SForm S) (z : Int) : ∀ r ∈ secS S z, ROk r := form_ok (sec_form h z)
theorem nil_form : IsForm [] := ⟨[], trivial, rfl⟩
theorem no_has (x y : Int) : ¬ HasL [] x y := by rintro ⟨r, hr, _⟩; cases hr
theorem formO_nil {op : Bool → Bool → Bool} (h0 : op false false = false) : formO op [] [] = [] := by
  obtain ⟨f1, f2⟩ := formO_is h0 (a := []) (b := []) (fun r hr => by cases hr) (fun r hr => by cases hr)
  refine form_eq f1 nil_form (fun x y => ?_)
  rw [f2]
  have e : hasB [] x y = false := by rw [← Bool.not_eq_true, hasB_iff]; exact no_has x y
  rw [e, h0]
  exact ⟨fun h => by simp at h, fun h => absurd h (no_has x y)⟩
theorem secO_form {op : Bool → Bool → Bool} (h0 : op false false = false) {a b : List Sl} (ha : SForm a) (hb : SForm b) (z : Int) : IsForm (secO op a b z) := (formO_is h0 (sec_ok ha z) (sec_ok hb z)).1
theorem chgO {op : Bool → Bool → Bool} (h0 : op false false = false) {a b : List Sl} (ha : SForm a) (hb : SForm b) : Chg (secO op a b) (htS a ++ htS b) := by
  have low : ∀ {S : List Sl}, SForm S → ∀ z, (∀ x ∈ htS S, z < x) → secS S z = [] := fun {S} hS z h => sec_below (fun u hu => h u.z0 (htS_mem.2 ⟨u, hu, Or.inl rfl⟩))
  have high : ∀ {S : List Sl}, SForm S → ∀ z, (∀ x ∈ htS S, x ≤ z) → secS S z = [] := fun {S} hS z h => sec_above (fun u hu => h u.z1 (htS_mem.2 ⟨u, hu, Or.inr rfl⟩))
  refine ⟨fun z z' h1 h2 => ?_, fun z h => ?_, fun z h => ?_⟩
  · unfold secO
    rw [sec_same h1 (fun x hx => h2 x (List.mem_append_left _ hx)), sec_same h1 (fun x hx => h2 x (List.mem_append_right _ hx))]
  · unfold secO
    rw [low ha z (fun x hx => h x (List.mem_append_left _ hx)), low hb z (fun x hx => h x (List.mem_append_right _ hx)), formO_nil h0]
  · unfold secO
    rw [high ha z (fun x hx => h x (List.mem_append_left _ hx)), high hb z (fun x hx => h x (List.mem_append_right _ hx)), formO_nil h0]
def solO (op : Bool → Bool → Bool) (a b : List Sl) : List Sl := solGo (secO op a b) [] (sortS (htS a ++ htS b))
theorem solO_is {op : Bool → Bool → Bool} (h0 : op false false = false) {a b : List Sl} (ha : SForm a) (hb : SForm b) : SForm (solO op a b) ∧ ∀ z, secS (solO op a b) z = secO op a b z := by
  obtain ⟨s1, s2⟩ := sortS_is (htS a ++ htS b)
  exact sol_is (secO_form h0 ha hb) s1 (fun x hx => by
    rcases List.mem_append.1 ((s2 x).1 hx) with h | h
    · exact htS_in ha x h
    · exact htS_in hb x h) ((chgO h0 ha hb).of (fun z => (s2 z).symm))
noncomputable def opS (op : Bool → Bool → Bool) (a b : List Sl) : List Sl × Int := @ite _ (SolP a ∧ SolP b) (Classical.propDecidable _) (capS (solO op a b)) ([], 1)
theorem opS_cap {op : Bool → Bool → Bool} {a b : List Sl} (ha : SolP a) (hb : SolP b) : opS op a b = capS (solO op a b) := if_pos ⟨ha, hb⟩
theorem opS_arg {op : Bool → Bool → Bool} {a b : List Sl} (h : ¬ (SolP a ∧ SolP b)) : opS op a b = ([], 1) := if_neg h
/-! ### sets of cubes -/
structure CS (S : List Sl) (P : Int → Int → Int → Prop) : Prop where
  form : SForm S
  cubes : ∀ x y z, HasL (secS S z) x y ↔ P x y z
theorem CS.eq {S T : List Sl} {P Q : Int → Int → Int → Prop} (h : CS S P) (k : CS T Q) (e : ∀ x y z, P x y z ↔ Q x y z) : S = T :=
  solid_eq h.form k.form (fun z => form_eq (sec_form h.form z) (sec_form k.form z) (fun x y => by rw [h.cubes, k.cubes, e]))
theorem CS.of {S : List Sl} {P Q : Int → Int → Int → Prop} (h : CS S P) (e : ∀ x y z, P x y z ↔ Q x y z) : CS S Q := ⟨h.form, fun x y z => by rw [h.cubes, e]⟩
/-! ### sizes -/
/-! ### the volume -/
def volS : List Sl → Int
  | [] => 0
  | s :: S => areaL s.ar * (s.z1 - s.z0) + volS S
theorem volS_append (S T : List Sl) : volS (S ++ T) = volS S + volS T := by
  induction S with
  | nil => simp [volS]
  | cons s S ih => rw [List.cons_append, volS, volS, ih]; omega
theorem area_nnL (l : List Rc) : 0 ≤ areaL l := by
  induction l with
  | nil => exact Int.le_refl _
  | cons r l ih =>
    have h1 := area_nn r
    have e : areaL (r :: l) = areaR r + areaL l := rfl
    omega
end Go.Proofs.YtdnoadngfkiabaaGreat
