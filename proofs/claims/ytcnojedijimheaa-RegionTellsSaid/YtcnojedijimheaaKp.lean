/-
  Plain mathematics of parts (1): what is reached and what is left; the parts are closed and connected.
-/
import Derived.Test.YtcnojedijimheaaKc
set_option linter.unusedVariables false
namespace Go.Proofs.Ytcnojedijimheaa

/-- the rectangles that are left. -/
def unr : List Rc → List Bool → List Rc
  | r :: a, b :: R => if b = true then unr a R else r :: unr a R
  | _, _ => []
theorem unr_mem : ∀ {a : List Rc} {R : List Bool} {q : Rc}, q ∈ unr a R ↔ ∃ j, j < a.length ∧ R.getD j true = false ∧ q = a.getD j zR := by
  intro a
  induction a with
  | nil =>
    intro R q
    constructor
    · intro h; cases R <;> cases h
    · rintro ⟨j, h, _⟩; cases h
  | cons r a ih =>
    intro R q
    cases R with
    | nil =>
      constructor
      · intro h; cases h
      · rintro ⟨j, _, h, _⟩; simp at h
    | cons b R =>
      cases b with
      | true =>
        show q ∈ unr a R ↔ _
        rw [ih]
        constructor
        · rintro ⟨j, h1, h2, h3⟩; exact ⟨j + 1, by simp; omega, h2, h3⟩
        · rintro ⟨j, h1, h2, h3⟩
          cases j with
          | zero => simp at h2
          | succ j => exact ⟨j, by simp at h1; omega, h2, h3⟩
      | false =>
        show q ∈ r :: unr a R ↔ _
        rw [List.mem_cons, ih]
        constructor
        · rintro (rfl | ⟨j, h1, h2, h3⟩)
          · exact ⟨0, by simp, rfl, rfl⟩
          · exact ⟨j + 1, by simp; omega, h2, h3⟩
        · rintro ⟨j, h1, h2, h3⟩
          cases j with
          | zero => exact Or.inl h3
          | succ j => exact Or.inr ⟨j, by simp at h1; omega, h2, h3⟩
theorem unr_set : ∀ {a : List Rc} {R : List Bool} {i : Nat}, R.getD i true = false → i < a.length → (unr a R).Perm (a.getD i zR :: unr a (R.set i true)) := by
  intro a
  induction a with
  | nil => intro R i _ h; cases h
  | cons r a ih =>
    intro R i hf hi
    cases R with
    | nil => simp at hf
    | cons b R =>
      cases i with
      | zero =>
        obtain rfl : b = false := hf
        exact List.Perm.refl _
      | succ i =>
        have hp := ih (R := R) (i := i) hf (by simp at hi; omega)
        cases b with
        | true => exact hp
        | false => exact (hp.cons r).trans (List.Perm.swap _ _ _)
theorem unr_start : ∀ a : List Rc, unr a (List.replicate a.length false) = a := by
  intro a
  induction a with
  | nil => rfl
  | cons r a ih => show r :: unr a (List.replicate a.length false) = _; rw [ih]
theorem unr_none {a : List Rc} {R : List Bool} (h : ∀ j, j < a.length → R.getD j true = true) : unr a R = [] := by
  rw [List.eq_nil_iff_forall_not_mem]
  intro q hq
  obtain ⟨j, h1, h2, _⟩ := unr_mem.1 hq
  rw [h j h1] at h2; cases h2
theorem set_flag {R : List Bool} {i j : Nat} (h : (R.set i true).getD j true = false) : R.getD j true = false ∧ j ≠ i := by
  have hl := flag_lt h
  rw [List.length_set] at hl
  rw [getD_in _ _ (by rw [List.length_set]; exact hl), List.getElem_set] at h
  split at h
  · cases h
  · next c => exact ⟨by rw [getD_in _ _ hl]; exact h, fun e => c e.symm⟩
/-! ### one look, a sweep, the whole -/
theorem look_perm {a : List Rc} {u : Rc} {i : Nat} {s : CS} (hl : s.1.length = a.length) : ((lookI a u i s).2 ++ unr a (lookI a u i s).1).Perm (s.2 ++ unr a s.1) := by
  unfold lookI
  split
  · next c =>
    show ((s.2 ++ [_]) ++ unr a (s.1.set i true)).Perm _
    rw [List.append_assoc]
    exact (unr_set c.1 (hl ▸ flag_lt c.1)).symm.append_left _
  · exact List.Perm.refl _
theorem lookN_perm {a : List Rc} {u : Rc} {s : CS} (hc : CInv a s) : ∀ k, ((lookN a u k s).2 ++ unr a (lookN a u k s).1).Perm (s.2 ++ unr a s.1)
  | 0 => List.Perm.refl _
  | k + 1 => (look_perm (lookN_inv hc k).1).trans (lookN_perm hc k)
theorem look_flag {a : List Rc} {u : Rc} {i j : Nat} {s : CS} (h : (lookI a u i s).1.getD j true = false) : s.1.getD j true = false := by
  unfold lookI at h
  split at h
  · exact (set_flag h).1
  · exact h
theorem lookN_flag {a : List Rc} {u : Rc} {j : Nat} {s : CS} : ∀ k, (lookN a u k s).1.getD j true = false → s.1.getD j true = false
  | 0, h => h
  | k + 1, h => lookN_flag k (look_flag h)
theorem lookN_done {a : List Rc} {u : Rc} {s : CS} : ∀ k j, j < k → (lookN a u k s).1.getD j true = false → ¬ TouchR u (a.getD j zR) := by
  intro k
  induction k with
  | zero => intro j h; cases h
  | succ k ih =>
    intro j hj hf
    by_cases e : j = k
    · subst e
      intro ht
      have h1 := look_flag hf
      have : lookI a u j (lookN a u j s) = ((lookN a u j s).1.set j true, (lookN a u j s).2 ++ [a.getD j zR]) := if_pos ⟨h1, ht⟩
      have hf2 : (lookI a u j (lookN a u j s)).1.getD j true = false := hf
      rw [this] at hf2
      exact (set_flag hf2).2 rfl
    · exact ih j (by omega) (look_flag hf)
def Done (a : List Rc) (n : Nat) (s : CS) : Prop := ∀ m, m < n → m < s.2.length → ∀ j, s.1.getD j true = false → ¬ TouchR (s.2.getD m zR) (a.getD j zR)
def TC (P : List Rc) : Prop := ∀ m, 0 < m → m < P.length → ∃ j, j < m ∧ TouchR (P.getD j zR) (P.getD m zR)
theorem getD_app {α : Type} {l m : List α} {d : α} {i : Nat} (h : i < l.length) : (l ++ m).getD i d = l.getD i d := by
  rw [getD_in _ _ h, getD_in _ _ (by rw [List.length_append]; omega), List.getElem_append_left h]
theorem done_step {a : List Rc} {n : Nat} {s : CS} (hc : CInv a s) (hn : n < s.2.length) (h : Done a n s) : Done a (n + 1) (lookN a (s.2.getD n zR) a.length s) := by
  obtain ⟨P, hP⟩ := lookN_grow (a := a) (u := s.2.getD n zR) (s := s) a.length
  intro m hm hml j hf
  have h0 := lookN_flag _ hf
  by_cases e : m = n
  · subst e
    rw [hP, getD_app hn]
    exact lookN_done _ j (hc.1 ▸ flag_lt h0) hf
  · rw [hP, getD_app (by omega)]
    exact h m (by omega) (by omega) j h0
theorem tc_app {P : List Rc} {r : Rc} {q : Nat} (h : TC P) (hq : q < P.length) (ht : TouchR (P.getD q zR) r) : TC (P ++ [r]) := by
  intro m h0 hm
  by_cases e : m < P.length
  · obtain ⟨j, h1, h2⟩ := h m h0 e
    exact ⟨j, h1, by rw [getD_app (by omega), getD_app e]; exact h2⟩
  · have em : m = P.length := by simp at hm; omega
    refine ⟨q, by omega, ?_⟩
    have e2 : (P ++ [r]).getD P.length zR = r := by rw [getD_in _ _ (by simp)]; simp
    rw [getD_app hq, em, e2]
    exact ht
theorem lookN_tc {a : List Rc} {s : CS} {q : Nat} (hq : q < s.2.length) (h : TC s.2) : ∀ k, TC (lookN a (s.2.getD q zR) k s).2
  | 0 => h
  | k + 1 => by
    have ih := lookN_tc (a := a) hq h k
    obtain ⟨P, hP⟩ := lookN_grow (a := a) (u := s.2.getD q zR) (s := s) k
    show TC (lookI a _ k (lookN a _ k s)).2
    unfold lookI
    split
    · next c => exact tc_app (q := q) ih (by rw [hP, List.length_append]; omega) (by rw [hP, getD_app hq]; exact c.2)
    · exact ih
/-- what holds of a part when it is found. -/
structure Found (a : List Rc) (s0 t : CS) : Prop where
  inv : CInv a t
  done : ∀ m, m < t.2.length → ∀ j, t.1.getD j true = false → ¬ TouchR (t.2.getD m zR) (a.getD j zR)
  tc : TC t.2
  perm : (t.2 ++ unr a t.1).Perm (s0.2 ++ unr a s0.1)
  flag : ∀ j, t.1.getD j true = false → s0.1.getD j true = false
  grow : ∃ P, t.2 = s0.2 ++ P
theorem connF_found {a : List Rc} : ∀ (f n : Nat) (s : CS), CInv a s → Done a n s → TC s.2 → a.length < n + f → Found a s (connF a f n s) := by
  intro f
  induction f with
  | zero =>
    intro n s hc hd ht hf
    have h2 := hc.2
    exact ⟨hc, fun m (hm : m < s.2.length) => hd m (by omega) hm, ht, List.Perm.refl _, fun _ h => h, [], by simp [connF]⟩
  | succ f ih =>
    intro n s hc hd ht hf
    show Found a s (if n < s.2.length then _ else _)
    by_cases c : n < s.2.length
    · rw [if_pos c]
      obtain ⟨i1, i2, i3, i4, i5, P2, i6⟩ := ih (n + 1) _ (lookN_inv hc a.length) (done_step hc c hd) (lookN_tc c ht a.length) (by omega)
      obtain ⟨P1, hP1⟩ := lookN_grow (a := a) (u := s.2.getD n zR) (s := s) a.length
      exact ⟨i1, i2, i3, i4.trans (lookN_perm hc _), fun j h => lookN_flag _ (i5 j h), P1 ++ P2, by rw [i6, hP1, List.append_assoc]⟩
    · rw [if_neg c]
      exact ⟨hc, fun m hm => hd m (by omega) hm, ht, List.Perm.refl _, fun _ h => h, [], by simp⟩
theorem connM_found {a : List Rc} {i : Nat} {R : List Bool} (hR : R.length = a.length) (h : R.getD i true = false) : Found a (R.set i true, [a.getD i zR]) (connM a i R) :=
  connF_found _ 0 _ (conn_start hR h) (fun m hm => by cases hm) (fun m h0 hm => by simp at hm; omega) (by omega)
theorem connM_perm {a : List Rc} {i : Nat} {R : List Bool} (hR : R.length = a.length) (h : R.getD i true = false) : ((connM a i R).2 ++ unr a (connM a i R).1).Perm (unr a R) :=
  (connM_found hR h).perm.trans (unr_set h (hR ▸ flag_lt h)).symm
theorem connM_flag {a : List Rc} {i : Nat} {R : List Bool} (hR : R.length = a.length) (h : R.getD i true = false) {j : Nat} (hj : (connM a i R).1.getD j true = false) : R.getD j true = false ∧ j ≠ i := set_flag ((connM_found hR h).flag j hj)
theorem parts_step {a : List Rc} {k : Nat} : ((partsN a k).1.getD k true = false ∧ (partsN a (k + 1)).1 = (connM a k (partsN a k).1).1 ∧ (partsN a (k + 1)).2 = (partsN a k).2 ++ [(connM a k (partsN a k).1).2]) ∨ ((partsN a k).1.getD k true ≠ false ∧ partsN a (k + 1) = partsN a k) := by
  by_cases c : (partsN a k).1.getD k true = false
  · refine Or.inl ⟨c, ?_, ?_⟩ <;> (rw [partsN]; rw [if_pos c])
  · refine Or.inr ⟨c, ?_⟩
    rw [partsN, if_neg c]
/-- all that holds of the parts so far. -/
structure Parted (a : List Rc) (k : Nat) : Prop where
  perm : ((partsN a k).2.flatten ++ unr a (partsN a k).1).Perm a
  flag : ∀ j, j < k → (partsN a k).1.getD j true = true
  tc : ∀ P ∈ (partsN a k).2, TC P ∧ 0 < P.length
  done : ∀ P ∈ (partsN a k).2, ∀ p ∈ P, ∀ q ∈ unr a (partsN a k).1, ¬ TouchR p q
  apart : (partsN a k).2.Pairwise fun P Q => ∀ p ∈ P, ∀ q ∈ Q, ¬ TouchR p q
  first : ∀ P ∈ (partsN a k).2, ∃ i, i < k ∧ i < a.length ∧ P.getD 0 zR = a.getD i zR ∧ ∀ p ∈ P, ∃ j, i ≤ j ∧ j < a.length ∧ p = a.getD j zR
  order : (partsN a k).2.Pairwise fun P Q => ∃ i j, i < j ∧ j < a.length ∧ P.getD 0 zR = a.getD i zR ∧ Q.getD 0 zR = a.getD j zR
theorem bool_true {b : Bool} (h : b ≠ false) : b = true := by cases b <;> simp_all
theorem parted (a : List Rc) : ∀ k, Parted a k
  | 0 => by
    refine ⟨?_, fun j h => absurd h (Nat.not_lt_zero _), fun P h => by simp [partsN] at h, fun P h => by simp [partsN] at h, by simp [partsN], fun P h => by simp [partsN] at h, by simp [partsN]⟩
    show ([] ++ unr a (List.replicate a.length false)).Perm a
    rw [unr_start]; exact List.Perm.refl _
  | k + 1 => by
    have ih := parted a k
    have hl := partsN_len a k
    rcases parts_step (a := a) (k := k) with ⟨c, e1, e2⟩ | ⟨c, e⟩
    · have hf := connM_found hl c
      have hp := connM_perm hl c
      have hk : k < a.length := hl ▸ flag_lt c
      obtain ⟨P0, hP0⟩ := hf.grow
      have hmemU : ∀ p ∈ (connM a k (partsN a k).1).2, p ∈ unr a (partsN a k).1 := fun p hpp => hp.subset (List.mem_append_left _ hpp)
      have hleft : ∀ q ∈ unr a (connM a k (partsN a k).1).1, q ∈ unr a (partsN a k).1 := fun q hq => hp.subset (List.mem_append_right _ hq)
      have hidx : ∀ q ∈ unr a (partsN a k).1, ∃ j, k ≤ j ∧ j < a.length ∧ q = a.getD j zR := fun q hq => by
        obtain ⟨j, h1, h2, h3⟩ := unr_mem.1 hq
        refine ⟨j, ?_, h1, h3⟩
        rcases Nat.lt_or_ge j k with hlt | hge
        · rw [ih.flag j hlt] at h2; cases h2
        · exact hge
      have hhead : (connM a k (partsN a k).1).2.getD 0 zR = a.getD k zR := by rw [hP0]; rfl
      have hpos : 0 < (connM a k (partsN a k).1).2.length := by rw [hP0]; simp
      refine ⟨?_, ?_, ?_, ?_, ?_, ?_, ?_⟩
      · rw [e1, e2, List.flatten_append, List.append_assoc]
        simp only [List.flatten_cons, List.flatten_nil, List.append_nil]
        exact (hp.append_left _).trans ih.perm
      · intro j hj
        rw [e1]
        refine bool_true (fun hff => ?_)
        obtain ⟨g1, g2⟩ := connM_flag hl c hff
        rw [ih.flag j (by omega)] at g1; cases g1
      · intro P hP
        rw [e2] at hP
        rcases List.mem_append.1 hP with h | h
        · exact ih.tc P h
        · rw [List.mem_singleton] at h; subst h; exact ⟨hf.tc, hpos⟩
      · intro P hP p hpp q hq
        rw [e1] at hq
        rw [e2] at hP
        rcases List.mem_append.1 hP with h | h
        · exact ih.done P h p hpp q (hleft q hq)
        · rw [List.mem_singleton] at h; subst h
          obtain ⟨m, hm, rfl⟩ := List.mem_iff_getElem.1 hpp
          obtain ⟨j, _, h2, h3⟩ := unr_mem.1 hq
          have := hf.done m hm j h2
          rw [getD_in _ _ hm, ← h3] at this
          exact this
      · rw [e2, List.pairwise_append]
        refine ⟨ih.apart, List.pairwise_singleton _ _, fun P hP Q hQ p hpp q hqq => ?_⟩
        rw [List.mem_singleton] at hQ; subst hQ
        exact ih.done P hP p hpp q (hmemU q hqq)
      · intro P hP
        rw [e2] at hP
        rcases List.mem_append.1 hP with h | h
        · obtain ⟨i, h1, h2, h3, h4⟩ := ih.first P h
          exact ⟨i, by omega, h2, h3, h4⟩
        · rw [List.mem_singleton] at h; subst h
          exact ⟨k, by omega, hk, hhead, fun p hpp => hidx p (hmemU p hpp)⟩
      · rw [e2, List.pairwise_append]
        refine ⟨ih.order, List.pairwise_singleton _ _, fun P hP Q hQ => ?_⟩
        rw [List.mem_singleton] at hQ; subst hQ
        obtain ⟨i, h1, h2, h3, h4⟩ := ih.first P hP
        exact ⟨i, k, h1, hk, h3, hhead⟩
    · obtain ⟨i1, i2, i3, i4, i5, i6, i7⟩ := ih
      refine ⟨by rw [e]; exact i1, fun j hj => ?_, by rw [e]; exact i3, by rw [e]; exact i4, by rw [e]; exact i5, fun P hP => ?_, by rw [e]; exact i7⟩
      · rw [e]
        by_cases ej : j = k
        · subst ej; exact bool_true c
        · exact i2 j (by omega)
      · rw [e] at hP
        obtain ⟨i, h1, h2⟩ := i6 P hP
        exact ⟨i, by omega, h2⟩
theorem parts_perm (a : List Rc) : (partsM a).flatten.Perm a := by
  have h := (parted a a.length).perm
  rw [unr_none (parted a a.length).flag, List.append_nil] at h
  exact h
end Go.Proofs.Ytcnojedijimheaa
