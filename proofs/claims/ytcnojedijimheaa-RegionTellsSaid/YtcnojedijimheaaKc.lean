/-
  Plain model of the parts of a region: which rectangles are reached, in which order.
-/
import Derived.Test.YtcnojedijimheaaKb
set_option linter.unusedVariables false
namespace Go.Proofs.Ytcnojedijimheaa

theorem getD_in {α : Type} (l : List α) (d : α) {i : Nat} (h : i < l.length) : l.getD i d = l[i] := by simp [h]
theorem getD_out {α : Type} (l : List α) (d : α) {i : Nat} (h : l.length ≤ i) : l.getD i d = d := by simp [h]
abbrev CS := List Bool × List Rc
/-- one rectangle is looked at from another one. -/
def lookI (a : List Rc) (u : Rc) (i : Nat) (s : CS) : CS := if s.1.getD i true = false ∧ TouchR u (a.getD i zR) then (s.1.set i true, s.2 ++ [a.getD i zR]) else s
def lookN (a : List Rc) (u : Rc) : Nat → CS → CS
  | 0, s => s
  | k + 1, s => lookI a u k (lookN a u k s)
def connF (a : List Rc) : Nat → Nat → CS → CS
  | 0, _, s => s
  | f + 1, n, s => if n < s.2.length then connF a f (n + 1) (lookN a (s.2.getD n zR) a.length s) else s
def connR (a : List Rc) (n : Nat) (s : CS) : CS := connF a (a.length + 1 - n) n s
theorem connR_step {a : List Rc} {n : Nat} {s : CS} (h : n < s.2.length) (hs : s.2.length ≤ a.length) : connR a n s = connR a (n + 1) (lookN a (s.2.getD n zR) a.length s) := by
  unfold connR
  rw [show a.length + 1 - n = (a.length + 1 - (n + 1)) + 1 by omega]
  show (if n < s.2.length then _ else _) = _
  rw [if_pos h]
theorem connR_end {a : List Rc} {n : Nat} {s : CS} (h : ¬ n < s.2.length) : connR a n s = s := by
  unfold connR
  cases a.length + 1 - n with
  | zero => rfl
  | succ f => show (if n < s.2.length then _ else _) = _; rw [if_neg h]
/-- how many are left. -/
def left (R : List Bool) : Nat := R.count false
theorem left_set {R : List Bool} {i : Nat} (h : R.getD i true = false) : left (R.set i true) + 1 = left R := by
  have hi : i < R.length := by
    by_cases c : i < R.length
    · exact c
    · rw [getD_out _ _ (by omega)] at h; cases h
  have e : R[i] = false := by rw [getD_in _ _ hi] at h; exact h
  unfold left
  have hpos : 0 < R.count false := List.count_pos_iff.2 (e ▸ List.getElem_mem hi)
  rw [List.count_set hi, e]
  simp
  omega
/-- what holds of the state all along. -/
def CInv (a : List Rc) (s : CS) : Prop := s.1.length = a.length ∧ s.2.length + left s.1 ≤ a.length
theorem look_inv {a : List Rc} {u : Rc} {i : Nat} {s : CS} (h : CInv a s) : CInv a (lookI a u i s) := by
  unfold lookI
  split
  · next c =>
    have := left_set c.1
    obtain ⟨h1, h2⟩ := h
    refine ⟨by simp [h1], ?_⟩
    show (s.2 ++ [_]).length + left (s.1.set i true) ≤ a.length
    rw [List.length_append, List.length_singleton]
    omega
  · exact h
theorem lookN_inv {a : List Rc} {u : Rc} {s : CS} (h : CInv a s) : ∀ k, CInv a (lookN a u k s)
  | 0 => h
  | k + 1 => look_inv (lookN_inv h k)
theorem look_grow {a : List Rc} {u : Rc} {i : Nat} {s : CS} : ∃ P, (lookI a u i s).2 = s.2 ++ P := by
  unfold lookI
  split
  · exact ⟨_, rfl⟩
  · exact ⟨[], by simp⟩
theorem lookN_grow {a : List Rc} {u : Rc} {s : CS} : ∀ k, ∃ P, (lookN a u k s).2 = s.2 ++ P
  | 0 => ⟨[], by simp [lookN]⟩
  | k + 1 => by
    obtain ⟨P, hP⟩ := lookN_grow (a := a) (u := u) (s := s) k
    obtain ⟨Q, hQ⟩ := look_grow (a := a) (u := u) (i := k) (s := lookN a u k s)
    exact ⟨P ++ Q, by show (lookI a u k (lookN a u k s)).2 = _; rw [hQ, hP, List.append_assoc]⟩
def connM (a : List Rc) (i : Nat) (R : List Bool) : CS := connR a 0 (R.set i true, [a.getD i zR])
theorem conn_start {a : List Rc} {i : Nat} {R : List Bool} (hR : R.length = a.length) (h : R.getD i true = false) : CInv a (R.set i true, [a.getD i zR]) := by
  have := left_set h
  have h2 : left R ≤ R.length := List.count_le_length
  exact ⟨by simp [hR], by simp; omega⟩
theorem connF_inv {a : List Rc} : ∀ (f n : Nat) (s : CS), CInv a s → CInv a (connF a f n s)
  | 0, _, _, h => h
  | f + 1, n, s, h => by
    show CInv a (if n < s.2.length then _ else _)
    split
    · exact connF_inv f (n + 1) _ (lookN_inv h _)
    · exact h
theorem connM_len {a : List Rc} {i : Nat} {R : List Bool} (hR : R.length = a.length) (h : R.getD i true = false) : (connM a i R).1.length = a.length ∧ (connM a i R).2.length ≤ a.length := by
  have := connF_inv (a.length + 1 - 0) 0 _ (conn_start hR h)
  exact ⟨this.1, Nat.le_trans (Nat.le_add_right _ _) this.2⟩
/-- the parts so far: who is reached, and the rectangles of each part. -/
def partsN (a : List Rc) : Nat → List Bool × List (List Rc)
  | 0 => (List.replicate a.length false, [])
  | k + 1 => if (partsN a k).1.getD k true = false then ((connM a k (partsN a k).1).1, (partsN a k).2 ++ [(connM a k (partsN a k).1).2]) else partsN a k
theorem partsN_len (a : List Rc) : ∀ k, (partsN a k).1.length = a.length
  | 0 => by simp [partsN]
  | k + 1 => by
    unfold partsN
    split
    · next c => exact (connM_len (partsN_len a k) c).1
    · exact partsN_len a k
theorem partsN_le (a : List Rc) : ∀ k, (partsN a k).2.length ≤ k
  | 0 => by simp [partsN]
  | k + 1 => by
    unfold partsN
    split
    · next c => simp; exact partsN_le a k
    · exact Nat.le_succ_of_le (partsN_le a k)
theorem partsN_each (a : List Rc) : ∀ k, ∀ p ∈ (partsN a k).2, p.length ≤ a.length
  | 0 => by simp [partsN]
  | k + 1 => by
    unfold partsN
    split
    · next c =>
      intro p hp
      rcases List.mem_append.1 hp with h | h
      · exact partsN_each a k p h
      · rw [List.mem_singleton] at h; subst h; exact (connM_len (partsN_len a k) c).2
    · exact partsN_each a k
def partsM (a : List Rc) : List (List Rc) := (partsN a a.length).2
/-! ### moved -/
theorem mv_getD {dx dy : Int} {a : List Rc} {i : Nat} (h : i < a.length) : (mvL dx dy a).getD i zR = mvR dx dy (a.getD i zR) := by
  have h2 : i < (mvL dx dy a).length := by rw [mv_len]; exact h
  rw [getD_in _ _ h, getD_in _ _ h2]
  simp [mvL]
def SubOf (P a : List Rc) : Prop := ∀ r ∈ P, r ∈ a
theorem getD_mem {a : List Rc} {i : Nat} (h : i < a.length) : a.getD i zR ∈ a := by rw [getD_in _ _ h]; exact List.getElem_mem h
theorem flag_lt {R : List Bool} {i : Nat} (h : R.getD i true = false) : i < R.length := by
  by_cases c : i < R.length
  · exact c
  · rw [getD_out _ _ (by omega)] at h; cases h
theorem look_sub {a : List Rc} {u : Rc} {i : Nat} {s : CS} (hl : s.1.length = a.length) (h : SubOf s.2 a) : SubOf (lookI a u i s).2 a := by
  unfold lookI
  split
  · next c =>
    intro r hr
    rcases List.mem_append.1 hr with hr | hr
    · exact h r hr
    · rw [List.mem_singleton] at hr; subst hr; exact getD_mem (hl ▸ flag_lt c.1)
  · exact h
theorem lookN_sub {a : List Rc} {u : Rc} {s : CS} (hc : CInv a s) (h : SubOf s.2 a) : ∀ k, SubOf (lookN a u k s).2 a
  | 0 => h
  | k + 1 => look_sub (lookN_inv hc k).1 (lookN_sub hc h k)
section
variable {dx dy : Int} {a : List Rc} (ha : ∀ r ∈ a, ROk r) (hm : MvOk dx dy a)
include ha hm
theorem look_mv {u : Rc} (hu : u ∈ a) (i : Nat) (s : CS) (hl : s.1.length = a.length) : lookI (mvL dx dy a) (mvR dx dy u) i (s.1, mvL dx dy s.2) = ((lookI a u i s).1, mvL dx dy (lookI a u i s).2) := by
  unfold lookI
  by_cases c : s.1.getD i true = false
  · have hi : i < a.length := hl ▸ flag_lt c
    have hmem := getD_mem hi
    rw [mv_getD hi]
    have e := touch_mv (ha u hu) (ha _ hmem) (hm u hu) (hm _ hmem)
    by_cases t : TouchR u (a.getD i zR)
    · rw [if_pos ⟨c, e.2 t⟩, if_pos ⟨c, t⟩]
      simp [mvL]
    · rw [if_neg (fun h => t (e.1 h.2)), if_neg (fun h => t h.2)]
  · rw [if_neg (fun h => c h.1), if_neg (fun h => c h.1)]
theorem lookN_mv {u : Rc} (hu : u ∈ a) (s : CS) (hc : CInv a s) : ∀ k, lookN (mvL dx dy a) (mvR dx dy u) k (s.1, mvL dx dy s.2) = ((lookN a u k s).1, mvL dx dy (lookN a u k s).2)
  | 0 => rfl
  | k + 1 => by
    show lookI _ _ k (lookN _ _ k _) = _
    rw [lookN_mv hu s hc k, look_mv ha hm hu k (lookN a u k s) (lookN_inv hc k).1]
    rfl
theorem connF_mv : ∀ (f n : Nat) (s : CS), CInv a s → SubOf s.2 a → connF (mvL dx dy a) f n (s.1, mvL dx dy s.2) = ((connF a f n s).1, mvL dx dy (connF a f n s).2)
  | 0, _, _, _, _ => rfl
  | f + 1, n, s, hc, hs => by
    show (if n < (mvL dx dy s.2).length then _ else _) = ((if n < s.2.length then _ else _ : CS).1, mvL dx dy (if n < s.2.length then _ else _ : CS).2)
    rw [mv_len]
    by_cases c : n < s.2.length
    · simp only [if_pos c]
      rw [mv_getD c, mv_len, lookN_mv ha hm (hs _ (getD_mem c)) s hc a.length]
      exact connF_mv f (n + 1) _ (lookN_inv hc _) (lookN_sub hc hs _)
    · simp only [if_neg c]
theorem partsN_mv : ∀ k, partsN (mvL dx dy a) k = ((partsN a k).1, (partsN a k).2.map (mvL dx dy))
  | 0 => by simp [partsN, mv_len]
  | k + 1 => by
    unfold partsN
    rw [partsN_mv k]
    by_cases c : (partsN a k).1.getD k true = false
    · have hk : k < a.length := partsN_len a k ▸ flag_lt c
      have e : connM (mvL dx dy a) k (partsN a k).1 = ((connM a k (partsN a k).1).1, mvL dx dy (connM a k (partsN a k).1).2) := by
        unfold connM connR
        rw [mv_len, mv_getD hk]
        exact connF_mv ha hm _ 0 ((partsN a k).1.set k true, [a.getD k zR]) (conn_start (partsN_len a k) c) (fun r hr => by rw [List.mem_singleton] at hr; subst hr; exact getD_mem hk)
      simp only [if_pos c, e]
      simp
    · simp only [if_neg c]
theorem parts_mv : (partsM (mvL dx dy a)).length = (partsM a).length := by
  unfold partsM
  rw [mv_len, partsN_mv ha hm]
  simp
end
end Go.Proofs.Ytcnojedijimheaa
