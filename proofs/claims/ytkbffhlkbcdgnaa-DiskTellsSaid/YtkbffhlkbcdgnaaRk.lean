/-
  The reference's disk and the plain model: each step of the one is a step of the other.
-/
import Derived.Test.YtkbffhlkbcdgnaaRj
set_option linter.unusedVariables false
namespace Go.Proofs.Ytkbffhlkbcdgnaa
open Go.RowKit

/-- the reference's disk s is the disk d. -/
structure Rep (s : RSt) (d : Dk) : Prop where
  now : ∀ f, (rget s.fl f).2.1.data.toList = d.now f
  last : ∀ f, (rget s.fl f).2.2.data.toList = d.last f
  q : s.q = d.q
  lost : s.lost = d.lost
  down : s.down = d.down
  armed : s.armed = d.armed
  keep : d.armed ≠ 0 → s.keep = d.keep

theorem rep_new : Rep rNew Dk.new := ⟨fun _ => rfl, fun _ => rfl, rfl, rfl, rfl, rfl, fun h => absurd rfl h⟩

theorem rep_added {s : RSt} {d : Dk} (h : Rep s d) (f : Int) (a : Nat) (t : List UInt8) : Rep (s.added f a t) (d.add f a t) := by
  unfold RSt.added Dk.add
  by_cases ht : t = []
  · rw [if_pos ht, if_pos ht]; exact h
  · rw [if_neg ht, if_neg ht]
    refine ⟨fun g => ?_, fun g => ?_, by simp only [h.q], h.lost, h.down, h.armed, h.keep⟩
    · simp only [rget_set, show (rNow s f a t).1 = f from rfl]
      by_cases c : g = f
      · subst c
        rw [if_pos rfl, upd_same]
        show (bsOf _).data.toList = _
        rw [bsOf_list, h.now]
      · rw [if_neg c, upd_other c]; exact h.now g
    · simp only [rget_set, show (rNow s f a t).1 = f from rfl]
      by_cases c : g = f
      · subst c
        rw [if_pos rfl]; exact h.last g
      · rw [if_neg c]; exact h.last g

theorem rep_settled {s : RSt} {d : Dk} (h : Rep s d) (f : Int) (x : ByteArray) : Rep (s.settled f x) (d.settle f x.data.toList) := by
  unfold RSt.settled Dk.settle
  refine ⟨fun g => ?_, fun g => ?_, ?_, h.lost, h.down, h.armed, h.keep⟩
  · simp only [rget_set]
    by_cases c : g = f
    · rw [if_pos c, c, upd_same]
    · rw [if_neg c, upd_other c]; exact h.now g
  · simp only [rget_set]
    by_cases c : g = f
    · rw [if_pos c, c, upd_same]
    · rw [if_neg c, upd_other c]; exact h.last g
  · simp only [h.q]
    congr 1
    funext y
    by_cases c : y.1 = f
    · simp [c]
    · simp [c]

theorem left_snoc (keep : List Int) (x : Int × Nat) : ∀ (l : List (Int × Nat)) (j : Nat), left keep j (l ++ [x]) = left keep j l ++ (if oddAt keep (j + l.length) then [x] else []) := by
  intro l
  induction l with
  | nil =>
    intro j
    simp only [List.nil_append, left, List.length_nil, Nat.add_zero]
  | cons y l ih =>
    intro j
    simp only [List.cons_append, left, ih, List.length_cons]
    rw [show j + 1 + l.length = j + (l.length + 1) by omega]
    split
    · simp
    · rfl
/-- a file of a sector that survives. -/
theorem surv_rep {l : List RFile} {now L : Int → List UInt8} (h1 : ∀ f, (rget l f).2.1.data.toList = now f) (h2 : ∀ f, (rget l f).2.2.data.toList = L f) (x : Int × Nat) :
    (∀ f, (rget (rset l (rSurv l x)) f).2.1.data.toList = now f) ∧ ∀ f, (rget (rset l (rSurv l x)) f).2.2.data.toList = surv now L x f := by
  have hs : (rget l x.1).2.1.size = (now x.1).length := by rw [← h1 x.1]; exact Array.length_toList.symm
  constructor
  · intro f
    rw [rget_set, rSurv_one]
    by_cases c : f = x.1
    · rw [if_pos c, c]
      unfold rSurv
      split
      · exact h1 x.1
      · exact h1 x.1
    · rw [if_neg c]; exact h1 f
  · intro f
    rw [rget_set, rSurv_one]
    unfold surv
    by_cases c : f = x.1
    · rw [if_pos c, c, upd_same]
      unfold rSurv
      by_cases hl : 64 * x.2 < (rget l x.1).2.1.size
      · rw [if_pos hl]
        show (bsOf _).data.toList = _
        rw [bsOf_list, h1, h2]
      · rw [if_neg hl, h2]
        have e : sec (now x.1) x.2 = [] := by
          have := sec_length (now x.1) x.2
          exact List.length_eq_zero_iff.1 (by omega)
        rw [e, put_nil]
    · rw [if_neg c, upd_other c]; exact h2 f
theorem after_rep {l : List RFile} {now L : Int → List UInt8} (h1 : ∀ f, (rget l f).2.1.data.toList = now f) (h2 : ∀ f, (rget l f).2.2.data.toList = L f) (keep : List Int) (q : List (Int × Nat)) :
    ∀ i, i ≤ q.length → (∀ f, (rget (rAfter l keep q i) f).2.1.data.toList = now f) ∧ ∀ f, (rget (rAfter l keep q i) f).2.2.data.toList = survs now L (left keep 0 (q.take i)) f := by
  intro i
  induction i with
  | zero => intro _; exact ⟨h1, fun f => by simp only [List.take_zero, left, survs, List.foldl_nil]; exact h2 f⟩
  | succ i ih =>
    intro hi
    have hlt : i < q.length := by omega
    obtain ⟨k1, k2⟩ := ih (by omega)
    rw [rAfter_next l keep q i hlt, List.take_succ_eq_append_getElem hlt, left_snoc, List.length_take, Nat.min_eq_left (by omega), Nat.zero_add]
    by_cases ho : oddAt keep i = true
    · rw [if_pos ho, if_pos ho]
      have := surv_rep k1 k2 q[i]
      refine ⟨this.1, fun f => ?_⟩
      rw [this.2 f]
      simp only [survs, List.foldl_append, List.foldl_cons, List.foldl_nil]
    · rw [if_neg ho, if_neg ho, List.append_nil]
      exact ⟨k1, k2⟩

theorem rep_crashed {s : RSt} {d : Dk} (h : Rep s d) (keep : List Int) : Rep (s.crashed keep) (d.crash keep) := by
  unfold RSt.crashed Dk.crash
  by_cases hd : s.down = true
  · rw [if_pos hd, if_pos (by rw [← h.down]; exact hd)]; exact h
  · rw [if_neg hd, if_neg (by rw [← h.down]; exact hd)]
    have ha := (after_rep h.now h.last keep s.q s.q.length (Nat.le_refl _)).2
    rw [List.take_length] at ha
    have hc : ∀ f, (rget (rAfter s.fl keep s.q s.q.length) f).2.2.data.toList = d.crashed keep f := fun f => by
      rw [ha f, Dk.crashed, h.q]
    refine ⟨fun f => ?_, fun f => ?_, rfl, h.lost, rfl, rfl, fun e => absurd rfl e⟩
    · simp only [rget_fall]; exact hc f
    · simp only [rget_fall]; exact hc f

end Go.Proofs.Ytkbffhlkbcdgnaa
