/-
  Contracts of the program's layer 9, 10: Top (a range over slices.Backward).
  Masks: a list of Booleans la a number; its bits; and, minus, how many. No program in it.
-/
import Derived.Test.YtdnoadngfkiabaaU30
import Derived.RangeFuncNested
import Derived.RangeFuncBound
import Derived.RangeFuncCalls
import Derived.RangeFuncLeaves
import Derived.RangeFuncBox
import Derived.Shelf.Abstract
import Derived.Shelf.RegionOpen
import Derived.WalkKit
import Derived.OwnWalkIn
import Derived.TacticsInMore
import Derived.LoopNIn
import Derived.LoopIn
import Derived.ProofKit
set_option linter.unusedVariables false
set_option maxRecDepth 100000
namespace Go.Proofs.Ytdnoadngfkiabaa
open Go.RowKit Go.Shelf

attribute [local go_sem] Oper.semAt_some
/-- the slabs lie at a slice, in blocks below n₀. -/
def SlF (n₀ : Nat) (W : World) (v : Value) (S : List Sl) (Af : Nat → Option Addr) (cf : Nat → Nat) : Prop :=
  ∃ b off cap Ao, v = .slice Ao S.length cap ∧ (0 < S.length → Ao = some ⟨b, off, none⟩ ∧ b < n₀) ∧ ∀ j (h : j < S.length), W.cell? ⟨b, off + j * 3, none⟩ = some (.int .i64 S[j].z0) ∧ W.cell? ⟨b, off + j * 3 + 1, none⟩ = some (.int .i64 S[j].z1) ∧ W.cell? ⟨b, off + j * 3 + 2, none⟩ = some (.slice (Af j) S[j].ar.length (cf j))
theorem SlF.below {n₀ : Nat} {A B : World} (h : Below n₀ A B) {v : Value} {S : List Sl} {Af : Nat → Option Addr} {cf : Nat → Nat} : SlF n₀ A v S Af cf → SlF n₀ B v S Af cf := by
  rintro ⟨b, off, cap, Ao, e, hA, hc⟩
  refine ⟨b, off, cap, Ao, e, hA, fun j hj => ?_⟩
  have hb := (hA (by omega)).2
  exact ⟨(h.cell (p := ⟨b, _, none⟩) hb).trans (hc j hj).1, (h.cell (p := ⟨b, _, none⟩) hb).trans (hc j hj).2.1, (h.cell (p := ⟨b, _, none⟩) hb).trans (hc j hj).2.2⟩
end Go.Proofs.Ytdnoadngfkiabaa
namespace Go.Proofs.Ytdnoadngfkiabaa

def mskN : List Bool → Nat
  | [] => 0
  | b :: lb => (if b = true then 1 else 0) + 2 * mskN lb
theorem mskN_t (lb : List Bool) : mskN (true :: lb) = 1 + 2 * mskN lb := rfl
theorem mskN_f (lb : List Bool) : mskN (false :: lb) = 2 * mskN lb := by rw [mskN]; simp
theorem mskN_bit (lb : List Bool) (i : Nat) : (mskN lb).testBit i = lb.getD i false := by
  induction lb generalizing i with
  | nil => simp [mskN]
  | cons b lb ih =>
    cases i with
    | zero => cases b <;> simp only [mskN_t, mskN_f, Nat.testBit_zero] <;> simp <;> omega
    | succ i =>
      rw [Nat.testBit_succ]
      have : mskN (b :: lb) / 2 = mskN lb := by cases b <;> simp only [mskN_t, mskN_f] <;> omega
      rw [this, ih]; rfl
theorem mskN_lt (lb : List Bool) : mskN lb < 2 ^ lb.length := by
  induction lb with
  | nil => decide
  | cons b lb ih =>
    have : 2 ^ (b :: lb).length = 2 * 2 ^ lb.length := by rw [List.length_cons, Nat.pow_succ]; omega
    rw [this]
    cases b <;> simp only [mskN_t, mskN_f] <;> omega
theorem mskN_snoc (lb : List Bool) (b : Bool) : mskN (lb ++ [b]) = mskN lb + (if b = true then 2 ^ lb.length else 0) := by
  induction lb with
  | nil => cases b <;> rfl
  | cons c lb ih =>
    have h2 : 2 ^ (c :: lb).length = 2 * 2 ^ lb.length := by rw [List.length_cons, Nat.pow_succ]; omega
    rw [List.cons_append]
    cases c <;> cases b <;> simp only [mskN_t, mskN_f, ih, h2] <;> simp <;> omega
theorem mskN_and (la lb : List Bool) : mskN la &&& mskN lb = mskN (List.zipWith (fun a b => a && b) la lb) := by
  apply Nat.eq_of_testBit_eq
  intro i
  rw [Nat.testBit_and, mskN_bit, mskN_bit, mskN_bit]
  simp only [List.getD_eq_getElem?_getD, List.getElem?_zipWith]
  cases la[i]? <;> cases lb[i]? <;> simp
/-- what is in both and what is in the first alone add up. -/
theorem mskN_split {la lb : List Bool} (hl : la.length = lb.length) : mskN (List.zipWith (fun a b => a && b) la lb) + mskN (List.zipWith (fun a b => a && !b) la lb) = mskN la := by
  induction la generalizing lb with
  | nil => rfl
  | cons a la ih =>
    cases lb with
    | nil => cases hl
    | cons b lb =>
      have := ih (Nat.succ.inj hl)
      simp only [List.zipWith_cons_cons]
      cases a <;> cases b <;> simp only [Bool.and_true, Bool.and_false, Bool.not_true, Bool.not_false, mskN_t, mskN_f] <;> omega
/-- how many bits below k are set. -/
def popN : Nat → Nat → Nat
  | 0, _ => 0
  | k + 1, m => popN k m + (if m.testBit k = true then 1 else 0)
theorem popN_half (k m : Nat) : popN (k + 1) m = (if m.testBit 0 = true then 1 else 0) + popN k (m / 2) := by
  induction k with
  | zero => simp [popN]
  | succ k ih =>
    rw [popN, ih, popN, Nat.testBit_succ]
    omega
/-- bit i of a mask la the program asks for it. -/
theorem mskN_shift (lb : List Bool) (i : Nat) : ((mskN lb : Nat) : Int) / 2 ^ i % 2 = (if lb.getD i false = true then 1 else 0) := by
  rw [← mskN_bit]
  have e : ((mskN lb : Nat) : Int) / 2 ^ i % 2 = ((mskN lb / 2 ^ i % 2 : Nat) : Int) := by simp
  rw [e, Nat.testBit_eq_decide_div_mod_eq]
  have := Nat.mod_lt (mskN lb / 2 ^ i) (show 0 < 2 by decide)
  by_cases h : mskN lb / 2 ^ i % 2 = 1
  · rw [h]; rfl
  · have h0 : mskN lb / 2 ^ i % 2 = 0 := by omega
    rw [h0]; rfl
end Go.Proofs.Ytdnoadngfkiabaa
