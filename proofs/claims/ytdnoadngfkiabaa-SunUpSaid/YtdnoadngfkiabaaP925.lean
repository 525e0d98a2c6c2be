/-
  Contracts of the program's layer 9, 10: Top (a range over slices.Backward).
  Masks: a list of Booleans la a number; its bits; and, minus, how many. No program in it.
-/
import Derived.Test.YtdnoadngfkiabaaP924
import Derived.RangeFuncNested
import Derived.RangeFuncBound
import Derived.RangeFuncCalls
import Derived.RangeFuncLeaves
import Derived.RangeFuncBox
import Derived.Shelf.Abstract
import Derived.Shelf.RegionOpen
import Derived.WalkKit
import Derived.OwnWalkIn
import Derived.TacticsInMore
import Derived.LoopNIn
import Derived.LoopIn
import Derived.ProofKit
set_option linter.unusedVariables false
set_option maxRecDepth 100000
namespace Go.Proofs.Ytdnoadngfkiabaa
open Go.RowKit Go.Shelf

attribute [local go_sem] Oper.semAt_some
/-- the indices from the last one down to r. -/
def rvF (len r : Nat) : List (Fin len) := ((List.finRange len).drop r).reverse
theorem rvF_all (len : Nat) : rvF len len = [] := by unfold rvF; rw [List.drop_of_length_le (by simp)]; rfl
theorem rvF_len (len r : Nat) : (rvF len r).length = len - r := by simp [rvF]
theorem rvF_next (len m : Nat) (h : m < len) : rvF len m = rvF len (m + 1) ++ [⟨m, h⟩] := by
  unfold rvF
  rw [List.drop_eq_getElem_cons (by simp; exact h), List.reverse_cons]
  simp
theorem rvF_mem {len r : Nat} {j : Fin len} : j ∈ rvF len r ↔ r ≤ j.1 := by
  unfold rvF
  rw [List.mem_reverse, List.mem_iff_getElem]
  constructor
  · rintro ⟨i, hi, e⟩
    rw [List.getElem_drop, List.getElem_finRange] at e
    rw [← e]; simp
  · intro h
    have := j.2
    exact ⟨j.1 - r, by simp; omega, by rw [List.getElem_drop, List.getElem_finRange]; ext; simp; omega⟩
def encF (S : List Sl) (Af : Nat → Option Addr) (cf : Nat → Nat) (j : Fin S.length) : Array Value := #[.int .i64 (j.1 : Int), .agg #[.int .i64 S[j.1].z0, .int .i64 S[j.1].z1, .slice (Af j.1) S[j.1].ar.length (cf j.1)]]
set_option maxHeartbeats 4000000 in
theorem back1_in (F : Fence) (n : Nat) (hf : F.fn 55) (hro : F.round = none) (hn : 1 ≤ n) (l Bs n₀ b off cap : Nat) (Ao : Option Addr) (S : List Sl) (Af : Nat → Option Addr) (cf : Nat → Nat) (hS : S.length ≤ 80) (hA : 0 < S.length → Ao = some ⟨b, off, none⟩ ∧ b < n₀) (J Jx : List (Fin S.length) → World → Prop)
    (hY : ∀ pre x W, J pre W → pre.length < S.length → YieldAt F (n - 1) Try.prog l (encF S Af cf x) W fun e W' =>
      (e = .returned (.bool true) ∧ J (pre ++ [x]) W' ∧ Below n₀ W W') ∨ (e = .returned (.bool false) ∧ Jx (pre ++ [x]) W'))
    (W : World) (hBs : W.cell? ⟨Bs, 0, none⟩ = some (.slice Ao S.length cap)) (hBn : Bs < n₀)
    (hc : ∀ j (h : j < S.length), W.cell? ⟨b, off + j * 3, none⟩ = some (.int .i64 S[j].z0) ∧ W.cell? ⟨b, off + j * 3 + 1, none⟩ = some (.int .i64 S[j].z1) ∧ W.cell? ⟨b, off + j * 3 + 2, none⟩ = some (.slice (Af j) S[j].ar.length (cf j))) (h0 : J [] W) :
    CallsIn F n Try.prog 55 #[.func (.yield l) #[] #[], .pointer (some ⟨Bs, 0, none⟩)] W fun e W' => (∃ v, e = .returned v) ∧
      ((∃ ys, ys = rvF S.length 0 ∧ J ys W') ∨ (∃ pre, (∃ r, r ≤ S.length ∧ pre = rvF S.length r) ∧ Jx pre W')) := by
  refine callsIn_of_wp Try.func55 rfl hf ?_ hro
  simp only [Try.ntmps55, List.size_toArray, List.length_cons, List.length_nil, Nat.reduceAdd, Nat.reduceSub, Array.replicate_succ, Array.replicate_zero, List.push_toArray, List.append_toArray, List.nil_append, List.cons_append]
  have q0 : IntKind.i64.wrap ((S.length : Int) - 1) = (S.length : Int) - 1 := IntWalk.i64_in _ (by omega)
  gi_wp2
  gi_loopw [3] (fun i wr => ∃ r : Nat, r ≤ S.length ∧ i = .int .i64 ((r : Int) - 1) ∧ J (rvF S.length r) wr ∧ Below n₀ W wr)
    (fun i _ => (intOf i + 1).toNat)
  case atStart => exact ⟨S.length, Nat.le_refl _, rfl, by rw [rvF_all]; exact h0, Below.refl _ _⟩
  case round =>
    obtain ⟨r, hr, rfl, hJs, hnx⟩ := hrel
    cases r with
    | zero =>
      have c0 : ¬ (0 : Int) ≤ ((0 : Nat) : Int) - 1 := by omega
      gi_wp2
      go_end0
      exact ⟨⟨_, rfl⟩, .inl hJs⟩
    | succ m =>
      have hm : m < S.length := by omega
      obtain ⟨rfl, hb⟩ := hA (by omega)
      have e1 : (((m + 1 : Nat)) : Int) - 1 = (m : Int) := by omega
      rw [e1]
      obtain ⟨x0, x1, x2⟩ := hc m hm
      have x0 := (hnx.cell (p := ⟨b, off + m * 3, none⟩) hb).trans x0
      have x1 := (hnx.cell (p := ⟨b, off + m * 3 + 1, none⟩) hb).trans x1
      have x2 := (hnx.cell (p := ⟨b, off + m * 3 + 2, none⟩) hb).trans x2
      have xb := (hnx.cell (p := ⟨Bs, 0, none⟩) hBn).trans hBs
      have n0 : (0 : Int) ≤ (m : Int) := by omega
      have n1 : (m : Int) < (S.length : Int) := by omega
      have q1 : IntKind.i64.wrap ((m : Int) - 1) = (m : Int) - 1 := IntWalk.i64_in _ (by omega)
      obtain ⟨fn, tmps, assign, body, hy, hR⟩ := hY (rvF S.length (m + 1)) ⟨m, hm⟩ wr hJs (by rw [rvF_len]; omega)
      unfold encF at hy
      dsimp only at hy
      have HNX := Lib.hid (rvF_next S.length m hm)
      gi_wp2
      refine hR.mono ?_
      rintro e W3 (⟨rfl, hJ3, hk3⟩ | ⟨rfl, hJx3⟩)
      · gi_wp2
        go_roundw
        case rel => exact ⟨m, by omega, by first | rfl | simp, by rw [HNX.out]; exact hJ3, hnx.trans hk3⟩
        case measure => simp [intOf]
      · gi_wp2
        refine bodyPost_ret (results_none rfl _ _ _) rfl ?_
        exact ⟨⟨_, rfl⟩, .inr ⟨_, ⟨m, by omega, rfl⟩, by rw [HNX.out]; exact hJx3⟩⟩
set_option maxHeartbeats 1000000 in
theorem back_in (F : Fence) (n : Nat) (h5 : F.fn 38) (hro : F.round = none) (a : Option Addr) (len cap : Nat) (w : World) :
    CallsIn F n Try.prog 38 #[.slice a len cap] w fun e w' => e = .returned (.func (.func 55) #[] #[.pointer (some ⟨w.heap.size, 0, none⟩)]) ∧ w' = w.alloc (.cells #[.slice a len cap] 23) := by
  refine callsIn_of_wp Try.func38 rfl h5 ?_ hro
  simp only [Try.ntmps38, List.size_toArray, List.length_cons, List.length_nil, Nat.reduceAdd, Nat.reduceSub, Array.replicate_succ, Array.replicate_zero, List.push_toArray, List.append_toArray, List.nil_append, List.cons_append]
  gi_wp2
  go_ret
  exact ⟨rfl, rfl⟩
/-- the slabs lie at a slice, in blocks below n₀. -/
def SlF (n₀ : Nat) (W : World) (v : Value) (S : List Sl) (Af : Nat → Option Addr) (cf : Nat → Nat) : Prop :=
  ∃ b off cap Ao, v = .slice Ao S.length cap ∧ (0 < S.length → Ao = some ⟨b, off, none⟩ ∧ b < n₀) ∧ ∀ j (h : j < S.length), W.cell? ⟨b, off + j * 3, none⟩ = some (.int .i64 S[j].z0) ∧ W.cell? ⟨b, off + j * 3 + 1, none⟩ = some (.int .i64 S[j].z1) ∧ W.cell? ⟨b, off + j * 3 + 2, none⟩ = some (.slice (Af j) S[j].ar.length (cf j))
theorem SlF.below {n₀ : Nat} {A B : World} (h : Below n₀ A B) {v : Value} {S : List Sl} {Af : Nat → Option Addr} {cf : Nat → Nat} : SlF n₀ A v S Af cf → SlF n₀ B v S Af cf := by
  rintro ⟨b, off, cap, Ao, e, hA, hc⟩
  refine ⟨b, off, cap, Ao, e, hA, fun j hj => ?_⟩
  have hb := (hA (by omega)).2
  exact ⟨(h.cell (p := ⟨b, _, none⟩) hb).trans (hc j hj).1, (h.cell (p := ⟨b, _, none⟩) hb).trans (hc j hj).2.1, (h.cell (p := ⟨b, _, none⟩) hb).trans (hc j hj).2.2⟩
theorem back_stops (F : Fence) (n : Nat) (hf : F.fn 55) (hro : F.round = none) (hn : 1 ≤ n) (Bs n₀ : Nat) (sv : Value) (S : List Sl) (Af : Nat → Option Addr) (cf : Nat → Nat) (hS : S.length ≤ 80) (w : World) (hBs : Bs < n₀) (hn₀ : n₀ ≤ w.heap.size)
    (hc : w.cell? ⟨Bs, 0, none⟩ = some sv) (hI : SlF n₀ w sv S Af cf) :
    SeqStopsK F n Try.prog 55 #[.pointer (some ⟨Bs, 0, none⟩)] (encF S Af cf) (Below n₀) (fun ys => ys = rvF S.length 0) (fun pre => ∃ r, r ≤ S.length ∧ pre = rvF S.length r) S.length w := fun l J Jx W hW _ _ hY h0 => by
  have hc' := (hW.cell (p := ⟨Bs, 0, none⟩) (Nat.lt_of_lt_of_le hBs hn₀)).trans hc
  obtain ⟨b, off, cap, Ao, rfl, hA, hcs⟩ := hI.below (hW.mono hn₀)
  refine (back1_in F n hf hro hn l Bs n₀ b off cap Ao S Af cf hS hA J Jx hY W hc' hBs hcs h0).mono ?_
  rintro e W' ⟨he, h⟩
  exact ⟨he, h⟩
/-- the height of a solid over a cell. -/
def topS (S : List Sl) (x y : Int) : Int := S.foldl (fun t s => if hasD s.ar x y = true then s.z1 else t) 0
theorem topS_none {S : List Sl} {x y : Int} (h : ∀ s ∈ S, hasD s.ar x y = false) : topS S x y = 0 := by
  have key : ∀ (T : List Sl) (t : Int), (∀ s ∈ T, hasD s.ar x y = false) → T.foldl (fun t s => if hasD s.ar x y = true then s.z1 else t) t = t := by
    intro T
    induction T with
    | nil => intro t _; rfl
    | cons s T ih =>
      intro t hT
      rw [List.foldl_cons, hT s List.mem_cons_self]
      exact ih _ (fun u hu => hT u (List.mem_cons_of_mem _ hu))
  exact key S 0 h
theorem topS_at {S : List Sl} {x y : Int} {j : Nat} (hj : j < S.length) (h1 : hasD S[j].ar x y = true) (h2 : ∀ i (h : i < S.length), j < i → hasD S[i].ar x y = false) : topS S x y = S[j].z1 := by
  have e : S = S.take j ++ S[j] :: S.drop (j + 1) := by rw [← List.drop_eq_getElem_cons hj, List.take_append_drop]
  have key : ∀ (T : List Sl) (t : Int), (∀ s ∈ T, hasD s.ar x y = false) → T.foldl (fun t s => if hasD s.ar x y = true then s.z1 else t) t = t := by
    intro T
    induction T with
    | nil => intro t _; rfl
    | cons s T ih =>
      intro t hT
      rw [List.foldl_cons, hT s List.mem_cons_self]
      exact ih _ (fun u hu => hT u (List.mem_cons_of_mem _ hu))
  unfold topS
  conv => lhs; rw [e]
  rw [List.foldl_append, List.foldl_cons, if_pos h1]
  refine key _ _ (fun s hs => ?_)
  obtain ⟨i, hi, rfl⟩ := List.mem_iff_getElem.1 hs
  rw [List.getElem_drop]
  rw [List.length_drop] at hi
  exact h2 _ (by omega) (by omega)
theorem hasB_D (l : List Rc) (x y : Int) : hasB l x y = hasD l x y := by rw [Bool.eq_iff_iff, hasB_iff, hasD_iff]
end Go.Proofs.Ytdnoadngfkiabaa
namespace Go.Proofs.Ytdnoadngfkiabaa

def mskN : List Bool → Nat
  | [] => 0
  | b :: lb => (if b = true then 1 else 0) + 2 * mskN lb
theorem mskN_t (lb : List Bool) : mskN (true :: lb) = 1 + 2 * mskN lb := rfl
theorem mskN_f (lb : List Bool) : mskN (false :: lb) = 2 * mskN lb := by rw [mskN]; simp
theorem mskN_bit (lb : List Bool) (i : Nat) : (mskN lb).testBit i = lb.getD i false := by
  induction lb generalizing i with
  | nil => simp [mskN]
  | cons b lb ih =>
    cases i with
    | zero => cases b <;> simp only [mskN_t, mskN_f, Nat.testBit_zero] <;> simp <;> omega
    | succ i =>
      rw [Nat.testBit_succ]
      have : mskN (b :: lb) / 2 = mskN lb := by cases b <;> simp only [mskN_t, mskN_f] <;> omega
      rw [this, ih]; rfl
theorem mskN_lt (lb : List Bool) : mskN lb < 2 ^ lb.length := by
  induction lb with
  | nil => decide
  | cons b lb ih =>
    have : 2 ^ (b :: lb).length = 2 * 2 ^ lb.length := by rw [List.length_cons, Nat.pow_succ]; omega
    rw [this]
    cases b <;> simp only [mskN_t, mskN_f] <;> omega
theorem mskN_and (la lb : List Bool) : mskN la &&& mskN lb = mskN (List.zipWith (fun a b => a && b) la lb) := by
  apply Nat.eq_of_testBit_eq
  intro i
  rw [Nat.testBit_and, mskN_bit, mskN_bit, mskN_bit]
  simp only [List.getD_eq_getElem?_getD, List.getElem?_zipWith]
  cases la[i]? <;> cases lb[i]? <;> simp
/-- what is in both and what is in the first alone add up. -/
theorem mskN_split {la lb : List Bool} (hl : la.length = lb.length) : mskN (List.zipWith (fun a b => a && b) la lb) + mskN (List.zipWith (fun a b => a && !b) la lb) = mskN la := by
  induction la generalizing lb with
  | nil => rfl
  | cons a la ih =>
    cases lb with
    | nil => cases hl
    | cons b lb =>
      have := ih (Nat.succ.inj hl)
      simp only [List.zipWith_cons_cons]
      cases a <;> cases b <;> simp only [Bool.and_true, Bool.and_false, Bool.not_true, Bool.not_false, mskN_t, mskN_f] <;> omega
/-- how many bits below k are set. -/
def popN : Nat → Nat → Nat
  | 0, _ => 0
  | k + 1, m => popN k m + (if m.testBit k = true then 1 else 0)
theorem popN_zero (k : Nat) : popN k 0 = 0 := by induction k with
  | zero => rfl
  | succ k ih => simp [popN, ih]
theorem popN_half (k m : Nat) : popN (k + 1) m = (if m.testBit 0 = true then 1 else 0) + popN k (m / 2) := by
  induction k with
  | zero => simp [popN]
  | succ k ih =>
    rw [popN, ih, popN, Nat.testBit_succ]
    omega
theorem popN_msk (lb : List Bool) (k : Nat) (h : lb.length ≤ k) : popN k (mskN lb) = lb.count true := by
  induction lb generalizing k with
  | nil => rw [mskN, popN_zero]; rfl
  | cons b lb ih =>
    obtain ⟨j, rfl⟩ : ∃ j, k = j + 1 := ⟨k - 1, by simp at h; omega⟩
    have e : mskN (b :: lb) / 2 = mskN lb := by cases b <;> simp only [mskN_t, mskN_f] <;> omega
    rw [popN_half, e, ih j (by simp at h; omega), mskN_bit]
    cases b <;> simp <;> omega
theorem count_split {la lb : List Bool} (hl : la.length = lb.length) : (List.zipWith (fun a b => a && b) la lb).count true + (List.zipWith (fun a b => a && !b) la lb).count true = la.count true := by
  have h1 : (List.zipWith (fun a b => a && b) la lb).length ≤ la.length := by rw [List.length_zipWith]; omega
  induction la generalizing lb with
  | nil => rfl
  | cons a la ih =>
    cases lb with
    | nil => cases hl
    | cons b lb =>
      have := ih (Nat.succ.inj hl) (by rw [List.length_zipWith]; omega)
      simp only [List.zipWith_cons_cons, List.count_cons]
      cases a <;> cases b <;> simp <;> omega
/-- bit i of a mask la the program asks for it. -/
theorem mskN_shift (lb : List Bool) (i : Nat) : ((mskN lb : Nat) : Int) / 2 ^ i % 2 = (if lb.getD i false = true then 1 else 0) := by
  rw [← mskN_bit]
  have e : ((mskN lb : Nat) : Int) / 2 ^ i % 2 = ((mskN lb / 2 ^ i % 2 : Nat) : Int) := by simp
  rw [e, Nat.testBit_eq_decide_div_mod_eq]
  have := Nat.mod_lt (mskN lb / 2 ^ i) (show 0 < 2 by decide)
  by_cases h : mskN lb / 2 ^ i % 2 = 1
  · rw [h]; rfl
  · have h0 : mskN lb / 2 ^ i % 2 = 0 := by omega
    rw [h0]; rfl
end Go.Proofs.Ytdnoadngfkiabaa
