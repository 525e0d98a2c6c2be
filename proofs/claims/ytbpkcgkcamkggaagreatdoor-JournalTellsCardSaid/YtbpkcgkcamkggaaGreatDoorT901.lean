/-
  What the texts of both disks build on.
  The reference's disk as it lies in memory, and contracts of its readers: New, Down, get, Size, may, fits, pending.
  Contracts of the reference's readers (2): Size, fits, pending, may, Read.
-/
import Derived.Test.YtbpkcgkcamkggaaGreatDoorProg
import Derived.Test.YtbpkcgkcamkggaaGreatDoorT900
import Derived.WalkKit
import Derived.Lib.Hide
import Derived.WalkLawsBesides
import Derived.WalkSpells
import Derived.Outline
import Derived.BigQuiet
import Derived.Deep.QuietTactic
import Derived.OwnWalk
import Derived.Deep.OwnRows
import Derived.Laws.OwnMore
set_option linter.unusedVariables false
namespace Go.Proofs.YtbpkcgkcamkggaaGreatDoor
open Go.RowKit

/-- the cells of a list of pending sectors. -/
def qcells (l : List (Int × Nat)) : List Value := l.flatMap fun x => [.int .i64 x.1, .int .i64 (x.2 : Int)]
theorem qcells_length (l : List (Int × Nat)) : (qcells l).length = l.length * 2 := by
  induction l with
  | nil => rfl
  | cons x l ih => simp only [qcells, List.flatMap_cons, List.length_append, List.length_cons, List.length_nil] at ih ⊢; omega
theorem qcells_at (l : List (Int × Nat)) : ∀ (j : Nat) (h : j < l.length), (qcells l)[j * 2]? = some (.int .i64 l[j].1) ∧ (qcells l)[j * 2 + 1]? = some (.int .i64 (l[j].2 : Int)) := by
  induction l with
  | nil => intro j h; simp at h
  | cons x l ih =>
    intro j h
    cases j with
    | zero => exact ⟨rfl, rfl⟩
    | succ j =>
      have h2 : j < l.length := by simpa using h
      have h3 := ih j h2
      have e : ∀ i, (qcells (x :: l))[i + 2]? = (qcells l)[i]? := fun i => by
        show ([Value.int .i64 x.1, .int .i64 (x.2 : Int)] ++ qcells l)[i + 2]? = _
        rw [List.getElem?_append_right (by simp)]; simp
      simp only [List.getElem_cons_succ]
      rw [show (j + 1) * 2 = j * 2 + 2 by omega, show j * 2 + 2 + 1 = j * 2 + 1 + 2 by omega, e, e]
      exact h3
/-- what a list's value is: its address and its elements' cells. -/
theorem own_parts {w : World} {B e size n : Nat} {v : Value} {xs : List Value} (h : w.ownsRow B e size v n xs) :
    ∃ A cap, v = .slice A n cap ∧ (0 < n → ∃ g, A = some ⟨g, 0, none⟩ ∧ g < w.heap.size ∧ ∀ j, j < n * size → w.cell? ⟨g, j, none⟩ = xs[j]?) := by
  obtain ⟨hl, hv⟩ := h
  rcases hv with ⟨rfl, rfl⟩ | ⟨g, cap, cur, rfl, hB, hg, h2⟩
  · exact ⟨none, 0, rfl, fun h => absurd h (Nat.lt_irrefl _)⟩
  · refine ⟨_, cap, rfl, fun _ => ⟨g, rfl, ?_, fun j hj => ?_⟩⟩
    · rcases Nat.lt_or_ge g w.heap.size with hlt | hge
      · exact hlt
      · rw [Array.getElem?_eq_none hge] at hg; cases hg
    · exact World.ownsRow.cellAt ⟨hl, .inr ⟨g, cap, cur, rfl, hB, hg, h2⟩⟩ j hj


/-- an int of 64 bits. -/
def In64 (n : Int) : Prop := -9223372036854775808 ≤ n ∧ n ≤ 9223372036854775807

end Go.Proofs.YtbpkcgkcamkggaaGreatDoor
namespace Go.Proofs.YtbpkcgkcamkggaaGreatDoor
open Go.RowKit

/-- the cells of the reference's list of files. -/
def fcells (l : List RFile) : List Value := l.flatMap fun x => [.int .i64 x.1, .string x.2.1, .string x.2.2]
theorem fcells_at (l : List RFile) : ∀ (j : Nat) (h : j < l.length), (fcells l)[j * 3]? = some (.int .i64 l[j].1) ∧ (fcells l)[j * 3 + 1]? = some (.string l[j].2.1) ∧ (fcells l)[j * 3 + 2]? = some (.string l[j].2.2) := by
  induction l with
  | nil => intro j h; simp at h
  | cons x l ih =>
    intro j h
    cases j with
    | zero => exact ⟨rfl, rfl, rfl⟩
    | succ j =>
      have h2 : j < l.length := by simpa using h
      have h3 := ih j h2
      have e : ∀ i, (fcells (x :: l))[i + 3]? = (fcells l)[i]? := fun i => by
        show ([Value.int .i64 x.1, .string x.2.1, .string x.2.2] ++ fcells l)[i + 3]? = _
        rw [List.getElem?_append_right (by simp)]; simp
      simp only [List.getElem_cons_succ]
      rw [show (j + 1) * 3 = j * 3 + 3 by omega, show j * 3 + 3 + 1 = j * 3 + 1 + 3 by omega, show j * 3 + 3 + 2 = j * 3 + 2 + 3 by omega, e, e, e]
      exact h3

/-- the reference's disk: what its block r and its three lists hold; all of it lies from block B on. -/
structure RSt where
  fl : List RFile
  q : List (Int × Nat)
  lost : Nat
  down : Bool
  armed : Nat
  keep : List Int

def RAt (r B : Nat) (s : RSt) (w : World) : Prop :=
  ∃ Fv Qv Kv, w.heap[r]? = some (.cells #[Fv, Qv, .int .i64 (s.lost : Int), .bool s.down, .int .i64 (s.armed : Int), Kv] 68 (0, 0)) ∧
    w.ownsRow B 86 3 Fv s.fl.length (fcells s.fl) ∧
    w.ownsRow B 84 2 Qv s.q.length (qcells s.q) ∧
    w.ownsRow B 3 1 Kv s.keep.length (s.keep.map (Value.int .i64)) ∧ B ≤ r

theorem RAt.lt {r B : Nat} {s : RSt} {w : World} (h : RAt r B s w) : r < w.heap.size := by
  obtain ⟨_, _, _, h, _⟩ := h
  rcases Nat.lt_or_ge r w.heap.size with hlt | hge
  · exact hlt
  · rw [Array.getElem?_eq_none hge] at h; cases h

/-- what may be read of the block. -/
theorem RAt.cells {r B : Nat} {s : RSt} {w : World} (h : RAt r B s w) : ∃ Fv Qv Kv,
    w.cell? ⟨r, 0, none⟩ = some Fv ∧ w.cell? ⟨r, 1, none⟩ = some Qv ∧ w.cell? ⟨r, 2, none⟩ = some (.int .i64 (s.lost : Int)) ∧ w.cell? ⟨r, 3, none⟩ = some (.bool s.down)
      ∧ w.cell? ⟨r, 4, none⟩ = some (.int .i64 (s.armed : Int)) ∧ w.cell? ⟨r, 5, none⟩ = some Kv ∧ (∀ i, w.frozen? ⟨r, i, none⟩ = false)
      ∧ w.ownsRow B 86 3 Fv s.fl.length (fcells s.fl) ∧ w.ownsRow B 84 2 Qv s.q.length (qcells s.q)
      ∧ w.ownsRow B 3 1 Kv s.keep.length (s.keep.map (Value.int .i64)) := by
  obtain ⟨Fv, Qv, Kv, hb, hf, hq, hk, _⟩ := h
  refine ⟨Fv, Qv, Kv, ?_, ?_, ?_, ?_, ?_, ?_, fun i => Lib.frozen_of_heap hb i, hf, hq, hk⟩
  all_goals rw [Lib.cell_of_heap hb]
  all_goals rfl

/-- where the number f is not among the first k files. -/
def NoneUpTo (l : List RFile) (f : Int) (k : Nat) : Prop := ∀ j (h : j < l.length), j < k → l[j].1 ≠ f
theorem rget_none {l : List RFile} {f : Int} (h : NoneUpTo l f l.length) : rget l f = (f, ByteArray.empty, ByteArray.empty) := by
  unfold rget
  rw [List.find?_eq_none.mpr]
  · rfl
  · intro x hx
    obtain ⟨j, hj, rfl⟩ := List.getElem_of_mem hx
    simpa using h j hj hj
theorem rget_some {l : List RFile} {f : Int} {k : Nat} (hk : k < l.length) (h : NoneUpTo l f k) (he : l[k].1 = f) : rget l f = l[k] := by
  unfold rget
  have : l.find? (fun x => x.1 == f) = some l[k] := by
    rw [List.find?_eq_some_iff_getElem]
    refine ⟨by simpa using he, k, hk, rfl, fun j hj => ?_⟩
    simpa using h j (by omega) hj
  rw [this]; rfl

/-- a file as a value. -/
def fval (x : RFile) : Value := .agg #[.int .i64 x.1, .string x.2.1, .string x.2.2]

set_option maxRecDepth 100000 in
set_option maxHeartbeats 2000000 in
theorem rget_any (r B : Nat) (s : RSt) (f : Int) (w : World) (h : RAt r B s w) (hl : s.fl.length ≤ 1099511627776) :
    Calls Tryz.prog 49 #[.pointer (some ⟨r, 0, none⟩), .int .i64 f] w fun e w' => e = .returned (fval (rget s.fl f)) ∧ Below w.heap.size w w' := by
  have hr := h.lt
  obtain ⟨Fv, _, _, c0, _, _, _, _, _, hz, hF, _⟩ := h.cells
  obtain ⟨A, cap, rfl, hA⟩ := own_parts hF
  have HA := Lib.hid hA
  clear hA hF h
  go_enter Tryz.func49, Tryz.ntmps49
  go_wp2
  go_loopw [5] (fun i wr => ∃ k : Nat, k ≤ s.fl.length ∧ i = .int .i64 k ∧ Hid (NoneUpTo s.fl f k) ∧ wr = w.alloc (.cells #[.int .i64 0, .string ⟨#[]⟩, .string ⟨#[]⟩] 86)) (fun i _ => s.fl.length - (intOf i).toNat)
  case atStart => exact ⟨0, Nat.zero_le _, rfl, Lib.hid (fun j _ hj => absurd hj (Nat.not_lt_zero j)), rfl⟩
  case round =>
    obtain ⟨k, hk, rfl, hN, rfl⟩ := hrel
    by_cases hlt : k < s.fl.length
    · obtain ⟨g, rfl, hg, hc⟩ := HA.out (by omega)
      obtain ⟨e0, e1, e2⟩ := fcells_at s.fl k hlt
      have k0 : w.cell? ⟨g, k * 3, none⟩ = some (.int .i64 s.fl[k].1) := (hc _ (by omega)).trans e0
      have k1 : w.cell? ⟨g, k * 3 + 1, none⟩ = some (.string s.fl[k].2.1) := (hc _ (by omega)).trans e1
      have k2 : w.cell? ⟨g, k * 3 + 2, none⟩ = some (.string s.fl[k].2.2) := (hc _ (by omega)).trans e2
      clear hc e0 e1 e2
      have hi0 : (0 : Int) ≤ (k : Int) := by omega
      have hi1 : (k : Int) < (s.fl.length : Int) := by omega
      by_cases he : s.fl[k].1 = f
      · have hv := rget_some hlt hN.out he
        have HV := Lib.hid hv
        clear hv
        go_wp2
        refine bodyPost_ret (v := .agg #[.int .i64 f, .string s.fl[k].2.1, .string s.fl[k].2.2]) (by simp [results, Tryz.results49, go_sem]) rfl ⟨?_, (Below.refl _ _).alloc (Nat.le_refl _) _⟩
        rw [HV.out, fval, he]
      · have hN2 : Hid (NoneUpTo s.fl f (k + 1)) := Lib.hid (fun j hj hjk => by
          by_cases c : j = k
          · subst c; exact he
          · exact hN.out j hj (by omega))
        have he2 : (s.fl[k].1 == f) = false := by simpa using he
        go_wp2
        go_roundw
        case rel => exact ⟨k + 1, by omega, by go_num, hN2, trivial⟩
        case measure => simp [intOf]; omega
    · obtain rfl : k = s.fl.length := by omega
      have hv := rget_none hN.out
      have HV := Lib.hid hv
      clear hv
      go_wp2
      refine bodyPost_ret (v := .agg #[.int .i64 f, .string ⟨#[]⟩, .string ⟨#[]⟩]) (by simp [results, Tryz.results49, go_sem]) rfl ⟨?_, (Below.refl _ _).alloc (Nat.le_refl _) _⟩
      rw [HV.out]; rfl

end Go.Proofs.YtbpkcgkcamkggaaGreatDoor
namespace Go.Proofs.YtbpkcgkcamkggaaGreatDoor
open Go.RowKit


theorem field_now (x : RFile) : ∀ w : World, (Instr.field 86 (.agg #[.int .i64 x.1, .string x.2.1, .string x.2.2]) 1).run Tryz.prog w = .ok (.string x.2.1) w := fun _ => by kernel_rfl

set_option maxHeartbeats 1000000 in
theorem rSize_any (r B : Nat) (s : RSt) (f : Int) (w : World) (h : RAt r B s w) (hl : s.fl.length ≤ 1099511627776) :
    Calls Tryz.prog 29 #[.pointer (some ⟨r, 0, none⟩), .int .i64 f] w fun e w' => e = .returned (.int .i64 ((rget s.fl f).2.1.size : Int)) ∧ Below w.heap.size w w' := by
  have HG := Lib.hid (rget_any r B s f w h hl)
  clear h
  have hfd := field_now (rget s.fl f)
  generalize rget s.fl f = x at *
  go_enter Tryz.func29, Tryz.ntmps29
  go_wp2_with fail
  refine HG.out.mono ?_
  rintro e w2 ⟨rfl, hb⟩
  unfold fval
  go_wp2
  go_ret
  exact ⟨rfl, hb⟩

/-- whether a write of n bytes at a is within a file's bounds. -/
def fitsB (a : Int) (n : Nat) : Bool := decide (0 ≤ a ∧ a + n ≤ 16777216)
/-- the first two errors. -/
def mayOf (d : Bool) (f : Int) : Int := if d then 8 else if 0 ≤ f ∧ f ≤ 15 then 0 else 1

set_option maxHeartbeats 1000000 in
theorem rFits_any (a : Int) (s : ByteArray) (w : World) (ha : In64 a) (hs : s.size ≤ 1099511627776) :
    Calls Tryz.prog 68 #[.int .i64 a, .string s] w fun e w' => e = .returned (.bool (fitsB a s.size)) ∧ ∃ n, w' = w.drewN n := by
  obtain ⟨a0, a1⟩ := ha
  by_cases c1 : 0 ≤ a
  · by_cases c2 : a ≤ 16777216
    · have HD : Hid (fitsB a s.size = decide (a + (s.size : Int) ≤ 16777216)) := Lib.hid (by simp [fitsB, c1])
      go_enter Tryz.func68, Tryz.ntmps68
      go_wp2
      go_ret
      rw [HD.out]
      exact ⟨rfl, 0, rfl⟩
    · have c3 : 16777216 < a := by omega
      have HD : Hid (fitsB a s.size = false) := Lib.hid (by simp [fitsB]; omega)
      go_enter Tryz.func68, Tryz.ntmps68
      go_wp2
      go_ret
      rw [HD.out]
      exact ⟨rfl, 0, rfl⟩
  · have c3 : a < 0 := by omega
    have HD : Hid (fitsB a s.size = false) := Lib.hid (by simp [fitsB]; omega)
    go_enter Tryz.func68, Tryz.ntmps68
    go_wp2
    go_ret
    rw [HD.out]
    exact ⟨rfl, 0, rfl⟩

set_option maxHeartbeats 1000000 in
theorem rMay_any (r B : Nat) (s : RSt) (f : Int) (w : World) (h : RAt r B s w) :
    Calls Tryz.prog 48 #[.pointer (some ⟨r, 0, none⟩), .int .i64 f] w fun e w' => e = .returned (.int .i64 (mayOf s.down f)) ∧ w' = w := by
  obtain ⟨_, _, _, _, _, _, c3, _⟩ := h.cells
  clear h
  cases hd : s.down with
  | true =>
    rw [hd] at c3
    clear hd
    go_enter Tryz.func48, Tryz.ntmps48
    go_wp2
    go_ret
    exact ⟨rfl, rfl⟩
  | false =>
    rw [hd] at c3
    clear hd
    by_cases f0 : f < 0
    · have HD : Hid (mayOf false f = 1) := Lib.hid (by unfold mayOf; rw [if_neg (by decide), if_neg (by omega)])
      go_enter Tryz.func48, Tryz.ntmps48
      go_wp2
      go_ret
      rw [HD.out]
      exact ⟨rfl, rfl⟩
    · by_cases f1 : 15 < f
      · have HD : Hid (mayOf false f = 1) := Lib.hid (by unfold mayOf; rw [if_neg (by decide), if_neg (by omega)])
        go_enter Tryz.func48, Tryz.ntmps48
        go_wp2
        go_ret
        rw [HD.out]
        exact ⟨rfl, rfl⟩
      · have HD : Hid (mayOf false f = 0) := Lib.hid (by unfold mayOf; rw [if_neg (by decide), if_pos (by omega)])
        go_enter Tryz.func48, Tryz.ntmps48
        go_wp2
        go_ret
        rw [HD.out]
        exact ⟨rfl, rfl⟩

/-- where the sector is not among the first k. -/
def NotIn (l : List (Int × Nat)) (x : Int × Nat) (k : Nat) : Prop := ∀ j (h : j < l.length), j < k → l[j] ≠ x
theorem notIn_all {l : List (Int × Nat)} {x : Int × Nat} (h : NotIn l x l.length) : x ∉ l := fun hx => by
  obtain ⟨j, hj, e⟩ := List.getElem_of_mem hx
  exact h j hj hj e
def inB (l : List (Int × Nat)) (x : Int × Nat) : Bool := decide (x ∈ l)

set_option maxRecDepth 100000 in
set_option maxHeartbeats 2000000 in
theorem rPending_any (r B : Nat) (s : RSt) (f : Int) (n : Nat) (w : World) (h : RAt r B s w) (hl : s.q.length ≤ 1099511627776) :
    Calls Tryz.prog 87 #[.pointer (some ⟨r, 0, none⟩), .int .i64 f, .int .i64 (n : Int)] w fun e w' => e = .returned (.bool (inB s.q (f, n))) ∧ ∃ m, w' = w.drewN m := by
  have hr := h.lt
  obtain ⟨_, Qv, _, _, c1, _, _, _, _, _, _, hQ, _⟩ := h.cells
  obtain ⟨A, cap, rfl, hA⟩ := own_parts hQ
  have HA := Lib.hid hA
  clear hA hQ h
  go_enter Tryz.func87, Tryz.ntmps87
  go_wp2
  go_loopw [7] (fun i wr => ∃ k m : Nat, k ≤ s.q.length ∧ i = .int .i64 k ∧ Hid (NotIn s.q (f, n) k) ∧ wr = w.drewN m) (fun i _ => s.q.length - (intOf i).toNat)
  case atStart => exact ⟨0, 0, Nat.zero_le _, rfl, Lib.hid (fun j _ hj => absurd hj (Nat.not_lt_zero j)), rfl⟩
  case round =>
    obtain ⟨k, m, hk, rfl, hN, rfl⟩ := hrel
    by_cases hlt : k < s.q.length
    · obtain ⟨g, rfl, hg, hc⟩ := HA.out (by omega)
      obtain ⟨e0, e1⟩ := qcells_at s.q k hlt
      have k0 : w.cell? ⟨g, k * 2, none⟩ = some (.int .i64 s.q[k].1) := (hc _ (by omega)).trans e0
      have k1 : w.cell? ⟨g, k * 2 + 1, none⟩ = some (.int .i64 (s.q[k].2 : Int)) := (hc _ (by omega)).trans e1
      clear hc e0 e1
      have hi0 : (0 : Int) ≤ (k : Int) := by omega
      have hi1 : (k : Int) < (s.q.length : Int) := by omega
      have hx : s.q[k] = (s.q[k].1, s.q[k].2) := rfl
      have HX := Lib.hid hx
      clear hx
      have hmem : s.q[k] ∈ s.q := List.getElem_mem hlt
      have HM := Lib.hid hmem
      clear hmem
      by_cases he : s.q[k].1 = f
      · by_cases hn : s.q[k].2 = n
        · have hv : Hid (inB s.q (f, n) = true) := Lib.hid (by
            have := HM.out
            rw [HX.out, he, hn] at this
            simpa [inB] using this)
          go_wp2
          go_ret
          rw [hv.out]
          exact ⟨rfl, m, rfl⟩
        · have hN2 : Hid (NotIn s.q (f, n) (k + 1)) := Lib.hid (fun j hj hjk => by
            by_cases c : j = k
            · subst c; intro e; exact hn (by rw [e])
            · exact hN.out j hj (by omega))
          go_wp2
          go_roundw
          case rel => exact ⟨k + 1, m, by omega, by go_num, hN2, rfl⟩
          case measure => simp [intOf]; omega
      · have hN2 : Hid (NotIn s.q (f, n) (k + 1)) := Lib.hid (fun j hj hjk => by
          by_cases c : j = k
          · subst c; intro e; exact he (by rw [e])
          · exact hN.out j hj (by omega))
        go_wp2
        go_roundw
        case rel => exact ⟨k + 1, m, by omega, by go_num, hN2, rfl⟩
        case measure => simp [intOf]; omega
    · obtain rfl : k = s.q.length := by omega
      have hv : Hid (inB s.q (f, n) = false) := Lib.hid (by simpa [inB] using notIn_all hN.out)
      go_wp2
      go_ret
      rw [hv.out]
      exact ⟨rfl, m, rfl⟩

end Go.Proofs.YtbpkcgkcamkggaaGreatDoor
