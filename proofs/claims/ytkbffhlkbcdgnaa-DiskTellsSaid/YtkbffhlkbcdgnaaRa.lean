/-
  The reference's disk as it lies in memory, and contracts of its readers: New, Down, get, Size, may, fits, pending.
-/
import Derived.Test.YtkbffhlkbcdgnaaRz
set_option linter.unusedVariables false
namespace Go.Proofs.Ytkbffhlkbcdgnaa
open Go.RowKit

/-- the cells of the reference's list of files. -/
def fcells (l : List RFile) : List Value := l.flatMap fun x => [.int .i64 x.1, .string x.2.1, .string x.2.2]
theorem fcells_length (l : List RFile) : (fcells l).length = l.length * 3 := by
  induction l with
  | nil => rfl
  | cons x l ih => simp only [fcells, List.flatMap_cons, List.length_append, List.length_cons, List.length_nil] at ih ⊢; omega
theorem fcells_at (l : List RFile) : ∀ (j : Nat) (h : j < l.length), (fcells l)[j * 3]? = some (.int .i64 l[j].1) ∧ (fcells l)[j * 3 + 1]? = some (.string l[j].2.1) ∧ (fcells l)[j * 3 + 2]? = some (.string l[j].2.2) := by
  induction l with
  | nil => intro j h; simp at h
  | cons x l ih =>
    intro j h
    cases j with
    | zero => exact ⟨rfl, rfl, rfl⟩
    | succ j =>
      have h2 : j < l.length := by simpa using h
      have h3 := ih j h2
      have e : ∀ i, (fcells (x :: l))[i + 3]? = (fcells l)[i]? := fun i => by
        show ([Value.int .i64 x.1, .string x.2.1, .string x.2.2] ++ fcells l)[i + 3]? = _
        rw [List.getElem?_append_right (by simp)]; simp
      simp only [List.getElem_cons_succ]
      rw [show (j + 1) * 3 = j * 3 + 3 by omega, show j * 3 + 3 + 1 = j * 3 + 1 + 3 by omega, show j * 3 + 3 + 2 = j * 3 + 2 + 3 by omega, e, e, e]
      exact h3

/-- the reference's disk: what its block r and its three lists hold; all of it lies from block B on. -/
structure RSt where
  fl : List RFile
  q : List (Int × Nat)
  lost : Nat
  down : Bool
  armed : Nat
  keep : List Int

def RAt (r B : Nat) (s : RSt) (w : World) : Prop :=
  ∃ Fv Qv Kv, w.heap[r]? = some (.cells #[Fv, Qv, .int .i64 (s.lost : Int), .bool s.down, .int .i64 (s.armed : Int), Kv] 54 (0, 0)) ∧
    w.ownsRow B 60 3 Fv s.fl.length (fcells s.fl) ∧
    w.ownsRow B 72 2 Qv s.q.length (qcells s.q) ∧
    w.ownsRow B 3 1 Kv s.keep.length (s.keep.map (Value.int .i64)) ∧ B ≤ r

theorem RAt.lt {r B : Nat} {s : RSt} {w : World} (h : RAt r B s w) : r < w.heap.size := by
  obtain ⟨_, _, _, h, _⟩ := h
  rcases Nat.lt_or_ge r w.heap.size with hlt | hge
  · exact hlt
  · rw [Array.getElem?_eq_none hge] at h; cases h

/-- what may be read of the block. -/
theorem RAt.cells {r B : Nat} {s : RSt} {w : World} (h : RAt r B s w) : ∃ Fv Qv Kv,
    w.cell? ⟨r, 0, none⟩ = some Fv ∧ w.cell? ⟨r, 1, none⟩ = some Qv ∧ w.cell? ⟨r, 2, none⟩ = some (.int .i64 (s.lost : Int)) ∧ w.cell? ⟨r, 3, none⟩ = some (.bool s.down)
      ∧ w.cell? ⟨r, 4, none⟩ = some (.int .i64 (s.armed : Int)) ∧ w.cell? ⟨r, 5, none⟩ = some Kv ∧ (∀ i, w.frozen? ⟨r, i, none⟩ = false)
      ∧ w.ownsRow B 60 3 Fv s.fl.length (fcells s.fl) ∧ w.ownsRow B 72 2 Qv s.q.length (qcells s.q)
      ∧ w.ownsRow B 3 1 Kv s.keep.length (s.keep.map (Value.int .i64)) := by
  obtain ⟨Fv, Qv, Kv, hb, hf, hq, hk, _⟩ := h
  refine ⟨Fv, Qv, Kv, ?_, ?_, ?_, ?_, ?_, ?_, fun i => Lib.frozen_of_heap hb i, hf, hq, hk⟩
  all_goals rw [Lib.cell_of_heap hb]
  all_goals rfl

set_option maxHeartbeats 400000 in
theorem rDown_any (r B : Nat) (s : RSt) (w : World) (h : RAt r B s w) :
    Calls Try.prog 11 #[.pointer (some ⟨r, 0, none⟩)] w fun e w' => e = .returned (.bool s.down) ∧ w' = w := by
  obtain ⟨_, _, _, _, _, _, c3, _⟩ := h.cells
  clear h
  go_enter Try.func11, Try.ntmps11
  go_wp2
  go_ret
  exact ⟨rfl, rfl⟩

/-- where the number f is not among the first k files. -/
def NoneUpTo (l : List RFile) (f : Int) (k : Nat) : Prop := ∀ j (h : j < l.length), j < k → l[j].1 ≠ f
theorem rget_none {l : List RFile} {f : Int} (h : NoneUpTo l f l.length) : rget l f = (f, ByteArray.empty, ByteArray.empty) := by
  unfold rget
  rw [List.find?_eq_none.mpr]
  · rfl
  · intro x hx
    obtain ⟨j, hj, rfl⟩ := List.getElem_of_mem hx
    simpa using h j hj hj
theorem rget_some {l : List RFile} {f : Int} {k : Nat} (hk : k < l.length) (h : NoneUpTo l f k) (he : l[k].1 = f) : rget l f = l[k] := by
  unfold rget
  have : l.find? (fun x => x.1 == f) = some l[k] := by
    rw [List.find?_eq_some_iff_getElem]
    refine ⟨by simpa using he, k, hk, rfl, fun j hj => ?_⟩
    simpa using h j (by omega) hj
  rw [this]; rfl

/-- a file as a value. -/
def fval (x : RFile) : Value := .agg #[.int .i64 x.1, .string x.2.1, .string x.2.2]

set_option maxRecDepth 100000 in
set_option maxHeartbeats 2000000 in
theorem rget_any (r B : Nat) (s : RSt) (f : Int) (w : World) (h : RAt r B s w) (hl : s.fl.length ≤ 1099511627776) :
    Calls Try.prog 31 #[.pointer (some ⟨r, 0, none⟩), .int .i64 f] w fun e w' => e = .returned (fval (rget s.fl f)) ∧ Below w.heap.size w w' := by
  have hr := h.lt
  obtain ⟨Fv, _, _, c0, _, _, _, _, _, hz, hF, _⟩ := h.cells
  obtain ⟨A, cap, rfl, hA⟩ := own_parts hF
  have HA := Lib.hid hA
  clear hA hF h
  go_enter Try.func31, Try.ntmps31
  go_wp2
  go_loopw [5] (fun i wr => ∃ k : Nat, k ≤ s.fl.length ∧ i = .int .i64 k ∧ Hid (NoneUpTo s.fl f k) ∧ wr = w.alloc (.cells #[.int .i64 0, .string ⟨#[]⟩, .string ⟨#[]⟩] 60)) (fun i _ => s.fl.length - (intOf i).toNat)
  case atStart => exact ⟨0, Nat.zero_le _, rfl, Lib.hid (fun j _ hj => absurd hj (Nat.not_lt_zero j)), rfl⟩
  case round =>
    obtain ⟨k, hk, rfl, hN, rfl⟩ := hrel
    by_cases hlt : k < s.fl.length
    · obtain ⟨g, rfl, hg, hc⟩ := HA.out (by omega)
      obtain ⟨e0, e1, e2⟩ := fcells_at s.fl k hlt
      have k0 : w.cell? ⟨g, k * 3, none⟩ = some (.int .i64 s.fl[k].1) := (hc _ (by omega)).trans e0
      have k1 : w.cell? ⟨g, k * 3 + 1, none⟩ = some (.string s.fl[k].2.1) := (hc _ (by omega)).trans e1
      have k2 : w.cell? ⟨g, k * 3 + 2, none⟩ = some (.string s.fl[k].2.2) := (hc _ (by omega)).trans e2
      clear hc e0 e1 e2
      have hi0 : (0 : Int) ≤ (k : Int) := by omega
      have hi1 : (k : Int) < (s.fl.length : Int) := by omega
      by_cases he : s.fl[k].1 = f
      · have hv := rget_some hlt hN.out he
        have HV := Lib.hid hv
        clear hv
        go_wp2
        refine bodyPost_ret (v := .agg #[.int .i64 f, .string s.fl[k].2.1, .string s.fl[k].2.2]) (by simp [results, Try.results31, go_sem]) rfl ⟨?_, (Below.refl _ _).alloc (Nat.le_refl _) _⟩
        rw [HV.out, fval, he]
      · have hN2 : Hid (NoneUpTo s.fl f (k + 1)) := Lib.hid (fun j hj hjk => by
          by_cases c : j = k
          · subst c; exact he
          · exact hN.out j hj (by omega))
        have he2 : (s.fl[k].1 == f) = false := by simpa using he
        go_wp2
        go_roundw
        case rel => exact ⟨k + 1, by omega, by go_num, hN2, trivial⟩
        case measure => simp [intOf]; omega
    · obtain rfl : k = s.fl.length := by omega
      have hv := rget_none hN.out
      have HV := Lib.hid hv
      clear hv
      go_wp2
      refine bodyPost_ret (v := .agg #[.int .i64 f, .string ⟨#[]⟩, .string ⟨#[]⟩]) (by simp [results, Try.results31, go_sem]) rfl ⟨?_, (Below.refl _ _).alloc (Nat.le_refl _) _⟩
      rw [HV.out]; rfl

end Go.Proofs.Ytkbffhlkbcdgnaa
