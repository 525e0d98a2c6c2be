/-
  The contract of slices.IndexFunc with settle's predicate.
-/
import Derived.Test.YtbpkcgkcamkggaaGreatDoorT916
set_option linter.unusedVariables false
set_option maxRecDepth 100000
namespace Go.Proofs.YtbpkcgkcamkggaaGreatDoor
open Go.RowKit

/-- what settle's predicate is: its captured variables are the boxes of f and of d. -/
def delFn (bf bd : Nat) : Value := .func (.func 76) #[] #[.pointer (some ⟨bf, 0, none⟩), .pointer (some ⟨bd, 0, none⟩)]
structure Boxes (r : Nat) (f : Int) (bf bd : Nat) (w : World) : Prop where
  f : w.heap[bf]? = some (.cells #[.int .i64 f] 3 (0, 0))
  d : w.heap[bd]? = some (.cells #[.pointer (some ⟨r, 0, none⟩)] 25 (0, 0))

/-- what the predicate asks of the sectors of the file f. -/
structure SetOk (d : Dk) (f : Int) (q : List (Int × Nat)) : Prop where
  file : Dk.fileOk f
  inq : ∀ x ∈ q, x.1 = f → 64 * x.2 < (d.now f).length
  now : (d.now f).length ≤ 16777216
  last : (d.last f).length ≤ 16777216
  len : q.length ≤ 1099511627776

/-- none of the sectors is of the file. -/
def IdxNone (r : Nat) (L : Lay) (d : Dk) (q : List (Int × Nat)) (w : World) (e : Ending) (w' : World) : Prop :=
  e = .returned (.int .i64 (-1)) ∧ ∃ L', PRaw r L' d q w' ∧ CStep L L' w w'
/-- the sector k is the first one of the file: it is saved and struck. -/
def IdxSome (r : Nat) (L : Lay) (d : Dk) (q : List (Int × Nat)) (k : Nat) (x : Int × Nat) (w : World) (e : Ending) (w' : World) : Prop :=
  e = .returned (.int .i64 (k : Int)) ∧ ∃ L', PRaw r L' { d with last := surv d.now d.last x } (q.erase x) w' ∧ CStep L L' w w'

theorem queue_cells {w : World} {v : Value} {q : List (Int × Nat)} (h : w.ownsRow 0 80 2 v q.length (qcells q)) : ∃ A cap, v = .slice A q.length cap ∧
    (0 < q.length → ∃ g, A = some ⟨g, 0, none⟩ ∧ ∃ cur, w.heap[g]? = some (.cells cur 80 (0, 0)) ∧ cur.toList.take (q.length * 2) = qcells q ∧ cur.size = cap * 2 ∧ q.length ≤ cap ∧ cap ≤ maxLen) := by
  rcases h.2 with ⟨rfl, hn⟩ | ⟨g, cap, cur, rfl, _, hg, hnc, hcm, hcs, htake⟩
  · exact ⟨none, 0, by rw [hn], fun h => by omega⟩
  · exact ⟨_, cap, rfl, fun _ => ⟨g, rfl, cur, hg, htake, hcs, hnc, hcm⟩⟩
theorem row_at {w : World} {g : Nat} {cur : Array Value} {q : List (Int × Nat)} (hg : w.heap[g]? = some (.cells cur 80 (0, 0))) (ht : cur.toList.take (q.length * 2) = qcells q) (k : Nat) (hk : k < q.length) :
    w.cell? ⟨g, k * 2, none⟩ = some (.int .i64 q[k].1) ∧ w.cell? ⟨g, k * 2 + 1, none⟩ = some (.int .i64 (q[k].2 : Int)) := by
  obtain ⟨e0, e1⟩ := qcells_at q k hk
  rw [Lib.cell_of_heap hg, Lib.cell_of_heap hg]
  rw [← ht, List.getElem?_take, if_pos (by omega)] at e0 e1
  exact ⟨by simpa using e0, by simpa using e1⟩

set_option maxRecDepth 100000 in
set_option maxHeartbeats 4000000 in
theorem idx_none (r : Nat) (L : Lay) (d : Dk) (q : List (Int × Nat)) (f : Int) (bf bd : Nat) (v : Value) (w : World) (h : PRaw r L d q w) (hq : w.ownsRow 0 80 2 v q.length (qcells q)) (ho : SetOk d f q) (hb : Boxes r f bf bd w)
    (hall : ∀ x ∈ q, x.1 ≠ f) : Calls Tryz.prog 88 #[v, delFn bf bd] w (IdxNone r L d q w) := by
  obtain ⟨A, cap, rfl, hA⟩ := queue_cells hq
  have HA := Lib.hid hA
  have HALL := Lib.hid hall
  have HH := Lib.hid h
  have HO := Lib.hid ho
  have HB := Lib.hid hb
  have hlen := ho.len
  clear hA hall h ho hb hq
  unfold delFn
  go_enter Tryz.func88, Tryz.ntmps88
  go_wp2
  go_loopw [8] (fun i wr => ∃ k : Nat, k ≤ q.length ∧ i = .int .i64 k ∧ ∃ L', PRaw r L' d q wr ∧ CStep L L' w wr) (fun i _ => q.length - (intOf i).toNat)
  case atStart => exact ⟨0, Nat.zero_le _, rfl, L, HH.out, CStep.refl _ _⟩
  case round =>
    obtain ⟨k, hk, rfl, L1, p1, k1⟩ := hrel
    have P1 := Lib.hid p1
    have K1 := Lib.hid k1
    clear p1 k1
    by_cases hlt : k < q.length
    · obtain ⟨g, rfl, cur, hg, ht, _⟩ := HA.out (by omega)
      have hg1 := K1.out.block HH.out hg (by decide) (by decide)
      obtain ⟨e0, e1⟩ := row_at hg1 ht k hlt
      have hdel := del_any r L1 d q f q[k] bf bd wr P1.out HO.out.file (fun e => absurd e (HALL.out _ (List.getElem_mem hlt))) HO.out.now HO.out.last (K1.out.block HH.out HB.out.f (by decide) (by decide)) (K1.out.block HH.out HB.out.d (by decide) (by decide))
      have hne := HALL.out _ (List.getElem_mem hlt)
      have HD := Lib.hid hdel
      have HN := Lib.hid hne
      have hi0 : (0 : Int) ≤ (k : Int) := by omega
      have hi1 : (k : Int) < (q.length : Int) := by omega
      clear hdel hne ht hg hg1
      generalize q[k] = x at *
      go_wp2_with fail
      refine HD.out.mono ?_
      rintro e w2 ⟨rfl, L2, p2, k2⟩
      rw [if_neg HN.out, if_neg HN.out] at p2
      have P2 := Lib.hid p2
      have K2 := Lib.hid (K1.out.trans k2)
      clear p2 k2 HD P1 K1
      have hf : decide (x.1 = f) = false := decide_eq_false HN.out
      rw [hf]
      clear hf
      go_wp2
      go_roundw
      case rel => exact ⟨k + 1, by omega, by go_num, L2, P2.out, K2.out⟩
      case measure => simp [intOf]; omega
    · obtain rfl : k = q.length := by omega
      go_wp2
      go_ret
      exact ⟨rfl, L1, P1.out, K1.out⟩

set_option maxRecDepth 100000 in
set_option maxHeartbeats 4000000 in
theorem idx_some (r : Nat) (L : Lay) (d : Dk) (q : List (Int × Nat)) (f : Int) (bf bd : Nat) (v : Value) (w : World) (h : PRaw r L d q w) (hq : w.ownsRow 0 80 2 v q.length (qcells q)) (ho : SetOk d f q) (hb : Boxes r f bf bd w)
    (k0 : Nat) (hk0 : k0 < q.length) (hall : ∀ j (hj : j < q.length), j < k0 → q[j].1 ≠ f) (heq : q[k0].1 = f) : Calls Tryz.prog 88 #[v, delFn bf bd] w (IdxSome r L d q k0 q[k0] w) := by
  obtain ⟨A, cap, rfl, hA⟩ := queue_cells hq
  obtain ⟨g, rfl, cur, hg, ht, _⟩ := hA (by omega)
  have HALL := Lib.hid hall
  have HEQ := Lib.hid heq
  have HH := Lib.hid h
  have HO := Lib.hid ho
  have HB := Lib.hid hb
  have HG := Lib.hid hg
  have HT := Lib.hid ht
  have hlen := ho.len
  clear hA hall h ho hb hq hg ht heq
  unfold delFn
  go_enter Tryz.func88, Tryz.ntmps88
  go_wp2
  go_loopw [8] (fun i wr => ∃ k : Nat, k ≤ k0 ∧ i = .int .i64 k ∧ ∃ L', PRaw r L' d q wr ∧ CStep L L' w wr) (fun i _ => q.length - (intOf i).toNat)
  case atStart => exact ⟨0, Nat.zero_le _, rfl, L, HH.out, CStep.refl _ _⟩
  case round =>
    obtain ⟨k, hk, rfl, L1, p1, k1⟩ := hrel
    have P1 := Lib.hid p1
    have K1 := Lib.hid k1
    clear p1 k1
    have hlt : k < q.length := by omega
    have hg1 := K1.out.block HH.out HG.out (by decide) (by decide)
    obtain ⟨e0, e1⟩ := row_at hg1 HT.out k hlt
    have hdel := del_any r L1 d q f q[k] bf bd wr P1.out HO.out.file (fun e => ⟨List.getElem_mem hlt, HO.out.inq _ (List.getElem_mem hlt) e⟩) HO.out.now HO.out.last (K1.out.block HH.out HB.out.f (by decide) (by decide)) (K1.out.block HH.out HB.out.d (by decide) (by decide))
    have HD := Lib.hid hdel
    have hi0 : (0 : Int) ≤ (k : Int) := by omega
    have hi1 : (k : Int) < (q.length : Int) := by omega
    clear hdel hg1
    by_cases hlt2 : k < k0
    · have hne := HALL.out k hlt hlt2
      have HN := Lib.hid hne
      clear hne
      generalize q[k] = x at *
      go_wp2_with fail
      refine HD.out.mono ?_
      rintro e w2 ⟨rfl, L2, p2, k2⟩
      rw [if_neg HN.out, if_neg HN.out] at p2
      have P2 := Lib.hid p2
      have K2 := Lib.hid (K1.out.trans k2)
      clear p2 k2 HD P1 K1
      have hf : decide (x.1 = f) = false := decide_eq_false HN.out
      rw [hf]
      clear hf
      go_wp2
      go_roundw
      case rel => exact ⟨k + 1, by omega, by go_num, L2, P2.out, K2.out⟩
      case measure => simp [intOf]; omega
    · obtain rfl : k = k0 := by omega
      have HN : Hid (q[k].1 = f) := HEQ
      obtain ⟨x, hx⟩ : ∃ x, q[k] = x := ⟨_, rfl⟩
      have HX := Lib.hid hx
      rw [hx] at HN HD e0 e1
      clear hx
      go_wp2_with fail
      refine HD.out.mono ?_
      rintro e w2 ⟨rfl, L2, p2, k2⟩
      rw [if_pos HN.out, if_pos HN.out] at p2
      have P2 := Lib.hid p2
      have K2 := Lib.hid (K1.out.trans k2)
      clear p2 k2 HD P1 K1
      have hf : decide (x.1 = f) = true := decide_eq_true HN.out
      rw [hf]
      clear hf
      go_wp2
      go_ret
      exact ⟨rfl, L2, by rw [HX.out]; exact P2.out, K2.out⟩

end Go.Proofs.YtbpkcgkcamkggaaGreatDoor
