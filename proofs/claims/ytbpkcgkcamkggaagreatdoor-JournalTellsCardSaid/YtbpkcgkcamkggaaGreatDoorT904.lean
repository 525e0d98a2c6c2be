/-
  The contract of the reference's settle.
-/
import Derived.Test.YtbpkcgkcamkggaaGreatDoorT903
set_option linter.unusedVariables false
namespace Go.Proofs.YtbpkcgkcamkggaaGreatDoor
open Go.RowKit

def RSt.settled (s : RSt) (f : Int) (x : ByteArray) : RSt := { s with fl := rset s.fl (f, x, x), q := s.q.filter fun y => !(y.1 == f) }
/-- the sectors among the first k that are not of the file f. -/
def otherQ (l : List (Int × Nat)) (f : Int) (k : Nat) : List (Int × Nat) := (l.take k).filter fun y => !(y.1 == f)
theorem otherQ_skip (l : List (Int × Nat)) (f : Int) (k : Nat) (hk : k < l.length) (h : l[k].1 = f) : otherQ l f (k + 1) = otherQ l f k := by
  unfold otherQ
  rw [List.take_succ_eq_append_getElem hk, List.filter_append]; simp [h]
theorem otherQ_take (l : List (Int × Nat)) (f : Int) (k : Nat) (hk : k < l.length) (h : l[k].1 ≠ f) : otherQ l f (k + 1) = otherQ l f k ++ [l[k]] := by
  unfold otherQ
  rw [List.take_succ_eq_append_getElem hk, List.filter_append]; simp [h]
theorem otherQ_len (l : List (Int × Nat)) (f : Int) (k : Nat) : (otherQ l f k).length ≤ k := by
  unfold otherQ
  refine Nat.le_trans (List.length_filter_le _ _) ?_
  rw [List.length_take]; omega
theorem otherQ_all (l : List (Int × Nat)) (f : Int) : otherQ l f l.length = l.filter fun y => !(y.1 == f) := by
  unfold otherQ
  rw [List.take_length]

set_option maxRecDepth 100000 in
set_option maxHeartbeats 4000000 in
theorem rsettle_any (r B : Nat) (s : RSt) (f : Int) (x : ByteArray) (w : World) (h : RAt r B s w) (hl : s.fl.length ≤ 1099511627776) (hql : s.q.length ≤ 1099511627776) :
    Calls Tryz.prog 59 #[.pointer (some ⟨r, 0, none⟩), .int .i64 f, .string x] w fun e w' => e = .returned (.tuple #[]) ∧ RAt r B (s.settled f x) w' ∧ RFr B w w' := by
  obtain ⟨i0, hi9, hz0, hz1, hz2⟩ := info_parts infoSector
  have hBr : B ≤ r := by obtain ⟨_, _, _, _, _, _, _, h5⟩ := h; exact h5
  have HS := Lib.hid (rset_any r B s (f, x, x) w h hl)
  clear h
  go_enter Tryz.func59, Tryz.ntmps59
  go_wp2_with fail
  refine HS.out.mono ?_
  rintro e w1 ⟨rfl, h, hf1⟩
  have hr := h.lt
  obtain ⟨_, Qv, _, _, c1, _, _, _, _, hz, _, hQ, _⟩ := h.cells
  obtain ⟨A, cap, rfl, hA⟩ := own_parts hQ
  have hA2 : 0 < s.q.length → ∃ g, A = some ⟨g, 0, none⟩ ∧ g < w1.heap.size ∧ ∀ j, j < s.q.length * 2 → w1.cell? ⟨g, j, none⟩ = (qcells s.q)[j]? := hA
  have HA := Lib.hid hA2
  have HH := Lib.hid h
  have HF1 := Lib.hid hf1
  have c1' : w1.cell? ⟨r, 1, none⟩ = some (.slice A s.q.length cap) := c1
  clear hA hA2 hQ h hf1 HS c1
  go_wp2
  go_loopw [6, 7] (fun v i wr => ∃ k : Nat, k ≤ s.q.length ∧ i = .int .i64 k ∧ wr.ownsRow w1.heap.size 84 2 v (otherQ s.q f k).length (qcells (otherQ s.q f k)) ∧ Below w1.heap.size w1 wr) (fun _ i _ => s.q.length - (intOf i).toNat)
  case atStart => exact ⟨0, Nat.zero_le _, rfl, World.ownsRow_nil _ _ _ _, Below.refl _ _⟩
  case round =>
    obtain ⟨k, hk, rfl, hown, hbr⟩ := hrel
    have hk1 := otherQ_len s.q f k
    have d0 : wr.cell? ⟨r, 1, none⟩ = some (.slice A s.q.length cap) := (hbr.cell (p := ⟨r, 1, none⟩) hr).trans c1'
    have HBB := Lib.hid hbr
    have hzr : wr.frozen? ⟨r, 1, none⟩ = false := (hbr.frozen (p := ⟨r, 1, none⟩) hr).trans (hz 1)
    clear hbr
    by_cases hlt : k < s.q.length
    · obtain ⟨g, rfl, hg, hc⟩ := HA.out (by omega)
      obtain ⟨e0, e1⟩ := qcells_at s.q k hlt
      have kk : ∀ j u, j < s.q.length * 2 → (qcells s.q)[j]? = some u → wr.cell? ⟨g, j, none⟩ = some u := fun j u hj hu =>
        (HBB.out.cell (p := ⟨g, j, none⟩) hg).trans ((hc j hj).trans hu)
      have k0 : wr.cell? ⟨g, k * 2, none⟩ = some (.int .i64 s.q[k].1) := kk _ _ (by omega) e0
      have k1 : wr.cell? ⟨g, k * 2 + 1, none⟩ = some (.int .i64 (s.q[k].2 : Int)) := kk _ _ (by omega) e1
      clear hc e0 e1 kk
      have hi0 : (0 : Int) ≤ (k : Int) := by omega
      have hi1 : (k : Int) < (s.q.length : Int) := by omega
      by_cases he : s.q[k].1 = f
      · have HO := Lib.hid (otherQ_skip s.q f k hlt he)
        have hne : (s.q[k].1 != f) = false := by simpa using he
        go_wp2
        go_roundw
        case rel => exact ⟨k + 1, by omega, by go_num, by rw [HO.out]; exact hown, HBB.out⟩
        case measure => simp [intOf]; omega
      · have HO := Lib.hid (otherQ_take s.q f k hlt he)
        have hne : (s.q[k].1 != f) = true := by simpa using he
        go_wp2_with (at_builtin; revert hne)
        intro hne
        refine wpList_append_own _ rfl _ _ 66 rfl w1.heap.size 84 i0 (.agg #[.int .i64 0, .int .i64 0]) 2 16 Tryz.underlying66 hi9 hz0 hz1 hz2 rfl (by decide) _ _ _ rfl (hown.alloc _) ⟨wr.heap.size, 0, none⟩ 1 1 (qcells [s.q[k]]) rfl rfl ?c1 ?c2 ?c3 ?c4 ?c5 ?_
        case c1 =>
          intro j u hj
          rw [qcells_one] at hj
          have hnew : (wr.alloc (.cells #[.int .i64 s.q[k].1, .int .i64 (s.q[k].2 : Int)] 84)).heap[wr.heap.size]? = some (.cells #[.int .i64 s.q[k].1, .int .i64 (s.q[k].2 : Int)] 84 (0, 0)) := heap_alloc_new wr _
          match j, hj with
          | 0, hj => simp at hj; subst hj; simp [Addr.add, Lib.cell_of_heap hnew]
          | 1, hj => simp at hj; subst hj; simp [Addr.add, Lib.cell_of_heap hnew]
          | j + 2, hj => simp at hj
        case c2 => intro u hu; rw [qcells_one] at hu; simp at hu; rcases hu with rfl | rfl <;> rfl
        case c3 => unfold maxLen; omega
        case c4 => omega
        case c5 => have := HBB.out.size; simp; omega
        intro v' w4 hown' hgr _
        have HOW : Hid (w4.ownsRow w1.heap.size 84 2 v' (otherQ s.q f (k + 1)).length (qcells (otherQ s.q f (k + 1)))) := Lib.hid (by
          rw [HO.out, qcells_append, List.length_append]; exact hown')
        have HB4 : Hid (Below w1.heap.size w1 w4) := Lib.hid (Below.grown (w := wr.alloc (.cells #[.int .i64 s.q[k].1, .int .i64 (s.q[k].2 : Int)] 84)) (HBB.out.alloc HBB.out.size _) hgr (by have := HBB.out.size; simp; omega) (fun q hq => (hown.lt q hq).1))
        clear hown' hgr
        go_wp2
        go_roundw
        case rel => exact ⟨k + 1, by omega, by go_num, HOW.out, HB4.out⟩
        case measure => simp [intOf]; omega
    · obtain rfl : k = s.q.length := by omega
      have HO := Lib.hid (otherQ_all s.q f)
      have HOW : Hid (wr.ownsRow B 84 2 u6 (s.q.filter fun y => !(y.1 == f)).length (qcells (s.q.filter fun y => !(y.1 == f)))) := Lib.hid (by
        rw [← HO.out]; exact own_le hown (by omega))
      obtain ⟨A', cap', rfl, _⟩ := own_parts hown
      go_wp2
      refine bodyPost_end (results_none rfl _ _ _) rfl ?_
      have hRb := HH.out.below HBB.out
      obtain ⟨F, Q, K, h1, _⟩ := id hRb
      exact ⟨rfl, hRb.setQ HOW.out, (HF1.out.trans (RFr.of_below HBB.out)).trans (RFr.of_disk (grown_one _ _ _ _) hBr h1)⟩

end Go.Proofs.YtbpkcgkcamkggaaGreatDoor
