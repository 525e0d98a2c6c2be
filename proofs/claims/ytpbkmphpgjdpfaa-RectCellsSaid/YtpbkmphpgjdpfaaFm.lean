/-
  The law's own list of a rectangle's cells (cells), and beside.
-/
import Derived.Test.YtpbkmphpgjdpfaaEr
import Derived.Laws.OwnMore
import Derived.Deep.OwnRows
import Derived.OwnWalk
import Derived.BigQuiet
import Derived.IntWalk
set_option linter.unusedVariables false
set_option maxRecDepth 100000
namespace Go.Proofs.Ytpbkmphpgjdpfaa
open Go.RowKit

theorem infoPair : (Try.prog.info? 40).map (fun i => (i.zero, i.size, i.bytes)) = some (some (.agg #[.int .i64 0, .int .i64 0]), 2, 16) := by kernel_rfl
def pcells (l : List (Nat × Nat)) : List Value := l.flatMap fun p => [.int .i64 (p.1 : Int), .int .i64 (p.2 : Int)]
theorem pcells_append (l m : List (Nat × Nat)) : pcells (l ++ m) = pcells l ++ pcells m := by simp [pcells]
theorem pcells_one (p : Nat × Nat) : pcells [p] = [.int .i64 (p.1 : Int), .int .i64 (p.2 : Int)] := rfl
theorem pcells_at (l : List (Nat × Nat)) : ∀ (j : Nat) (h : j < l.length), (pcells l)[j * 2]? = some (.int .i64 (l[j].1 : Int)) ∧ (pcells l)[j * 2 + 1]? = some (.int .i64 (l[j].2 : Int)) := by
  induction l with
  | nil => intro j h; simp at h
  | cons x l ih =>
    intro j h
    cases j with
    | zero => exact ⟨rfl, rfl⟩
    | succ j =>
      have h2 : j < l.length := by simpa using h
      have h3 := ih j h2
      have e : ∀ i, (pcells (x :: l))[i + 2]? = (pcells l)[i]? := fun i => by
        show ([Value.int .i64 (x.1 : Int), .int .i64 (x.2 : Int)] ++ pcells l)[i + 2]? = _
        rw [List.getElem?_append_right (by simp)]; simp
      simp only [List.getElem_cons_succ]
      rw [show (j + 1) * 2 = j * 2 + 2 by omega, show j * 2 + 2 + 1 = j * 2 + 1 + 2 by omega, e, e]
      exact h3
theorem own_parts {w : World} {B e size n : Nat} {v : Value} {xs : List Value} (h : w.ownsRow B e size v n xs) :
    ∃ A cap, v = .slice A n cap ∧ (0 < n → ∃ g, A = some ⟨g, 0, none⟩ ∧ g < w.heap.size ∧ ∀ j, j < n * size → w.cell? ⟨g, j, none⟩ = xs[j]?) := by
  obtain ⟨hl, hv⟩ := h
  rcases hv with ⟨rfl, rfl⟩ | ⟨g, cap, cur, rfl, hB, hg, h2⟩
  · exact ⟨none, 0, rfl, fun h => absurd h (Nat.lt_irrefl _)⟩
  · refine ⟨_, cap, rfl, fun _ => ⟨g, rfl, ?_, fun j hj => ?_⟩⟩
    · rcases Nat.lt_or_ge g w.heap.size with hlt | hge
      · exact hlt
      · rw [Array.getElem?_eq_none hge] at hg; cases hg
    · exact World.ownsRow.cellAt ⟨hl, .inr ⟨g, cap, cur, rfl, hB, hg, h2⟩⟩ j hj
/-- a list of pairs of ints at an address. -/
def PRow (w : World) (A : Option Addr) (l : List (Nat × Nat)) : Prop := 0 < l.length → ∃ g, A = some ⟨g, 0, none⟩ ∧ g < w.heap.size ∧ ∀ j (h : j < l.length), w.cell? ⟨g, j * 2, none⟩ = some (.int .i64 (l[j].1 : Int)) ∧ w.cell? ⟨g, j * 2 + 1, none⟩ = some (.int .i64 (l[j].2 : Int))
theorem PRow.below {w w' : World} {A : Option Addr} {l : List (Nat × Nat)} (h : PRow w A l) (hb : Below w.heap.size w w') : PRow w' A l := fun h0 => by
  obtain ⟨g, rfl, hl, hc⟩ := h h0
  exact ⟨g, rfl, Nat.lt_of_lt_of_le hl hb.size, fun j hj => ⟨(hb.cell (p := ⟨g, j * 2, none⟩) hl).trans (hc j hj).1, (hb.cell (p := ⟨g, j * 2 + 1, none⟩) hl).trans (hc j hj).2⟩⟩
theorem PRow.of_own {w : World} {B : Nat} {v : Value} {l : List (Nat × Nat)} (h : w.ownsRow B 40 2 v l.length (pcells l)) : ∃ A cap, v = .slice A l.length cap ∧ PRow w A l := by
  obtain ⟨A, cap, rfl, hA⟩ := own_parts h
  refine ⟨A, cap, rfl, fun h0 => ?_⟩
  obtain ⟨g, rfl, hg, hc⟩ := hA h0
  exact ⟨g, rfl, hg, fun j hj => ⟨(hc _ (by omega)).trans (pcells_at l j hj).1, (hc _ (by omega)).trans (pcells_at l j hj).2⟩⟩

/-- the cells of one column with a y below the bound, and of the columns before. -/
def colTo (r : Rc) (x y : Nat) : List (Nat × Nat) := ((List.range y).filter fun (y : Nat) => decide (HasR r (x : Int) (y : Int))).map fun (y : Nat) => (x, y)
def soFar (r : Rc) (x y : Nat) : List (Nat × Nat) := (List.range x).flatMap (colL r) ++ colTo r x y
theorem soFar_yes {r : Rc} {x y : Nat} (h : HasR r x y) : soFar r x (y + 1) = soFar r x y ++ [(x, y)] := by
  unfold soFar colTo
  rw [List.range_succ, List.filter_append, List.map_append, List.append_assoc]
  simp [h]
theorem soFar_no {r : Rc} {x y : Nat} (h : ¬ HasR r x y) : soFar r x (y + 1) = soFar r x y := by
  unfold soFar colTo
  rw [List.range_succ, List.filter_append, List.map_append]
  simp [h]
theorem soFar_col (r : Rc) (x : Nat) : soFar r x 8 = soFar r (x + 1) 0 := by
  unfold soFar
  rw [List.range_succ, List.flatMap_append]
  simp [colTo, colL]
theorem soFar_all (r : Rc) : soFar r 8 0 = cellsL r := by simp [soFar, colTo, cellsL]
theorem colTo_len (r : Rc) (x y : Nat) : (colTo r x y).length ≤ y := by
  unfold colTo
  rw [List.length_map]
  exact Nat.le_trans (List.length_filter_le _ _) (by simp)
theorem flat_len (r : Rc) (x : Nat) : ((List.range x).flatMap (colL r)).length ≤ x * 8 := by
  induction x with
  | zero => simp
  | succ x ih =>
    rw [List.range_succ, List.flatMap_append, List.length_append]
    have := colTo_len r x 8
    have e : colL r x = colTo r x 8 := rfl
    simp only [List.flatMap_cons, List.flatMap_nil, List.append_nil]
    rw [e]; omega
theorem soFar_len (r : Rc) (x y : Nat) : (soFar r x y).length ≤ x * 8 + y := by
  unfold soFar
  rw [List.length_append]
  have := flat_len r x; have := colTo_len r x y; omega
structure CInv (r : Rc) (v : Value) (l : List (Nat × Nat)) (w wr : World) : Prop where
  own : wr.ownsRow (w.heap.size + 1) 40 2 v l.length (pcells l)
  box : RcAt wr w.heap.size r
  bel : Below w.heap.size w wr
theorem CInv.go {r : Rc} {v : Value} {l : List (Nat × Nat)} {w wr w' : World} (h : CInv r v l w wr) (hb : Below wr.heap.size wr w') : CInv r v l w w' := by
  refine ⟨?_, h.box.below hb h.box.lt, h.bel.trans (hb.mono h.bel.size)⟩
  obtain ⟨h1, h2⟩ := h.own
  refine ⟨h1, ?_⟩
  rcases h2 with ⟨rfl, h3⟩ | ⟨g, cap, cur, rfl, hB, hg, h4⟩
  · exact Or.inl ⟨rfl, h3⟩
  · refine Or.inr ⟨g, cap, cur, rfl, hB, ?_, h4⟩
    rw [hb.block g (Array.getElem?_eq_some_iff.1 hg).1]; exact hg

set_option maxHeartbeats 16000000 in
theorem cells_any (r : Rc) (ir : InR r) (w : World) : Calls Try.prog 30 #[.agg #[.int .i64 r.X0, .int .i64 r.Y0, .int .i64 r.X1, .int .i64 r.Y1]] w fun e w' => ∃ v, e = .returned v ∧ CInv r v (cellsL r) w w' := by
  obtain ⟨i0, hi9, hz0, hz1, hz2⟩ := info_parts infoPair
  have K0 : Hid (CInv r (.slice none 0 0) (soFar r 0 0) w (w.alloc (.cells #[.int .i64 r.X0, .int .i64 r.Y0, .int .i64 r.X1, .int .i64 r.Y1] 23))) := Lib.hid ⟨World.ownsRow_nil _ _ _ _, RcAt.new w r _ rfl, by (repeat' first | exact Below.refl _ _ | assumption | (apply below_drewN) | (refine Below.setCell ?_ (by (try simp); (try omega)) _) | (refine Below.alloc ?_ (by (try simp); (try omega)) _) | (refine Below.trans ?_ (Below.mono (Hid.out (by assumption)) (by (try simp); (try omega)))))⟩
  have IR := Lib.hid ir; clear ir
  go_enter Try.func30, Try.ntmps30
  go_wp2
  generalize World.alloc w _ = w0 at *
  go_loopw [3, 4] (fun v i wr => ∃ x : Nat, x ≤ 8 ∧ i = .int .i64 x ∧ Hid (CInv r v (soFar r x 0) w wr)) (fun _ i _ => 8 - (intOf i).toNat)
  case atStart => exact ⟨0, by omega, rfl, K0⟩
  case round =>
    clear K0
    obtain ⟨x, hx, rfl, hK⟩ := hrel
    by_cases hlt : x < 8
    · have hx1 : (x : Int) < 8 := by omega
      go_wp2
      go_loopw [3, 5] (fun v i wr => ∃ y : Nat, y ≤ 8 ∧ i = .int .i64 y ∧ Hid (CInv r v (soFar r x y) w wr)) (fun _ i _ => 8 - (intOf i).toNat)
      case atStart => exact ⟨0, by omega, rfl, hK⟩
      case round =>
        clear hK
        obtain ⟨y, hy, rfl, hK⟩ := hrel
        by_cases hlt2 : y < 8
        · have hy1 : (y : Int) < 8 := by omega
          have c0 := hK.out.box.cell0; have c1 := hK.out.box.cell1; have c2 := hK.out.box.cell2; have c3 := hK.out.box.cell3; have cl := hK.out.box.lt
          go_wp2_with fail
          refine (thas_any r (x : Int) (y : Int) IR.out _).mono ?_
          rintro e1 w1 ⟨rfl, hb⟩
          have K1 := Lib.hid (hK.out.go hb); clear hb hK c0 c1 c2 c3 cl
          by_cases hh : HasR r x y
          · rw [decide_eq_true hh]
            have hn := soFar_yes hh
            have hlen := soFar_len r x y
            have HN := Lib.hid hn; clear hn
            have hown := K1.out.own
            have hsz := K1.out.bel.size
            have hbx := K1.out.box.lt
            go_wp2_with (at_builtin; refine wpList_append_own _ rfl _ _ 38 rfl (w.heap.size + 1) 40 i0 (.agg #[.int .i64 0, .int .i64 0]) 2 16 Try.underlying38 hi9 hz0 hz1 hz2 rfl (by decide) _ _ _ rfl (hown.alloc _) ⟨w1.heap.size, 0, none⟩ 1 1 (pcells [(x, y)]) rfl rfl ?c1 ?c2 ?c3 ?c4 ?c5 ?_)
            case c1 =>
              intro j u hj
              rw [pcells_one] at hj
              have hnew : (w1.alloc (.cells #[.int .i64 (x : Int), .int .i64 (y : Int)] 40)).heap[w1.heap.size]? = some (.cells #[.int .i64 (x : Int), .int .i64 (y : Int)] 40 (0, 0)) := heap_alloc_new w1 _
              match j, hj with
              | 0, hj => simp at hj; subst hj; simp [Addr.add, Lib.cell_of_heap hnew]
              | 1, hj => simp at hj; subst hj; simp [Addr.add, Lib.cell_of_heap hnew]
              | j + 2, hj => simp at hj
            case c2 => intro u hu; rw [pcells_one] at hu; simp at hu; rcases hu with rfl | rfl <;> rfl
            case c3 => unfold maxLen; omega
            case c4 => omega
            case c5 => simp; omega
            intro v' w4 hown' hgr _
            have hI : CInv r v' (soFar r x (y + 1)) w w4 := by
              refine ⟨?_, ?_, ?_⟩
              · rw [HN.out, pcells_append, List.length_append]; exact hown'
              · unfold RcAt
                rw [hgr.block w.heap.size (by simp; omega) (fun e => by have := (hown.lt _ e.symm).1; omega), Lib.alloc_old w1 _ w.heap.size hbx]
                exact K1.out.box
              · exact Below.grown (w := w1.alloc (.cells #[.int .i64 (x : Int), .int .i64 (y : Int)] 40)) (K1.out.bel.alloc hsz _) hgr (by simp; omega) (fun q hq => by have := (hown.lt q hq).1; omega)
            have HI := Lib.hid hI
            clear hown' hgr hown hI K1
            go_wp2
            go_roundw
            case rel => exact ⟨y + 1, by omega, by go_num, HI⟩
            case measure => simp [intOf]; omega
          · rw [decide_eq_false hh]
            have hn := soFar_no hh
            have HN := Lib.hid hn; clear hn
            go_wp2
            go_roundw
            case rel => exact ⟨y + 1, by omega, by go_num, by rw [HN.out]; exact K1⟩
            case measure => simp [intOf]; omega
        · obtain rfl : y = 8 := by omega
          rw [soFar_col] at hK
          go_wp2
          go_roundw
          case rel => exact ⟨x + 1, by omega, by go_num, hK⟩
          case measure => simp [intOf]; omega
    · obtain rfl : x = 8 := by omega
      rw [soFar_all] at hK
      go_wp2
      go_ret
      exact ⟨_, rfl, hK.out⟩

/-- whether two cells have a common side, as the law asks it. -/
def besB (x y u v : Int) : Bool := (x == u && (y - v == 1 || v - y == 1)) || (y == v && (x - u == 1 || u - x == 1))
set_option maxHeartbeats 8000000 in
theorem beside_any (x y u v : Int) (hx : 0 ≤ x ∧ x ≤ 8) (hy : 0 ≤ y ∧ y ≤ 8) (hu : 0 ≤ u ∧ u ≤ 8) (hv : 0 ≤ v ∧ v ≤ 8) (w : World) : Calls Try.prog 31 #[.int .i64 x, .int .i64 y, .int .i64 u, .int .i64 v] w fun e w' => e = .returned (.bool (besB x y u v)) ∧ Below w.heap.size w w' := by
  obtain ⟨x1, x2⟩ := hx; obtain ⟨y1, y2⟩ := hy; obtain ⟨u1, u2⟩ := hu; obtain ⟨v1, v2⟩ := hv
  by_cases c0 : x = u <;> by_cases c1 : y - v = 1 <;> by_cases c2 : v - y = 1 <;> by_cases c3 : y = v <;> by_cases c4 : x - u = 1 <;> by_cases c5 : u - x = 1
  all_goals first | (exfalso; omega) | skip
  all_goals
    go_enter Try.func31, Try.ntmps31
    go_wp2
    go_ret
    exact ⟨ret_bl (by simp [besB, *]), by (repeat' first | exact Below.refl _ _ | assumption | (apply below_drewN) | (refine Below.setCell ?_ (by (try simp); (try omega)) _) | (refine Below.alloc ?_ (by (try simp); (try omega)) _) | (refine Below.trans ?_ (Below.mono (Hid.out (by assumption)) (by (try simp); (try omega)))))⟩
end Go.Proofs.Ytpbkmphpgjdpfaa
