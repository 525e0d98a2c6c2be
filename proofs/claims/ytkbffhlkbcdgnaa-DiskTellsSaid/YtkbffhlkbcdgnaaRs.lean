/-
  What the reference's writers leave, and the contract of its set.
-/
import Derived.Test.YtkbffhlkbcdgnaaPu
import Derived.Test.YtkbffhlkbcdgnaaRb
set_option linter.unusedVariables false
namespace Go.Proofs.Ytkbffhlkbcdgnaa
open Go.RowKit

/-- block k is none of those that the reference writes to: its disk, and its list of pending sectors. -/
def NonRef (w : World) (k : Nat) : Prop := ∀ c z, w.heap[k]? ≠ some (.cells c 54 z) ∧ w.heap[k]? ≠ some (.cells c 72 z)
/-- below B, and in blocks that are not the reference's, nothing has turned. -/
structure RFr (B : Nat) (w w' : World) : Prop where
  os : w'.os = w.os
  tape : w'.tape = w.tape
  output : w'.output = w.output
  size : w.heap.size ≤ w'.heap.size
  block : ∀ k, k < w.heap.size → k < B ∨ NonRef w k → w'.heap[k]? = w.heap[k]?

theorem RFr.refl (B : Nat) (w : World) : RFr B w w := ⟨rfl, rfl, rfl, Nat.le_refl _, fun _ _ _ => rfl⟩
theorem RFr.trans {B : Nat} {a b c : World} (h : RFr B a b) (k : RFr B b c) : RFr B a c :=
  ⟨k.os.trans h.os, k.tape.trans h.tape, k.output.trans h.output, Nat.le_trans h.size k.size, fun i hi hn => by
    have h1 := h.block i hi hn
    refine (k.block i (Nat.lt_of_lt_of_le hi h.size) ?_).trans h1
    rcases hn with hn | hn
    · exact .inl hn
    · right; intro c z; rw [h1]; exact hn c z⟩
theorem RFr.of_below {B : Nat} {w w' : World} (h : Below w.heap.size w w') : RFr B w w' := ⟨h.os, h.tape, h.output, h.size, fun k hk _ => h.block k hk⟩
theorem RFr.of_disk {B r : Nat} {w w' : World} {c : Array Value} {z : Nat × Nat} (h : w.grownBy w' (some r)) (hB : B ≤ r) (hr : w.heap[r]? = some (.cells c 54 z)) : RFr B w w' :=
  ⟨h.os, h.tape, h.output, h.size, fun k hk hn => h.block k hk (fun e => by
    injection e with e
    subst e
    rcases hn with hn | hn
    · omega
    · exact (hn c z).1 hr)⟩
theorem RFr.below {B : Nat} {w w' : World} (h : RFr B w w') : B ≤ w.heap.size → Below B w w' := fun hB => ⟨h.os, h.tape, h.output, h.size, fun k hk => h.block k (by omega) (.inl hk)⟩
theorem grown_one (w : World) (r i : Nat) (u : Value) : w.grownBy (w.setCell ⟨r, i, none⟩ u) (some r) :=
  ⟨rfl, rfl, rfl, by simp [World.setCell], fun k _ hk => Below.heap_setCell _ _ _ _ (fun e => hk (by simp [e]))⟩

theorem own_le {w : World} {B B' e size n : Nat} {v : Value} {xs : List Value} (h : w.ownsRow B e size v n xs) (hb : B' ≤ B) : w.ownsRow B' e size v n xs :=
  ⟨h.1, h.2.imp id fun ⟨g, cap, cur, h1, h2, h3⟩ => ⟨g, cap, cur, h1, Nat.le_trans hb h2, h3⟩⟩
/-- a row stays owned where its block stays. -/
theorem own_keep {w w' : World} {B e size n : Nat} {v : Value} {xs : List Value} (h : w.ownsRow B e size v n xs) (hk : ∀ (g : Nat) (c : Array Value) (z : Nat × Nat), w.heap[g]? = some (Obj.cells c e z) → w'.heap[g]? = w.heap[g]?) : w'.ownsRow B e size v n xs :=
  ⟨h.1, h.2.imp id fun ⟨g, cap, cur, h1, h2, h3, h4⟩ => ⟨g, cap, cur, h1, h2, (hk g _ _ h3).trans h3, h4⟩⟩

theorem RAt.below {r B : Nat} {s : RSt} {w w' : World} (h : RAt r B s w) (hb : Below w.heap.size w w') : RAt r B s w' := by
  obtain ⟨F, Q, K, h1, h2, h3, h4, h5⟩ := h
  refine ⟨F, Q, K, (hb.block r (brow_lt h1)).trans h1, own_keep h2 ?_, own_keep h3 ?_, own_keep h4 ?_, h5⟩
  all_goals intro g c z hg; exact hb.block g (brow_lt hg)
/-- a store of a new list of files. -/
theorem RAt.setF {r B : Nat} {s : RSt} {w : World} (h : RAt r B s w) {fl : List RFile} {v : Value} (hv : w.ownsRow B 60 3 v fl.length (fcells fl)) : RAt r B { s with fl := fl } (w.setCell ⟨r, 0, none⟩ v) := by
  obtain ⟨F, Q, K, h1, h2, h3, h4, h5⟩ := h
  have hne : ∀ {T : TypeId}, T ≠ 54 → ∀ (g : Nat) (c : Array Value) (z : Nat × Nat), w.heap[g]? = some (Obj.cells c T z) → (w.setCell ⟨r, 0, none⟩ v).heap[g]? = w.heap[g]? := by
    intro T hT g c z hg
    refine Below.heap_setCell _ _ _ _ (fun e => ?_)
    simp only at e
    subst e
    rw [h1] at hg
    simp only [Option.some.injEq, Obj.cells.injEq] at hg
    exact hT hg.2.1.symm
  exact ⟨v, Q, K, heap_set h1, own_keep hv (hne (by decide)), own_keep h3 (hne (by decide)), own_keep h4 (hne (by decide)), h5⟩

theorem infoFile : (Try.prog.info? 60).map (fun i => (i.zero, i.size, i.bytes)) = some (some (.agg #[.int .i64 0, .string ⟨#[]⟩, .string ⟨#[]⟩]), 3, 40) := by kernel_rfl
theorem infoSector : (Try.prog.info? 72).map (fun i => (i.zero, i.size, i.bytes)) = some (some (.agg #[.int .i64 0, .int .i64 0]), 2, 16) := by kernel_rfl

theorem fcells_append (l m : List RFile) : fcells (l ++ m) = fcells l ++ fcells m := by simp [fcells]
theorem fcells_one (x : RFile) : fcells [x] = [.int .i64 x.1, .string x.2.1, .string x.2.2] := rfl
/-- the files among the first k that are not f. -/
def others (l : List RFile) (f : Int) (k : Nat) : List RFile := (l.take k).filter fun y => !(y.1 == f)
theorem others_skip (l : List RFile) (f : Int) (k : Nat) (hk : k < l.length) (h : l[k].1 = f) : others l f (k + 1) = others l f k := by
  unfold others
  rw [List.take_succ_eq_append_getElem hk, List.filter_append]; simp [h]
theorem others_take (l : List RFile) (f : Int) (k : Nat) (hk : k < l.length) (h : l[k].1 ≠ f) : others l f (k + 1) = others l f k ++ [l[k]] := by
  unfold others
  rw [List.take_succ_eq_append_getElem hk, List.filter_append]; simp [h]
theorem others_len (l : List RFile) (f : Int) (k : Nat) : (others l f k).length ≤ k := by
  unfold others
  refine Nat.le_trans (List.length_filter_le _ _) ?_
  rw [List.length_take]; omega
theorem others_all (l : List RFile) (x : RFile) : others l x.1 l.length ++ [x] = rset l x := by
  unfold others rset
  rw [List.take_length]

set_option maxRecDepth 100000 in
set_option maxHeartbeats 4000000 in
theorem rset_any (r B : Nat) (s : RSt) (x : RFile) (w : World) (h : RAt r B s w) (hl : s.fl.length ≤ 1099511627776) :
    Calls Try.prog 52 #[.pointer (some ⟨r, 0, none⟩), fval x] w fun e w' => e = .returned (.tuple #[]) ∧ RAt r B { s with fl := rset s.fl x } w' ∧ RFr B w w' := by
  obtain ⟨i0, hi9, hz0, hz1, hz2⟩ := info_parts infoFile
  have hr := h.lt
  obtain ⟨Fv, Qv, Kv, c0, _, _, _, _, _, hz, hF, _, _⟩ := h.cells
  obtain ⟨A, cap, rfl, hA⟩ := own_parts hF
  have hBr : B ≤ r := by obtain ⟨_, _, _, _, _, _, _, h5⟩ := h; exact h5
  have HA := Lib.hid hA
  have HH := Lib.hid h
  clear hA hF h
  unfold fval
  go_enter Try.func52, Try.ntmps52
  go_wp2
  have hfr : Below (w.heap.size + 1) (w.alloc (.cells #[.int .i64 x.1, .string x.2.1, .string x.2.2] 60)) (w.alloc (.cells #[.int .i64 x.1, .string x.2.1, .string x.2.2] 60)) := Below.refl _ _
  have hsz1 : (w.alloc (.cells #[.int .i64 x.1, .string x.2.1, .string x.2.2] 60)).heap.size = w.heap.size + 1 := by simp
  have hb0 : Below w.heap.size w (w.alloc (.cells #[.int .i64 x.1, .string x.2.1, .string x.2.2] 60)) := (Below.refl _ _).alloc (Nat.le_refl _) _
  have hx0 : (w.alloc (.cells #[.int .i64 x.1, .string x.2.1, .string x.2.2] 60)).cell? ⟨w.heap.size, 0, none⟩ = some (.int .i64 x.1) := by rw [Lib.cell_of_heap (heap_alloc_new w _)]; rfl
  have hx1 : (w.alloc (.cells #[.int .i64 x.1, .string x.2.1, .string x.2.2] 60)).cell? ⟨w.heap.size, 1, none⟩ = some (.string x.2.1) := by rw [Lib.cell_of_heap (heap_alloc_new w _)]; rfl
  have hx2 : (w.alloc (.cells #[.int .i64 x.1, .string x.2.1, .string x.2.2] 60)).cell? ⟨w.heap.size, 2, none⟩ = some (.string x.2.2) := by rw [Lib.cell_of_heap (heap_alloc_new w _)]; rfl
  generalize w.alloc (.cells #[.int .i64 x.1, .string x.2.1, .string x.2.2] 60) = w1 at *
  go_loopw [4, 5] (fun v i wr => ∃ k : Nat, k ≤ s.fl.length ∧ i = .int .i64 k ∧ wr.ownsRow (w.heap.size + 1) 60 3 v (others s.fl x.1 k).length (fcells (others s.fl x.1 k)) ∧ Below (w.heap.size + 1) w1 wr) (fun _ i _ => s.fl.length - (intOf i).toNat)
  case atStart => exact ⟨0, Nat.zero_le _, rfl, World.ownsRow_nil _ _ _ _, hfr⟩
  case round =>
    obtain ⟨k, hk, rfl, hown, hbr⟩ := hrel
    have hk1 := others_len s.fl x.1 k
    have d0 : wr.cell? ⟨r, 0, none⟩ = some (.slice A s.fl.length cap) := (hbr.cell (p := ⟨r, 0, none⟩) (by simp only; omega)).trans ((hb0.cell (p := ⟨r, 0, none⟩) hr).trans c0)
    have d1 : wr.cell? ⟨w.heap.size, 0, none⟩ = some (.int .i64 x.1) := (hbr.cell (p := ⟨w.heap.size, 0, none⟩) (by simp only; omega)).trans hx0
    have d2 : wr.cell? ⟨w.heap.size, 1, none⟩ = some (.string x.2.1) := (hbr.cell (p := ⟨w.heap.size, 1, none⟩) (by simp only; omega)).trans hx1
    have d3 : wr.cell? ⟨w.heap.size, 2, none⟩ = some (.string x.2.2) := (hbr.cell (p := ⟨w.heap.size, 2, none⟩) (by simp only; omega)).trans hx2
    have HBB := Lib.hid hbr
    have HB0 := Lib.hid hb0
    clear hx0 hx1 hx2 hfr hb0 hbr
    by_cases hlt : k < s.fl.length
    · obtain ⟨g, rfl, hg, hc⟩ := HA.out (by omega)
      obtain ⟨e0, e1, e2⟩ := fcells_at s.fl k hlt
      have kk : ∀ j u, j < s.fl.length * 3 → (fcells s.fl)[j]? = some u → wr.cell? ⟨g, j, none⟩ = some u := fun j u hj hu =>
        (HBB.out.cell (p := ⟨g, j, none⟩) (by simp only; omega)).trans ((HB0.out.cell (p := ⟨g, j, none⟩) hg).trans ((hc j hj).trans hu))
      have k0 : wr.cell? ⟨g, k * 3, none⟩ = some (.int .i64 s.fl[k].1) := kk _ _ (by omega) e0
      have k1 : wr.cell? ⟨g, k * 3 + 1, none⟩ = some (.string s.fl[k].2.1) := kk _ _ (by omega) e1
      have k2 : wr.cell? ⟨g, k * 3 + 2, none⟩ = some (.string s.fl[k].2.2) := kk _ _ (by omega) e2
      clear hc e0 e1 e2 kk
      have hi0 : (0 : Int) ≤ (k : Int) := by omega
      have hi1 : (k : Int) < (s.fl.length : Int) := by omega
      by_cases he : s.fl[k].1 = x.1
      · have HO := Lib.hid (others_skip s.fl x.1 k hlt he)
        have hne : (s.fl[k].1 != x.1) = false := by simpa using he
        go_wp2
        go_quiet (fail)
        go_wp2
        go_roundw
        case rel => exact ⟨k + 1, by omega, by go_num, by rw [HO.out]; exact hown, HBB.out.trans ⟨rfl, rfl, rfl, Nat.le_refl _, fun _ _ => rfl⟩⟩
        case measure => simp [intOf]; omega
      · have HO := Lib.hid (others_take s.fl x.1 k hlt he)
        have hne : (s.fl[k].1 != x.1) = true := by simpa using he
        go_wp2
        go_quiet (fail)
        go_wp2_with (at_builtin; refine wpList_append_own _ rfl _ _ 51 rfl (w.heap.size + 1) 60 i0 (.agg #[.int .i64 0, .string ⟨#[]⟩, .string ⟨#[]⟩]) 3 40 Try.underlying51 hi9 hz0 hz1 hz2 rfl (by decide) _ _ _ rfl (hown.alloc _) ⟨wr.heap.size, 0, none⟩ 1 1 (fcells [s.fl[k]]) rfl rfl ?c1 ?c2 ?c3 ?c4 ?c5 ?_)
        case c1 =>
          intro j u hj
          rw [fcells_one] at hj
          have hnew : ((wr.drewN nq).alloc (.cells #[.int .i64 s.fl[k].1, .string s.fl[k].2.1, .string s.fl[k].2.2] 60)).heap[wr.heap.size]? = some (.cells #[.int .i64 s.fl[k].1, .string s.fl[k].2.1, .string s.fl[k].2.2] 60 (0, 0)) := heap_alloc_new (wr.drewN nq) _
          match j, hj with
          | 0, hj => simp at hj; subst hj; simp [Addr.add, Lib.cell_of_heap hnew]
          | 1, hj => simp at hj; subst hj; simp [Addr.add, Lib.cell_of_heap hnew]
          | 2, hj => simp at hj; subst hj; simp [Addr.add, Lib.cell_of_heap hnew]
          | j + 3, hj => simp at hj
        case c2 => intro u hu; rw [fcells_one] at hu; simp at hu; rcases hu with rfl | rfl | rfl <;> rfl
        case c3 => unfold maxLen; omega
        case c4 => omega
        case c5 => have := HBB.out.size; simp; omega
        intro v' w4 hown' hgr _
        have HOW : Hid (w4.ownsRow (w.heap.size + 1) 60 3 v' (others s.fl x.1 (k + 1)).length (fcells (others s.fl x.1 (k + 1)))) := Lib.hid (by
          rw [HO.out, fcells_append, List.length_append]; exact hown')
        have HB4 : Hid (Below (w.heap.size + 1) w1 w4) := Lib.hid (Below.grown (w := (wr.drewN nq).alloc (.cells #[.int .i64 s.fl[k].1, .string s.fl[k].2.1, .string s.fl[k].2.2] 60)) ((HBB.out.trans (⟨rfl, rfl, rfl, Nat.le_refl _, fun _ _ => rfl⟩ : Below (w.heap.size + 1) wr (wr.drewN nq))).alloc (by have := HBB.out.size; simp; omega) _) hgr (by have := HBB.out.size; simp; omega) (fun q hq => (hown.lt q hq).1))
        clear hown' hgr
        go_wp2
        go_roundw
        case rel => exact ⟨k + 1, by omega, by go_num, HOW.out, HB4.out⟩
        case measure => simp [intOf]; omega
    · obtain rfl : k = s.fl.length := by omega
      have HO := Lib.hid (others_all s.fl x)
      go_wp2_with (at_builtin; revert hr)
      intro hr
      refine wpList_append_own _ rfl _ _ 51 rfl (w.heap.size + 1) 60 i0 (.agg #[.int .i64 0, .string ⟨#[]⟩, .string ⟨#[]⟩]) 3 40 Try.underlying51 hi9 hz0 hz1 hz2 rfl (by decide) _ _ _ rfl (hown.alloc _) ⟨wr.heap.size, 0, none⟩ 1 1 (fcells [x]) rfl rfl ?c1 ?c2 ?c3 ?c4 ?c5 ?_
      case c1 =>
        intro j u hj
        rw [fcells_one] at hj
        have hnew : (wr.alloc (.cells #[.int .i64 x.1, .string x.2.1, .string x.2.2] 60)).heap[wr.heap.size]? = some (.cells #[.int .i64 x.1, .string x.2.1, .string x.2.2] 60 (0, 0)) := heap_alloc_new wr _
        match j, hj with
        | 0, hj => simp at hj; subst hj; simp [Addr.add, Lib.cell_of_heap hnew]
        | 1, hj => simp at hj; subst hj; simp [Addr.add, Lib.cell_of_heap hnew]
        | 2, hj => simp at hj; subst hj; simp [Addr.add, Lib.cell_of_heap hnew]
        | j + 3, hj => simp at hj
      case c2 => intro u hu; rw [fcells_one] at hu; simp at hu; rcases hu with rfl | rfl | rfl <;> rfl
      case c3 => unfold maxLen; omega
      case c4 => omega
      case c5 => have := HBB.out.size; simp; omega
      intro v' w4 hown' hgr _
      obtain ⟨A', cap', rfl, _⟩ := own_parts hown'
      have hB4 : Below (w.heap.size + 1) w1 w4 := Below.grown (w := wr.alloc (.cells #[.int .i64 x.1, .string x.2.1, .string x.2.2] 60)) (HBB.out.alloc (by have := HBB.out.size; omega) _) hgr (by have := HBB.out.size; simp; omega) (fun q hq => (hown.lt q hq).1)
      have hB5 : Below w.heap.size w w4 := HB0.out.trans (hB4.mono (Nat.le_succ _))
      have HR4 := Lib.hid (HH.out.below hB5)
      have HOW : Hid (w4.ownsRow B 60 3 (.slice A' ((others s.fl x.1 s.fl.length).length + 1) cap') (rset s.fl x).length (fcells (rset s.fl x))) := Lib.hid (by
        rw [← HO.out, fcells_append, List.length_append]
        exact own_le hown' (by omega))
      obtain ⟨_, _, _, q0, _, _, _, _, _, qz, _⟩ := HR4.out.cells
      have qz0 := qz 0
      have HB5 := Lib.hid hB5
      clear hown' hgr hB4 hB5 qz
      go_wp2
      go_end0
      obtain ⟨F, Q, K, h1, _⟩ := HR4.out
      exact ⟨rfl, HR4.out.setF HOW.out, (RFr.of_below HB5.out).trans (RFr.of_disk (grown_one _ _ _ _) hBr h1)⟩

end Go.Proofs.Ytkbffhlkbcdgnaa
