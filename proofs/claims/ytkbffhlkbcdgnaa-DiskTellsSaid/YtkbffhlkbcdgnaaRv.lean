/-
  The contract of the reference's survive.
-/
import Derived.Test.YtkbffhlkbcdgnaaRt
import Derived.StillTailTactics
import Derived.IntWalk
set_option linter.unusedVariables false
namespace Go.Proofs.Ytkbffhlkbcdgnaa
open Go.RowKit

/-- the file of a sector that survives. -/
def rSurv (l : List RFile) (x : Int × Nat) : RFile :=
  if 64 * x.2 < (rget l x.1).2.1.size then (x.1, (rget l x.1).2.1, bsOf (put (rget l x.1).2.2.data.toList (64 * x.2) (sec (rget l x.1).2.1.data.toList x.2))) else rget l x.1

theorem sec_extract (s : ByteArray) (n : Nat) : (s.extract (64 * n) (min s.size (64 * n + 64))).data.toList = sec s.data.toList n := by
  have hsl : s.data.toList.length = s.size := Array.length_toList
  rw [ByteArray.data_extract, Array.toList_extract, List.extract_eq_take_drop, sec]
  by_cases h : s.size ≤ 64 * n
  · rw [List.drop_of_length_le (by omega)]; simp
  · by_cases h2 : s.size ≤ 64 * n + 64
    · rw [Nat.min_eq_left h2, List.take_of_length_le (by rw [List.length_drop]; omega), List.take_of_length_le (by rw [List.length_drop]; omega)]
    · rw [Nat.min_eq_right (by omega)]
      congr 1; omega

set_option maxRecDepth 100000 in
set_option maxHeartbeats 4000000 in
theorem rsurvive_any (r B : Nat) (s : RSt) (f : Int) (n : Nat) (w : World) (h : RAt r B s w) (hl : s.fl.length ≤ 1099511627776) (hn : n ≤ 1099511627776) (hnow : (rget s.fl f).2.1.size ≤ 16777216) (hlast : (rget s.fl f).2.2.size ≤ 16777216) :
    Calls Try.prog 43 #[.pointer (some ⟨r, 0, none⟩), .agg #[.int .i64 f, .int .i64 (n : Int)]] w fun e w' => e = .returned (.tuple #[]) ∧ RAt r B { s with fl := rset s.fl (rSurv s.fl (f, n)) } w' ∧ RFr B w w' := by
  have hb0 : Below w.heap.size w (w.alloc (.cells #[.int .i64 f, .int .i64 (n : Int)] 72)) := (Below.refl _ _).alloc (Nat.le_refl _) _
  have h1 := h.below hb0
  have HG := Lib.hid (rget_any r B s f _ h1 hl)
  have hg1 := rget_one s.fl f
  have HX : Hid (rSurv s.fl (f, n) = if 64 * n < (rget s.fl f).2.1.size then (f, (rget s.fl f).2.1, bsOf (put (rget s.fl f).2.2.data.toList (64 * n) (sec (rget s.fl f).2.1.data.toList n))) else rget s.fl f) := Lib.hid rfl
  have HH := Lib.hid h
  have HB0 := Lib.hid hb0
  have hblk0 : (w.alloc (.cells #[.int .i64 f, .int .i64 (n : Int)] 72)).heap[w.heap.size]? = some (.cells #[.int .i64 f, .int .i64 (n : Int)] 72 (0, 0)) := heap_alloc_new w _
  have hsz0 : (w.alloc (.cells #[.int .i64 f, .int .i64 (n : Int)] 72)).heap.size = w.heap.size + 1 := by simp
  generalize rSurv s.fl (f, n) = X at *
  generalize rget s.fl f = y at *
  clear h h1 hb0
  go_enter Try.func43, Try.ntmps43
  go_wp2_with fail
  refine HG.out.mono ?_
  rintro e w2 ⟨rfl, hb2⟩
  have hbb : Below w.heap.size w w2 := HB0.out.trans (hb2.mono (by simp))
  have hblk : w2.heap[w.heap.size]? = some (.cells #[.int .i64 f, .int .i64 (n : Int)] 72 (0, 0)) := (hb2.block _ (by simp)).trans hblk0
  have hlt2 := brow_lt hblk
  have s0 : w2.cell? ⟨w.heap.size, 0, none⟩ = some (.int .i64 f) := by rw [Lib.cell_of_heap hblk]; rfl
  have s1 : w2.cell? ⟨w.heap.size, 1, none⟩ = some (.int .i64 (n : Int)) := by rw [Lib.cell_of_heap hblk]; rfl
  have HBB := Lib.hid hbb
  unfold fval
  clear hb2 HG hblk0 hblk hbb HB0
  by_cases hlt : 64 * n < y.2.1.size
  · have hlt' : (64 : Int) * (n : Int) < (y.2.1.size : Int) := by omega
    have HXX : Hid (X = (f, y.2.1, bsOf (put y.2.2.data.toList (64 * n) (sec y.2.1.data.toList n)))) := Lib.hid (by rw [HX.out, if_pos hlt])
    have hal : Below w2.heap.size w2 (w2.alloc (.cells #[.int .i64 f, .string y.2.1, .string y.2.2] 60)) := (Below.refl _ _).alloc (Nat.le_refl _) _
    have hfb : (w2.alloc (.cells #[.int .i64 f, .string y.2.1, .string y.2.2] 60)).heap[w2.heap.size]? = some (.cells #[.int .i64 f, .string y.2.1, .string y.2.2] 60 (0, 0)) := heap_alloc_new w2 _
    have q0 := (hal.cell (p := ⟨w.heap.size, 0, none⟩) hlt2).trans s0
    have q1 := (hal.cell (p := ⟨w.heap.size, 1, none⟩) hlt2).trans s1
    have f0 : (w2.alloc (.cells #[.int .i64 f, .string y.2.1, .string y.2.2] 60)).cell? ⟨w2.heap.size, 0, none⟩ = some (.int .i64 f) := by rw [Lib.cell_of_heap hfb]; rfl
    have f1 : (w2.alloc (.cells #[.int .i64 f, .string y.2.1, .string y.2.2] 60)).cell? ⟨w2.heap.size, 1, none⟩ = some (.string y.2.1) := by rw [Lib.cell_of_heap hfb]; rfl
    have f2 : (w2.alloc (.cells #[.int .i64 f, .string y.2.1, .string y.2.2] 60)).cell? ⟨w2.heap.size, 2, none⟩ = some (.string y.2.2) := by rw [Lib.cell_of_heap hfb]; rfl
    have HAL : Hid (Below w.heap.size w (w2.alloc (.cells #[.int .i64 f, .string y.2.1, .string y.2.2] 60))) := Lib.hid (HBB.out.trans (hal.mono HBB.out.size))
    have HFB := Lib.hid hfb
    have hle := HBB.out.size
    clear hal hfb
    go_wp2_with fail
    generalize (w2.alloc (.cells #[.int .i64 f, .string y.2.1, .string y.2.2] 60)) = wa at *
    have hw1 : IntKind.i64.wrap (64 * (n : Int)) = 64 * (n : Int) := by rw [IntKind.wrap_i64]; omega
    have hw2 : IntKind.i64.wrap (64 * (n : Int) + 64) = 64 * (n : Int) + 64 := by rw [IntKind.wrap_i64]; omega
    have hmn : (if (y.2.1.size : Int) < 64 * (n : Int) + 64 then (y.2.1.size : Int) else 64 * (n : Int) + 64) = ((min y.2.1.size (64 * n + 64) : Nat) : Int) := by
      split <;> omega
    have hp0 : (0 : Int) ≤ 64 * (n : Int) := by omega
    have hp1 : 64 * (n : Int) ≤ ((min y.2.1.size (64 * n + 64) : Nat) : Int) := by omega
    have hp2 : ((min y.2.1.size (64 * n + 64) : Nat) : Int) ≤ (y.2.1.size : Int) := by omega
    have hxs : Hid ((y.2.1.extract ((64 : Int) * (n : Int)).toNat (min y.2.1.size (64 * n + 64))).data.toList = sec y.2.1.data.toList n) := Lib.hid (by
      rw [show ((64 : Int) * (n : Int)).toNat = 64 * n by omega]
      exact sec_extract _ _)
    have hxz : (y.2.1.extract ((64 : Int) * (n : Int)).toNat (min y.2.1.size (64 * n + 64))).size ≤ 64 := by
      have h1 := congrArg List.length hxs.out
      rw [sec_length, Array.length_toList] at h1
      have h2 : (y.2.1.extract ((64 : Int) * (n : Int)).toNat (min y.2.1.size (64 * n + 64))).data.size = (y.2.1.extract ((64 : Int) * (n : Int)).toNat (min y.2.1.size (64 * n + 64))).size := rfl
      omega
    go_still_tail 19, (by kernel_rfl)
    change wpList _ _ _ _ _ wa.drew
    have d0 : wa.drew.cell? ⟨w2.heap.size, 0, none⟩ = some (.int .i64 f) := f0
    have d1 : wa.drew.cell? ⟨w2.heap.size, 1, none⟩ = some (.string y.2.1) := f1
    have DAL : Hid (Below w.heap.size w wa.drew) := Lib.hid HAL.out.drew
    have DFB : Hid (wa.drew.heap[w2.heap.size]? = some (.cells #[.int .i64 f, .string y.2.1, .string y.2.2] 60 (0, 0))) := HFB
    generalize wa.drew = wd at *
    generalize y.2.1.extract ((64 : Int) * (n : Int)).toNat (min y.2.1.size (64 * n + 64)) = t at *
    clear q0 q1 f0 f1 f2 HAL HFB hmn hp1 hp2 hw1 hw2
    have hpu := rPut_any y.2.2 (64 * n) t wd (by omega) (by omega)
    rw [hxs.out, show ((64 * n : Nat) : Int) = 64 * (n : Int) by omega] at hpu
    go_wp2_with fail
    refine hpu.mono ?_
    rintro e w3 ⟨u, rfl, hu, hb3⟩
    have HU := Lib.hid (bsOf_eq hu)
    clear hu hpu
    have hblk3 : w3.heap[w2.heap.size]? = some (.cells #[.int .i64 f, .string y.2.1, .string y.2.2] 60 (0, 0)) := (hb3.block _ (brow_lt DFB.out)).trans DFB.out
    have hc0 : w3.cell? ⟨w2.heap.size, 0, none⟩ = some (.int .i64 f) := by rw [Lib.cell_of_heap hblk3]; rfl
    have hc1 : w3.cell? ⟨w2.heap.size, 1, none⟩ = some (.string y.2.1) := by rw [Lib.cell_of_heap hblk3]; rfl
    have hc2 : w3.cell? ⟨w2.heap.size, 2, none⟩ = some (.string y.2.2) := by rw [Lib.cell_of_heap hblk3]; rfl
    have hz2' : w3.frozen? ⟨w2.heap.size, 2, none⟩ = false := Lib.frozen_of_heap hblk3 2
    have hb5 : Below w.heap.size w (w3.setCell ⟨w2.heap.size, 2, none⟩ (.string u)) := Below.setCell (p := ⟨w2.heap.size, 2, none⟩) (DAL.out.trans (hb3.mono DAL.out.size)) hle _
    have hset := rset_any r B s X (w3.setCell ⟨w2.heap.size, 2, none⟩ (.string u)) (HH.out.below hb5) hl
    rw [HXX.out, ← HU.out] at hset
    have HS := Lib.hid hset
    have HB5 := Lib.hid hb5
    clear hblk3 hb3 hb5 hset DFB
    go_wp2_with fail
    refine HS.out.mono ?_
    rintro e w6 ⟨rfl, h6, f6⟩
    rw [HU.out, ← HXX.out] at h6
    have H6 := Lib.hid h6
    have F6 := Lib.hid f6
    clear h6 f6 HS
    go_wp2
    refine bodyPost_end (results_none rfl _ _ _) rfl ?_
    exact ⟨rfl, H6.out, (RFr.of_below HB5.out).trans F6.out⟩
  · have hlt' : (y.2.1.size : Int) ≤ (64 : Int) * (n : Int) := by omega
    have HXX : Hid (X = y) := Lib.hid (by rw [HX.out, if_neg hlt])
    have hal : Below w.heap.size w (w2.alloc (.cells #[.int .i64 f, .string y.2.1, .string y.2.2] 60)) := HBB.out.alloc HBB.out.size _
    have HAL := Lib.hid hal
    have hset := rset_any r B s y _ (HH.out.below hal) hl
    have hy : fval y = .agg #[.int .i64 f, .string y.2.1, .string y.2.2] := by rw [fval, hg1]
    rw [hy] at hset
    have HS := Lib.hid hset
    clear hal hset hy
    go_wp2_with fail
    refine HS.out.mono ?_
    rintro e w3 ⟨rfl, h3, f3⟩
    have H3 := Lib.hid h3
    have F3 := Lib.hid f3
    clear h3 f3 HS
    go_wp2
    refine bodyPost_end (results_none rfl _ _ _) rfl ?_
    rw [HXX.out]
    exact ⟨rfl, H3.out, (RFr.of_below HAL.out).trans F3.out⟩

end Go.Proofs.Ytkbffhlkbcdgnaa
