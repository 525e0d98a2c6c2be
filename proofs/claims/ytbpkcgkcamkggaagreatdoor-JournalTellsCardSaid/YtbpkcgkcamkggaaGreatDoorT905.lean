/-
  The contract of the reference's survive.
  The contract of the reference's Crash.
-/
import Derived.Test.YtbpkcgkcamkggaaGreatDoorT904
import Derived.StillTailTactics
import Derived.IntWalk
set_option linter.unusedVariables false
namespace Go.Proofs.YtbpkcgkcamkggaaGreatDoor
open Go.RowKit

/-- the file of a sector that survives. -/
def rSurv (l : List RFile) (x : Int × Nat) : RFile :=
  if 64 * x.2 < (rget l x.1).2.1.size then (x.1, (rget l x.1).2.1, bsOf (put (rget l x.1).2.2.data.toList (64 * x.2) (sec (rget l x.1).2.1.data.toList x.2))) else rget l x.1

theorem sec_extract (s : ByteArray) (n : Nat) : (s.extract (64 * n) (min s.size (64 * n + 64))).data.toList = sec s.data.toList n := by
  have hsl : s.data.toList.length = s.size := Array.length_toList
  rw [ByteArray.data_extract, Array.toList_extract, List.extract_eq_take_drop, sec]
  by_cases h : s.size ≤ 64 * n
  · rw [List.drop_of_length_le (by omega)]; simp
  · by_cases h2 : s.size ≤ 64 * n + 64
    · rw [Nat.min_eq_left h2, List.take_of_length_le (by rw [List.length_drop]; omega), List.take_of_length_le (by rw [List.length_drop]; omega)]
    · rw [Nat.min_eq_right (by omega)]
      congr 1; omega

set_option maxRecDepth 100000 in
set_option maxHeartbeats 4000000 in
theorem rsurvive_any (r B : Nat) (s : RSt) (f : Int) (n : Nat) (w : World) (h : RAt r B s w) (hl : s.fl.length ≤ 1099511627776) (hn : n ≤ 1099511627776) (hnow : (rget s.fl f).2.1.size ≤ 16777216) (hlast : (rget s.fl f).2.2.size ≤ 16777216) :
    Calls Tryz.prog 46 #[.pointer (some ⟨r, 0, none⟩), .agg #[.int .i64 f, .int .i64 (n : Int)]] w fun e w' => e = .returned (.tuple #[]) ∧ RAt r B { s with fl := rset s.fl (rSurv s.fl (f, n)) } w' ∧ RFr B w w' := by
  have hb0 : Below w.heap.size w (w.alloc (.cells #[.int .i64 f, .int .i64 (n : Int)] 84)) := (Below.refl _ _).alloc (Nat.le_refl _) _
  have h1 := h.below hb0
  have HG := Lib.hid (rget_any r B s f _ h1 hl)
  have hg1 := rget_one s.fl f
  have HX : Hid (rSurv s.fl (f, n) = if 64 * n < (rget s.fl f).2.1.size then (f, (rget s.fl f).2.1, bsOf (put (rget s.fl f).2.2.data.toList (64 * n) (sec (rget s.fl f).2.1.data.toList n))) else rget s.fl f) := Lib.hid rfl
  have HH := Lib.hid h
  have HB0 := Lib.hid hb0
  have hblk0 : (w.alloc (.cells #[.int .i64 f, .int .i64 (n : Int)] 84)).heap[w.heap.size]? = some (.cells #[.int .i64 f, .int .i64 (n : Int)] 84 (0, 0)) := heap_alloc_new w _
  have hsz0 : (w.alloc (.cells #[.int .i64 f, .int .i64 (n : Int)] 84)).heap.size = w.heap.size + 1 := by simp
  generalize rSurv s.fl (f, n) = X at *
  generalize rget s.fl f = y at *
  clear h h1 hb0
  go_enter Tryz.func46, Tryz.ntmps46
  go_wp2_with fail
  refine HG.out.mono ?_
  rintro e w2 ⟨rfl, hb2⟩
  have hbb : Below w.heap.size w w2 := HB0.out.trans (hb2.mono (by simp))
  have hblk : w2.heap[w.heap.size]? = some (.cells #[.int .i64 f, .int .i64 (n : Int)] 84 (0, 0)) := (hb2.block _ (by simp)).trans hblk0
  have hlt2 := brow_lt hblk
  have s0 : w2.cell? ⟨w.heap.size, 0, none⟩ = some (.int .i64 f) := by rw [Lib.cell_of_heap hblk]; rfl
  have s1 : w2.cell? ⟨w.heap.size, 1, none⟩ = some (.int .i64 (n : Int)) := by rw [Lib.cell_of_heap hblk]; rfl
  have HBB := Lib.hid hbb
  unfold fval
  clear hb2 HG hblk0 hblk hbb HB0
  by_cases hlt : 64 * n < y.2.1.size
  · have hlt' : (64 : Int) * (n : Int) < (y.2.1.size : Int) := by omega
    have HXX : Hid (X = (f, y.2.1, bsOf (put y.2.2.data.toList (64 * n) (sec y.2.1.data.toList n)))) := Lib.hid (by rw [HX.out, if_pos hlt])
    have hal : Below w2.heap.size w2 (w2.alloc (.cells #[.int .i64 f, .string y.2.1, .string y.2.2] 86)) := (Below.refl _ _).alloc (Nat.le_refl _) _
    have hfb : (w2.alloc (.cells #[.int .i64 f, .string y.2.1, .string y.2.2] 86)).heap[w2.heap.size]? = some (.cells #[.int .i64 f, .string y.2.1, .string y.2.2] 86 (0, 0)) := heap_alloc_new w2 _
    have q0 := (hal.cell (p := ⟨w.heap.size, 0, none⟩) hlt2).trans s0
    have q1 := (hal.cell (p := ⟨w.heap.size, 1, none⟩) hlt2).trans s1
    have f0 : (w2.alloc (.cells #[.int .i64 f, .string y.2.1, .string y.2.2] 86)).cell? ⟨w2.heap.size, 0, none⟩ = some (.int .i64 f) := by rw [Lib.cell_of_heap hfb]; rfl
    have f1 : (w2.alloc (.cells #[.int .i64 f, .string y.2.1, .string y.2.2] 86)).cell? ⟨w2.heap.size, 1, none⟩ = some (.string y.2.1) := by rw [Lib.cell_of_heap hfb]; rfl
    have f2 : (w2.alloc (.cells #[.int .i64 f, .string y.2.1, .string y.2.2] 86)).cell? ⟨w2.heap.size, 2, none⟩ = some (.string y.2.2) := by rw [Lib.cell_of_heap hfb]; rfl
    have HAL : Hid (Below w.heap.size w (w2.alloc (.cells #[.int .i64 f, .string y.2.1, .string y.2.2] 86))) := Lib.hid (HBB.out.trans (hal.mono HBB.out.size))
    have HFB := Lib.hid hfb
    have hle := HBB.out.size
    clear hal hfb
    go_wp2_with fail
    generalize (w2.alloc (.cells #[.int .i64 f, .string y.2.1, .string y.2.2] 86)) = wa at *
    have hw1 : IntKind.i64.wrap (64 * (n : Int)) = 64 * (n : Int) := by rw [IntKind.wrap_i64]; omega
    have hw2 : IntKind.i64.wrap (64 * (n : Int) + 64) = 64 * (n : Int) + 64 := by rw [IntKind.wrap_i64]; omega
    have hmn : (if (y.2.1.size : Int) < 64 * (n : Int) + 64 then (y.2.1.size : Int) else 64 * (n : Int) + 64) = ((min y.2.1.size (64 * n + 64) : Nat) : Int) := by
      split <;> omega
    have hp0 : (0 : Int) ≤ 64 * (n : Int) := by omega
    have hp1 : 64 * (n : Int) ≤ ((min y.2.1.size (64 * n + 64) : Nat) : Int) := by omega
    have hp2 : ((min y.2.1.size (64 * n + 64) : Nat) : Int) ≤ (y.2.1.size : Int) := by omega
    have hxs : Hid ((y.2.1.extract ((64 : Int) * (n : Int)).toNat (min y.2.1.size (64 * n + 64))).data.toList = sec y.2.1.data.toList n) := Lib.hid (by
      rw [show ((64 : Int) * (n : Int)).toNat = 64 * n by omega]
      exact sec_extract _ _)
    have hxz : (y.2.1.extract ((64 : Int) * (n : Int)).toNat (min y.2.1.size (64 * n + 64))).size ≤ 64 := by
      have h1 := congrArg List.length hxs.out
      rw [sec_length, Array.length_toList] at h1
      have h2 : (y.2.1.extract ((64 : Int) * (n : Int)).toNat (min y.2.1.size (64 * n + 64))).data.size = (y.2.1.extract ((64 : Int) * (n : Int)).toNat (min y.2.1.size (64 * n + 64))).size := rfl
      omega
    go_still_tail 19, (by kernel_rfl)
    change wpList _ _ _ _ _ wa.drew
    have d0 : wa.drew.cell? ⟨w2.heap.size, 0, none⟩ = some (.int .i64 f) := f0
    have d1 : wa.drew.cell? ⟨w2.heap.size, 1, none⟩ = some (.string y.2.1) := f1
    have DAL : Hid (Below w.heap.size w wa.drew) := Lib.hid HAL.out.drew
    have DFB : Hid (wa.drew.heap[w2.heap.size]? = some (.cells #[.int .i64 f, .string y.2.1, .string y.2.2] 86 (0, 0))) := HFB
    generalize wa.drew = wd at *
    generalize y.2.1.extract ((64 : Int) * (n : Int)).toNat (min y.2.1.size (64 * n + 64)) = t at *
    clear q0 q1 f0 f1 f2 HAL HFB hmn hp1 hp2 hw1 hw2
    have hpu := rPut_any y.2.2 (64 * n) t wd (by omega) (by omega)
    rw [hxs.out, show ((64 * n : Nat) : Int) = 64 * (n : Int) by omega] at hpu
    go_wp2_with fail
    refine hpu.mono ?_
    rintro e w3 ⟨u, rfl, hu, hb3⟩
    have HU := Lib.hid (bsOf_eq hu)
    clear hu hpu
    have hblk3 : w3.heap[w2.heap.size]? = some (.cells #[.int .i64 f, .string y.2.1, .string y.2.2] 86 (0, 0)) := (hb3.block _ (brow_lt DFB.out)).trans DFB.out
    have hc0 : w3.cell? ⟨w2.heap.size, 0, none⟩ = some (.int .i64 f) := by rw [Lib.cell_of_heap hblk3]; rfl
    have hc1 : w3.cell? ⟨w2.heap.size, 1, none⟩ = some (.string y.2.1) := by rw [Lib.cell_of_heap hblk3]; rfl
    have hc2 : w3.cell? ⟨w2.heap.size, 2, none⟩ = some (.string y.2.2) := by rw [Lib.cell_of_heap hblk3]; rfl
    have hz2' : w3.frozen? ⟨w2.heap.size, 2, none⟩ = false := Lib.frozen_of_heap hblk3 2
    have hb5 : Below w.heap.size w (w3.setCell ⟨w2.heap.size, 2, none⟩ (.string u)) := Below.setCell (p := ⟨w2.heap.size, 2, none⟩) (DAL.out.trans (hb3.mono DAL.out.size)) hle _
    have hset := rset_any r B s X (w3.setCell ⟨w2.heap.size, 2, none⟩ (.string u)) (HH.out.below hb5) hl
    rw [HXX.out, ← HU.out] at hset
    have HS := Lib.hid hset
    have HB5 := Lib.hid hb5
    clear hblk3 hb3 hb5 hset DFB
    go_wp2_with fail
    refine HS.out.mono ?_
    rintro e w6 ⟨rfl, h6, f6⟩
    rw [HU.out, ← HXX.out] at h6
    have H6 := Lib.hid h6
    have F6 := Lib.hid f6
    clear h6 f6 HS
    go_wp2
    refine bodyPost_end (results_none rfl _ _ _) rfl ?_
    exact ⟨rfl, H6.out, (RFr.of_below HB5.out).trans F6.out⟩
  · have hlt' : (y.2.1.size : Int) ≤ (64 : Int) * (n : Int) := by omega
    have HXX : Hid (X = y) := Lib.hid (by rw [HX.out, if_neg hlt])
    have hal : Below w.heap.size w (w2.alloc (.cells #[.int .i64 f, .string y.2.1, .string y.2.2] 86)) := HBB.out.alloc HBB.out.size _
    have HAL := Lib.hid hal
    have hset := rset_any r B s y _ (HH.out.below hal) hl
    have hy : fval y = .agg #[.int .i64 f, .string y.2.1, .string y.2.2] := by rw [fval, hg1]
    rw [hy] at hset
    have HS := Lib.hid hset
    clear hal hset hy
    go_wp2_with fail
    refine HS.out.mono ?_
    rintro e w3 ⟨rfl, h3, f3⟩
    have H3 := Lib.hid h3
    have F3 := Lib.hid f3
    clear h3 f3 HS
    go_wp2
    refine bodyPost_end (results_none rfl _ _ _) rfl ?_
    rw [HXX.out]
    exact ⟨rfl, H3.out, (RFr.of_below HAL.out).trans F3.out⟩

end Go.Proofs.YtbpkcgkcamkggaaGreatDoor
namespace Go.Proofs.YtbpkcgkcamkggaaGreatDoor
open Go.RowKit

/-- a store of a number or a mark of the disk. -/
theorem RAt.setS {r B : Nat} {s s' : RSt} {w : World} (h : RAt r B s w) (i : Nat) (u : Value) (e1 : s'.fl = s.fl) (e2 : s'.q = s.q) (e3 : s'.keep = s.keep)
    (hc : ∀ F Q K : Value, (#[F, Q, .int .i64 (s.lost : Int), .bool s.down, .int .i64 (s.armed : Int), K] : Array Value).setIfInBounds i u = #[F, Q, .int .i64 (s'.lost : Int), .bool s'.down, .int .i64 (s'.armed : Int), K]) :
    RAt r B s' (w.setCell ⟨r, i, none⟩ u) := by
  obtain ⟨F, Q, K, h1, h2, h3, h4, h5⟩ := h
  have hne : ∀ {T : TypeId}, T ≠ 68 → ∀ (g : Nat) (c : Array Value) (z : Nat × Nat), w.heap[g]? = some (Obj.cells c T z) → (w.setCell ⟨r, i, none⟩ u).heap[g]? = w.heap[g]? := by
    intro T hT g c z hg
    refine Below.heap_setCell _ _ _ _ (fun e => ?_)
    simp only at e
    subst e
    rw [h1] at hg
    simp only [Option.some.injEq, Obj.cells.injEq] at hg
    exact hT hg.2.1.symm
  refine ⟨F, Q, K, ?_, ?_, ?_, ?_, h5⟩
  · rw [heap_set h1, hc]
  · rw [e1]; exact own_keep h2 (hne (by decide))
  · rw [e2]; exact own_keep h3 (hne (by decide))
  · rw [e3]; exact own_keep h4 (hne (by decide))

/-- a list keep as it may be read, behind the reference's own steps too. -/
def KRow (B : Nat) (w : World) (A : Option Addr) (keep : List Int) : Prop :=
  0 < keep.length → ∃ b off, A = some ⟨b, off, none⟩ ∧ b < w.heap.size ∧ (b < B ∨ NonRef w b) ∧ ∀ j (h : j < keep.length), w.cell? ⟨b, off + j, none⟩ = some (.int .i64 keep[j])
theorem KRow.kept {B : Nat} {w w' : World} {A : Option Addr} {keep : List Int} (h : KRow B w A keep) (hf : RFr B w w') : KRow B w' A keep := fun hn => by
  obtain ⟨b, off, e, hb, hn, hc⟩ := h hn
  have hk := hf.block b hb hn
  refine ⟨b, off, e, Nat.lt_of_lt_of_le hb hf.size, ?_, fun j hj => ?_⟩
  · rcases hn with hn | hn
    · exact .inl hn
    · right; intro c z; rw [hk]; exact hn c z
  · rw [← hc j hj]
    simp only [World.cell?, hk]

/-- the files behind i rounds of a crash. -/
def rAfter (l : List RFile) (keep : List Int) (q : List (Int × Nat)) : Nat → List RFile
  | 0 => l
  | i + 1 => match q[i]? with
    | some x => if oddAt keep i then rset (rAfter l keep q i) (rSurv (rAfter l keep q i) x) else rAfter l keep q i
    | none => rAfter l keep q i
theorem rAfter_next (l : List RFile) (keep : List Int) (q : List (Int × Nat)) (i : Nat) (h : i < q.length) : rAfter l keep q (i + 1) = if oddAt keep i then rset (rAfter l keep q i) (rSurv (rAfter l keep q i) q[i]) else rAfter l keep q i := by
  rw [rAfter]
  simp [h]
theorem rset_len (l : List RFile) (x : RFile) : (rset l x).length ≤ l.length + 1 := by
  unfold rset
  have := List.length_filter_le (fun y => !(y.1 == x.1)) l
  simp; omega
theorem rAfter_len (l : List RFile) (keep : List Int) (q : List (Int × Nat)) : ∀ i, (rAfter l keep q i).length ≤ l.length + i := by
  intro i
  induction i with
  | zero => exact Nat.le_refl _
  | succ i ih =>
    rw [rAfter]
    split
    · split
      · have := rset_len (rAfter l keep q i) (rSurv (rAfter l keep q i) ‹_›); omega
      · omega
    · omega
theorem bsOf_size (l : List UInt8) : (bsOf l).size = l.length := by
  show (bsOf l).data.size = _
  simp [bsOf]
/-- all files are within their bounds. -/
def FBig (l : List RFile) : Prop := ∀ g, (rget l g).2.1.size ≤ 16777216 ∧ (rget l g).2.2.size ≤ 16777216
theorem rSurv_one (l : List RFile) (x : Int × Nat) : (rSurv l x).1 = x.1 := by
  unfold rSurv; split
  · rfl
  · exact rget_one _ _
theorem rAfter_big (l : List RFile) (keep : List Int) (q : List (Int × Nat)) (h : FBig l) : ∀ i, FBig (rAfter l keep q i) := by
  intro i
  induction i with
  | zero => exact h
  | succ i ih =>
    rw [rAfter]
    split
    · rename_i x _
      split
      · intro g
        rw [rget_set, rSurv_one]
        by_cases c : g = x.1
        · rw [if_pos c]
          unfold rSurv
          have h1 := ih x.1
          split
          · rename_i hlt
            refine ⟨h1.1, ?_⟩
            have e1 : (rget (rAfter l keep q i) x.1).2.1.data.toList.length = (rget (rAfter l keep q i) x.1).2.1.size := Array.length_toList
            have e2 : (rget (rAfter l keep q i) x.1).2.2.data.toList.length = (rget (rAfter l keep q i) x.1).2.2.size := Array.length_toList
            simp only [bsOf_size]
            have hne : sec (rget (rAfter l keep q i) x.1).2.1.data.toList x.2 ≠ [] := by
              intro e
              have := sec_length (rget (rAfter l keep q i) x.1).2.1.data.toList x.2
              rw [e, e1] at this
              simp at this; omega
            rw [put_length hne, sec_length, e1, e2]
            omega
          · exact h1
        · rw [if_neg c]; exact ih g
      · exact ih
    · exact ih

/-- the reference's disk behind a crash. -/
def RSt.crashed (s : RSt) (keep : List Int) : RSt :=
  if s.down then s else { fl := rfall (rAfter s.fl keep s.q s.q.length), q := [], lost := s.lost, down := true, armed := 0, keep := s.keep }

end Go.Proofs.YtbpkcgkcamkggaaGreatDoor
