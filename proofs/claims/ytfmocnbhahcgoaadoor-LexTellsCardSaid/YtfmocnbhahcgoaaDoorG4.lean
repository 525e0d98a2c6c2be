/-
  Layer 14: contracts of word, number, sign, first.
-/
import Derived.Test.YtfmocnbhahcgoaaDoorG3
set_option linter.unusedVariables false
set_option maxRecDepth 100000
namespace Go.Proofs.YtfmocnbhahcgoaaDoor
open Go.RowKit

theorem rct_row {P : Program} {fn : Func} {p u : Tmp} {ty : TypeId} (h : fn.results = #[.cell p ty, .tmp u]) (tmps : Array Value) (w : World) (g : Nat) (t : TypeId) (cs : Array Value) (fr : Nat × Nat) (d : TypeDesc)
    (hp : tmps.getD p undef = .pointer (some ⟨g, 0, none⟩)) (hg : w.heap[g]? = some (.cells cs t fr))
    (hu : P.underlying ty = some d) (hd : (match d with | .struct _ | .array _ _ => true | _ => false) = true) (hi : (P.info? ty).map (·.size) = some cs.size) :
    (results fn tmps).run P w = .ok (.tuple #[.agg cs, tmps.getD u undef]) w := by
  have hp' : tmps[p]?.getD undef = .pointer (some ⟨g, 0, none⟩) := by simpa using hp
  rw [results_cell_tmp h]
  simp [hp', asAddr, run_loadVar_row w g t ty cs fr d hg hu hd hi, Result.andThen]
/-- a token without its place, or an error. -/
def T1Is (x : T1) (w : World) (e : Ending) (w' : World) : Prop := ∃ s : ByteArray, s.data.toList = x.t ∧ e = .returned (.tuple #[.agg #[.int .i64 x.k, .string s, .int .i64 x.n, .int .i64 0], .int .i64 x.e]) ∧ Below w.heap.size w w'
/-- the cell of a result. -/
structure RC (w : World) (g : Nat) (wr : World) : Prop where
  at_ : wr.heap[g]? = some (.cells #[.int .i64 0, .string ⟨#[]⟩, .int .i64 0, .int .i64 0] 25 (0, 0))
  bel : Below w.heap.size w wr
  eq : g = w.heap.size
theorem RC.start (w : World) : RC w w.heap.size (w.alloc (.cells #[.int .i64 0, .string ⟨#[]⟩, .int .i64 0, .int .i64 0] 25)) := ⟨heap_alloc_new w _, (Below.refl _ _).alloc (Nat.le_refl _) _, rfl⟩
theorem RC.lt {w wr : World} {g : Nat} (h : RC w g wr) : g < wr.heap.size := (Array.getElem?_eq_some_iff.1 h.at_).1
theorem RC.go {w wr w' : World} {g : Nat} (h : RC w g wr) (hb : Below wr.heap.size wr w') : RC w g w' := ⟨(hb.block g h.lt).trans h.at_, h.bel.trans (hb.mono h.bel.size), h.eq⟩
theorem RC.c {w wr : World} {g : Nat} (h : RC w g wr) : wr.cell? ⟨g, 0, none⟩ = some (.int .i64 0) ∧ wr.cell? ⟨g, 1, none⟩ = some (.string ⟨#[]⟩) ∧ wr.cell? ⟨g, 2, none⟩ = some (.int .i64 0) ∧ wr.cell? ⟨g, 3, none⟩ = some (.int .i64 0) := by
  have hz := h.at_
  exact ⟨by rw [Lib.cell_of_heap hz]; rfl, by rw [Lib.cell_of_heap hz]; rfl, by rw [Lib.cell_of_heap hz]; rfl, by rw [Lib.cell_of_heap hz]; rfl⟩
theorem RC.f {w wr : World} {g : Nat} (h : RC w g wr) (i : Nat) : wr.frozen? ⟨g, i, none⟩ = false := Lib.frozen_of_heap h.at_ i
set_option maxHeartbeats 4000000 in
theorem wword_any (s : ByteArray) (w : World) (hs : s.size ≤ 1099511627776) : Calls Tryd.prog 31 #[.string s] w (T1Is (wordT s.data.toList) w) := by
  have HW := Lib.hid (fun w' => xword_any s w' hs); clear hs
  have R0 := RC.start w
  obtain ⟨g, hg⟩ : ∃ g, g = w.heap.size := ⟨_, rfl⟩
  rw [← hg] at R0
  have R0 := Lib.hid R0
  go_enter Tryd.func31, Tryd.ntmps31
  go_wp2_with fail
  rw [← hg]
  generalize w.alloc (.cells #[.int .i64 0, .string ⟨#[]⟩, .int .i64 0, .int .i64 0] 25) = w0 at *
  clear hg
  refine (HW.out w0).mono ?_
  rintro e w1 ⟨rfl, hb⟩
  have r1 := R0.out.go hb
  obtain ⟨c0, c1, c2, c3⟩ := r1.c
  have f0 := r1.f 0; have f1 := r1.f 1; have f2 := r1.f 2; have f3 := r1.f 3
  have gl := r1.lt
  have R1 := Lib.hid r1
  clear r1 hb HW R0
  cases hW : wordB s.data.toList with
  | true =>
    have HF : Hid (wordT s.data.toList = ⟨0, 0, s.data.toList, 0⟩) := Lib.hid (by unfold wordT; rw [if_pos hW])
    go_wp2_with fail
    refine bodyPost_ret (rct_row rfl _ _ g 25 #[.int .i64 0, .string s, .int .i64 0, .int .i64 0] (0, 0) _ rfl ?_ Tryd.underlying25 rfl (by kernel_rfl)) rfl ?_
    · have hz := R1.out.at_
      simp [World.setCell, Array.getElem?_modify, hz, Array.setIfInBounds]
    · rw [HF.out]
      refine ⟨_, ?_, rfl, ?_⟩
      · first | rfl | assumption | exact HSL.out
      · have hgb := R1.out.eq
        have := R1.out.bel
        repeat' first | assumption | refine Below.setCell ?_ (by simp only; omega) _
  | false =>
    have HF : Hid (wordT s.data.toList = ⟨15, 0, [], 0⟩) := Lib.hid (by unfold wordT; rw [if_neg (by rw [hW]; decide)])
    go_wp2_with fail
    refine bodyPost_ret (rct_row rfl _ _ g 25 #[.int .i64 0, .string ⟨#[]⟩, .int .i64 0, .int .i64 0] (0, 0) _ rfl ?_ Tryd.underlying25 rfl (by kernel_rfl)) rfl ?_
    · have hz := R1.out.at_
      simp [World.setCell, Array.getElem?_modify, hz, Array.setIfInBounds]
    · rw [HF.out]
      refine ⟨_, ?_, rfl, ?_⟩
      · first | rfl | assumption | exact HSL.out
      · have hgb := R1.out.eq
        have := R1.out.bel
        repeat' first | assumption | refine Below.setCell ?_ (by simp only; omega) _
set_option maxHeartbeats 4000000 in
theorem wnumber_any (s : ByteArray) (w : World) (hs : s.size ≤ 1099511627776) (hg : Glb w) : Calls Tryd.prog 32 #[.string s] w (T1Is (numT s.data.toList) w) := by
  have HW := Lib.hid (fun w' (hb : Below w.heap.size w w') => xnumber_any s w' hs (hg.below hb)); clear hs hg
  have R0 := RC.start w
  obtain ⟨g, hg⟩ : ∃ g, g = w.heap.size := ⟨_, rfl⟩
  rw [← hg] at R0
  have R0 := Lib.hid R0
  go_enter Tryd.func32, Tryd.ntmps32
  go_wp2_with fail
  rw [← hg]
  generalize w.alloc (.cells #[.int .i64 0, .string ⟨#[]⟩, .int .i64 0, .int .i64 0] 25) = w0 at *
  clear hg
  refine (HW.out w0 R0.out.bel).mono ?_
  rintro e w1 ⟨rfl, hb⟩
  have r1 := R0.out.go hb
  obtain ⟨c0, c1, c2, c3⟩ := r1.c
  have f0 := r1.f 0; have f1 := r1.f 1; have f2 := r1.f 2; have f3 := r1.f 3
  have gl := r1.lt
  have R1 := Lib.hid r1
  clear r1 hb HW R0
  cases hW : numB s.data.toList with
  | true =>
    have HF : Hid (numT s.data.toList = ⟨0, 1, s.data.toList, valD s.data.toList⟩) := Lib.hid (by unfold numT; rw [if_pos hW])
    rw [show numV s.data.toList = (valD s.data.toList : Int) by unfold numV; rw [if_pos hW]]
    generalize valD s.data.toList = n at *
    go_wp2_with fail
    refine bodyPost_ret (rct_row rfl _ _ g 25 #[.int .i64 1, .string s, .int .i64 n, .int .i64 0] (0, 0) _ rfl ?_ Tryd.underlying25 rfl (by kernel_rfl)) rfl ?_
    · have hz := R1.out.at_
      simp [World.setCell, Array.getElem?_modify, hz, Array.setIfInBounds]
    · rw [HF.out]
      refine ⟨_, ?_, rfl, ?_⟩
      · first | rfl | assumption | exact HSL.out
      · have hgb := R1.out.eq
        have := R1.out.bel
        repeat' first | assumption | refine Below.setCell ?_ (by simp only; omega) _
  | false =>
    have HF : Hid (numT s.data.toList = ⟨3, 0, [], 0⟩) := Lib.hid (by unfold numT; rw [if_neg (by rw [hW]; decide)])
    rw [show numV s.data.toList = 0 by unfold numV; rw [if_neg (by rw [hW]; decide)]]
    go_wp2_with fail
    refine bodyPost_ret (rct_row rfl _ _ g 25 #[.int .i64 0, .string ⟨#[]⟩, .int .i64 0, .int .i64 0] (0, 0) _ rfl ?_ Tryd.underlying25 rfl (by kernel_rfl)) rfl ?_
    · have hz := R1.out.at_
      simp [World.setCell, Array.getElem?_modify, hz, Array.setIfInBounds]
    · rw [HF.out]
      refine ⟨_, ?_, rfl, ?_⟩
      · first | rfl | assumption | exact HSL.out
      · have hgb := R1.out.eq
        have := R1.out.bel
        repeat' first | assumption | refine Below.setCell ?_ (by simp only; omega) _
/-! ### first -/
theorem take_size {f : UInt8 → Bool} {s t : ByteArray} (h : t.data.toList = s.data.toList.takeWhile f) : t.size ≤ s.size := by
  rw [size_of h, ← size_list s]
  have := take_len_le (f := f) s.data.toList
  omega
set_option maxHeartbeats 4000000 in
theorem first_any (s : ByteArray) (w : World) (hs : s.size ≤ 1099511627776) (hg : Glb w) (HSG : ∀ w', Glb w' → Calls Tryd.prog 33 #[.string s] w' (T1Is (signT s.data.toList) w')) : Calls Tryd.prog 23 #[.string s] w (T1Is (firstT s.data.toList) w) := by
  have H1 := Lib.hid (fun w' => lead_letters s w' hs)
  have H2 := Lib.hid (fun w' => lead_both s w' hs)
  have H3 := Lib.hid (fun w' => lead_digits s w' hs)
  have H4 := Lib.hid wword_any
  have H5 := Lib.hid wnumber_any
  have HSG := Lib.hid HSG
  have HG := Lib.hid hg; clear hg
  have R0 := RC.start w
  obtain ⟨g, hg⟩ : ∃ g, g = w.heap.size := ⟨_, rfl⟩
  rw [← hg] at R0
  have R0 := Lib.hid R0
  go_enter Tryd.func23, Tryd.ntmps23
  go_wp2_with fail
  rw [← hg]
  generalize w.alloc (.cells #[.int .i64 0, .string ⟨#[]⟩, .int .i64 0, .int .i64 0] 25) = w0 at *
  clear hg
  refine (H1.out w0).mono ?_
  rintro e w1 ⟨t1, rfl, ht1, hb1⟩
  have R1 := Lib.hid (R0.out.go hb1); clear hb1 R0
  have ht1' := tl ht1; clear ht1
  cases hl : hdB ltr s.data.toList with
  | true =>
    have hne : t1.toList.isEmpty = false := by
      rw [ht1', List.isEmpty_eq_false_iff]; intro h; rw [hd_take, hl] at h; exact absurd h (by decide)
    have HFF : Hid (firstT s.data.toList = wordT (s.data.toList.takeWhile aln)) := Lib.hid (by unfold firstT; rw [if_pos hl])
    clear ht1'
    go_wp2_with fail
    refine (H2.out w1).mono ?_
    rintro e w2 ⟨t2, rfl, ht2, hb2⟩
    have R2 := Lib.hid (R1.out.go hb2); clear hb2 R1
    have hz2 := take_size ht2
    have HT2 := Lib.hid ht2; clear ht2
    go_wp2_with fail
    refine (H4.out t2 w2 (by omega)).mono ?_
    rintro e w3 ⟨u, hu, rfl, hb⟩
    rw [HT2.out] at hu ⊢
    have r1 := R2.out.go hb
    obtain ⟨c0, c1, c2, c3⟩ := r1.c
    have f0 := r1.f 0; have f1 := r1.f 1; have f2 := r1.f 2; have f3 := r1.f 3
    have gl := r1.lt
    have R3 := Lib.hid r1
    have HF := Lib.hid HFF.out
    generalize wordT (s.data.toList.takeWhile aln) = x at *
    have HSL := Lib.hid hu
    clear hb r1 R2 hu HFF
    go_wp2_with fail
    refine bodyPost_ret (rct_row rfl _ _ g 25 #[.int .i64 x.k, .string u, .int .i64 x.n, .int .i64 0] (0, 0) _ rfl ?_ Tryd.underlying25 rfl (by kernel_rfl)) rfl ?_
    · have hz := R3.out.at_
      simp [World.setCell, Array.getElem?_modify, hz, Array.setIfInBounds]
    · rw [HF.out]
      refine ⟨_, ?_, rfl, ?_⟩
      · first | rfl | assumption | exact HSL.out
      · have hgb := R3.out.eq
        have := R3.out.bel
        repeat' first | assumption | refine Below.setCell ?_ (by simp only; omega) _
  | false =>
    have hne : t1.toList = [] := by
      rw [ht1', hd_take, hl]
    clear ht1'
    go_wp2_with fail
    refine (H3.out w1).mono ?_
    rintro e w2 ⟨t2, rfl, ht2, hb2⟩
    have R2 := Lib.hid (R1.out.go hb2); clear hb2 R1
    have ht2' := tl ht2; clear ht2
    cases hd : hdB dgt s.data.toList with
    | true =>
      have hne : t2.toList.isEmpty = false := by
        rw [ht2', List.isEmpty_eq_false_iff]; intro h; rw [hd_take, hd] at h; exact absurd h (by decide)
      have HFF : Hid (firstT s.data.toList = numT (s.data.toList.takeWhile dgt)) := Lib.hid (by unfold firstT; rw [if_neg (by rw [hl]; decide), if_pos hd])
      clear ht2'
      go_wp2_with fail
      refine (H3.out w2).mono ?_
      rintro e w3 ⟨t3, rfl, ht3, hb3⟩
      have R3 := Lib.hid (R2.out.go hb3); clear hb3 R2
      have hz3 := take_size ht3
      have HT3 := Lib.hid ht3; clear ht3
      go_wp2_with fail
      refine (H5.out t3 w3 (by omega) (HG.out.below R3.out.bel)).mono ?_
      rintro e w4 ⟨u, hu, rfl, hb⟩
      rw [HT3.out] at hu ⊢
      have r1 := R3.out.go hb
      obtain ⟨c0, c1, c2, c3⟩ := r1.c
      have f0 := r1.f 0; have f1 := r1.f 1; have f2 := r1.f 2; have f3 := r1.f 3
      have gl := r1.lt
      have R4 := Lib.hid r1
      have HF := Lib.hid HFF.out
      generalize numT (s.data.toList.takeWhile dgt) = x at *
      have HSL := Lib.hid hu
      clear hb r1 R3 hu HFF
      go_wp2_with fail
      refine bodyPost_ret (rct_row rfl _ _ g 25 #[.int .i64 x.k, .string u, .int .i64 x.n, .int .i64 0] (0, 0) _ rfl ?_ Tryd.underlying25 rfl (by kernel_rfl)) rfl ?_
      · have hz := R4.out.at_
        simp [World.setCell, Array.getElem?_modify, hz, Array.setIfInBounds]
      · rw [HF.out]
        refine ⟨_, ?_, rfl, ?_⟩
        · first | rfl | assumption | exact HSL.out
        · have hgb := R4.out.eq
          have := R4.out.bel
          repeat' first | assumption | refine Below.setCell ?_ (by simp only; omega) _
    | false =>
      have hne : t2.toList = [] := by
        rw [ht2', hd_take, hd]
      have HFF : Hid (firstT s.data.toList = signT s.data.toList) := Lib.hid (by unfold firstT; rw [if_neg (by rw [hl]; decide), if_neg (by rw [hd]; decide)])
      clear ht2'
      go_wp2_with fail
      refine (HSG.out w2 (HG.out.below R2.out.bel)).mono ?_
      rintro e w4 ⟨u, hu, rfl, hb⟩
      have r1 := R2.out.go hb
      obtain ⟨c0, c1, c2, c3⟩ := r1.c
      have f0 := r1.f 0; have f1 := r1.f 1; have f2 := r1.f 2; have f3 := r1.f 3
      have gl := r1.lt
      have R4 := Lib.hid r1
      have HF := Lib.hid HFF.out
      generalize signT s.data.toList = x at *
      have HSL := Lib.hid hu
      clear hb r1 R2 hu HFF
      go_wp2_with fail
      refine bodyPost_ret (rct_row rfl _ _ g 25 #[.int .i64 x.k, .string u, .int .i64 x.n, .int .i64 0] (0, 0) _ rfl ?_ Tryd.underlying25 rfl (by kernel_rfl)) rfl ?_
      · have hz := R4.out.at_
        simp [World.setCell, Array.getElem?_modify, hz, Array.setIfInBounds]
      · rw [HF.out]
        refine ⟨_, ?_, rfl, ?_⟩
        · first | rfl | assumption | exact HSL.out
        · have hgb := R4.out.eq
          have := R4.out.bel
          repeat' first | assumption | refine Below.setCell ?_ (by simp only; omega) _
end Go.Proofs.YtfmocnbhahcgoaaDoor
