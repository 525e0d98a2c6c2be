/-
  The program's journal (3): as it lies in memory; Open.
-/
import Derived.Test.YtbpkcgkcamkggaaGreatDoorT934
import Derived.Test.YtbpkcgkcamkggaaGreatDoorT926
set_option linter.unusedVariables false
set_option maxRecDepth 100000
namespace Go.Proofs.YtbpkcgkcamkggaaGreatDoor
open Go.RowKit W

/-- block rj is a journal of the file f of the disk at r, with the records R, in the slice v. -/
structure JAt (rj : Nat) (v : Value) (r : Nat) (f : Int) (R : List (List UInt8)) (bad : Bool) (w : World) : Prop where
  cell : w.heap[rj]? = some (.cells #[.pointer (some ⟨r, 0, none⟩), .int .i64 f, v, .int .i64 ((forms R).length : Int), .bool bad] 74 (0, 0))
  row : w.ownsRow 0 9 1 v R.length (R.map vStr)
/-- its blocks. -/
def JOwn (rj : Nat) (v : Value) (b : Nat) : Prop := b = rj ∨ v.ownBlock = some b

section
variable {rj : Nat} {v : Value} {r : Nat} {f : Int} {R : List (List UInt8)} {bad : Bool} {w w' : World}
theorem JAt.kind (h : JAt rj v r f R bad w) {b : Nat} (hb : JOwn rj v b) : ∃ c T, w.heap[b]? = some (.cells c T (0, 0)) ∧ (T = 74 ∨ T = 9) := by
  rcases hb with rfl | hb
  · exact ⟨_, _, h.cell, .inl rfl⟩
  · obtain ⟨c, hc⟩ := ownKind h.row hb
    exact ⟨c, _, hc, .inr rfl⟩
theorem JAt.lt (h : JAt rj v r f R bad w) {b : Nat} (hb : JOwn rj v b) : b < w.heap.size := by
  obtain ⟨c, T, hc, _⟩ := h.kind hb
  exact brow_lt hc
theorem JAt.kept (h : JAt rj v r f R bad w) (hk : ∀ b, JOwn rj v b → w'.heap[b]? = w.heap[b]?) : JAt rj v r f R bad w' :=
  ⟨(hk _ (.inl rfl)).trans h.cell, ownKeep h.row fun b hb => hk b (.inr hb)⟩
theorem JAt.below (h : JAt rj v r f R bad w) (hb : Below w.heap.size w w') : JAt rj v r f R bad w' := h.kept fun b ho => hb.block b (h.lt ho)
/-- no block of the journal is a disk's own. -/
theorem JAt.free (h : JAt rj v r f R bad w) {r2 : Nat} {L : Lay} {d : Dk} {n : Nat} (hd : DAt r2 L d n w) {b : Nat} (hb : JOwn rj v b) : ¬ Own r2 L b := by
  obtain ⟨c, T, hc, hT⟩ := h.kind hb
  rcases hT with rfl | rfl
  · exact hd.int_free hc (by decide) (by decide) (by decide) (by decide)
  · exact hd.int_free hc (by decide) (by decide) (by decide) (by decide)
/-- a step of a disk leaves it. -/
theorem JAt.far (h : JAt rj v r f R bad w) {r2 : Nat} {L L' : Lay} {d : Dk} {n : Nat} (hd : DAt r2 L d n w) (k : PStep r2 L L' w w') : JAt rj v r f R bad w' :=
  h.kept fun b hb => k.fr.block b (h.lt hb) (h.free hd hb)
theorem JAt.cells (h : JAt rj v r f R bad w) : w.cell? ⟨rj, 0, none⟩ = some (.pointer (some ⟨r, 0, none⟩)) ∧ w.cell? ⟨rj, 1, none⟩ = some (.int .i64 f) ∧ w.cell? ⟨rj, 2, none⟩ = some v ∧ w.cell? ⟨rj, 3, none⟩ = some (.int .i64 ((forms R).length : Int)) ∧ w.cell? ⟨rj, 4, none⟩ = some (.bool bad) ∧ ∀ i, w.frozen? ⟨rj, i, none⟩ = false := by
  refine ⟨?_, ?_, ?_, ?_, ?_, fun i => Lib.frozen_of_heap h.cell i⟩ <;> (rw [Lib.cell_of_heap h.cell]; rfl)
end

/-! ### Open over the model -/
/-- the disk behind it, its result, the records. -/
def jopen (d : Dk) (f : Int) : Dk × Int × List (List UInt8) :=
  if ¬ Dk.fileOk f then (d, 1, [])
  else if (d.sync f).2 ≠ 0 then ((d.sync f).1, (d.sync f).2, [])
  else if (forms (recs ((d.sync f).1.now f))).length < ((d.sync f).1.now f).length then
    if ((d.sync f).1.trunc f ((forms (recs ((d.sync f).1.now f))).length : Int)).2 ≠ 0 then (((d.sync f).1.trunc f ((forms (recs ((d.sync f).1.now f))).length : Int)).1, ((d.sync f).1.trunc f ((forms (recs ((d.sync f).1.now f))).length : Int)).2, [])
    else (((d.sync f).1.trunc f ((forms (recs ((d.sync f).1.now f))).length : Int)).1, 0, recs ((d.sync f).1.now f))
  else ((d.sync f).1, 0, recs ((d.sync f).1.now f))
theorem jopen_no {d : Dk} {f : Int} (h : ¬ Dk.fileOk f) : jopen d f = (d, 1, []) := by unfold jopen; rw [if_pos h]
theorem jopen_lost {d : Dk} {f : Int} (h : Dk.fileOk f) (h2 : (d.sync f).2 ≠ 0) : jopen d f = ((d.sync f).1, (d.sync f).2, []) := by
  unfold jopen; rw [if_neg (Decidable.not_not.mpr h), if_pos h2]
theorem jopen_cut {d : Dk} {f : Int} (h : Dk.fileOk f) (h2 : (d.sync f).2 = 0) (h3 : (forms (recs ((d.sync f).1.now f))).length < ((d.sync f).1.now f).length) (h4 : ((d.sync f).1.trunc f ((forms (recs ((d.sync f).1.now f))).length : Int)).2 ≠ 0) :
    jopen d f = (((d.sync f).1.trunc f ((forms (recs ((d.sync f).1.now f))).length : Int)).1, ((d.sync f).1.trunc f ((forms (recs ((d.sync f).1.now f))).length : Int)).2, []) := by
  unfold jopen; rw [if_neg (Decidable.not_not.mpr h), if_neg (fun c => c h2), if_pos h3, if_pos h4]
theorem jopen_short {d : Dk} {f : Int} (h : Dk.fileOk f) (h2 : (d.sync f).2 = 0) (h3 : (forms (recs ((d.sync f).1.now f))).length < ((d.sync f).1.now f).length) (h4 : ((d.sync f).1.trunc f ((forms (recs ((d.sync f).1.now f))).length : Int)).2 = 0) :
    jopen d f = (((d.sync f).1.trunc f ((forms (recs ((d.sync f).1.now f))).length : Int)).1, 0, recs ((d.sync f).1.now f)) := by
  unfold jopen; rw [if_neg (Decidable.not_not.mpr h), if_neg (fun c => c h2), if_pos h3, if_neg (fun c => c h4)]
theorem jopen_whole {d : Dk} {f : Int} (h : Dk.fileOk f) (h2 : (d.sync f).2 = 0) (h3 : ¬ (forms (recs ((d.sync f).1.now f))).length < ((d.sync f).1.now f).length) :
    jopen d f = ((d.sync f).1, 0, recs ((d.sync f).1.now f)) := by
  unfold jopen; rw [if_neg (Decidable.not_not.mpr h), if_neg (fun c => c h2), if_neg h3]

/-- what Open leaves. -/
def OpenPost (r : Nat) (L : Lay) (d : Dk) (n : Nat) (f : Int) (w : World) (e : Ending) (w' : World) : Prop :=
  ∃ L', DAt r L' (jopen d f).1 n w' ∧ PStep r L L' w w' ∧
    (((jopen d f).2.1 ≠ 0 ∧ e = .returned (.tuple #[.pointer none, .int .i64 (jopen d f).2.1])) ∨
     ((jopen d f).2.1 = 0 ∧ ∃ rj v, e = .returned (.tuple #[.pointer (some ⟨rj, 0, none⟩), .int .i64 0]) ∧ JAt rj v r f (jopen d f).2.2 false w' ∧ ∀ b, JOwn rj v b → w.heap.size ≤ b))

set_option maxHeartbeats 8000000 in
theorem jopen_any {r : Nat} {L : Lay} {d : Dk} {n : Nat} {w : World} (h : DAt r L d n w) (hn : n ≤ 137438953472) {f : Int} (h64 : In64 f) :
    Calls Tryz.prog 8 #[.pointer (some ⟨r, 0, none⟩), .int .i64 f] w (OpenPost r L d n f w) := by
  have H := Lib.hid h
  have H64 := Lib.hid h64
  obtain ⟨hf0, hf1⟩ := h64
  by_cases hf : Dk.fileOk f
  · obtain ⟨hge, hle⟩ := hf
    have HF := Lib.hid (show Dk.fileOk f from ⟨hge, hle⟩)
    clear h
    go_enter Tryz.func8, Tryz.ntmps8
    go_wp2_with fail
    refine (mSync H.out hn H64.out).mono ?_
    rintro e w2 ⟨rfl, L2, h2, k2⟩
    have H2 := Lib.hid h2
    have K2 := Lib.hid k2
    clear h2 k2
    by_cases hc : (d.sync f).2 = 0
    · obtain ⟨d1, d2, d3, d4⟩ := Dk.sync_ok hc
      have HC := Lib.hid hc
      have HE0 := Lib.hid (fun h3 => jopen_whole HF.out hc h3)
      have HE1 := Lib.hid (fun h3 h4 => jopen_cut HF.out hc h3 h4)
      have HE2 := Lib.hid (fun h3 h4 => jopen_short HF.out hc h3 h4)
      rw [hc]
      have hrd := Dk.read_part HF.out d3 (f := f) (a := 0) (n := (((d.sync f).1.now f).length : Int)) (by omega) (by omega)
      rw [Int.toNat_zero, List.drop_zero, Int.toNat_natCast, List.take_length] at hrd
      have HRD := Lib.hid hrd
      have hbig := H2.out.ok.big f
      clear hc d1 d2 d3 d4 hrd H
      go_wp2_with fail
      refine (mSize H2.out H64.out).mono ?_
      rintro e w3 ⟨rfl, rfl⟩
      go_wp2_with fail
      refine (mRead H2.out hn H64.out (by unfold In64; omega) (by unfold In64; omega)).mono ?_
      rintro e w4 ⟨s, he, hs, hb4⟩
      rw [HRD.out] at he hs
      subst he
      have H4 := Lib.hid (H2.out.below hb4)
      have K4 := Lib.hid (K2.out.trans (PStep.of_below hb4))
      have hsz : s.size = ((d.sync f).1.now f).length := by rw [← list_size, hs]
      have HS := Lib.hid hs
      clear hs hb4 H2 K2 HRD
      go_wp2_with fail
      refine (jparse_any s w4 (by omega)).mono ?_
      rintro e w5 ⟨v, he, hown, hb5⟩
      rw [HS.out] at he hown
      subst he
      have hle := recs_le (s := (d.sync f).1.now f) (by unfold maxI; omega)
      generalize hR : recs ((d.sync f).1.now f) = R at *
      have H5 := Lib.hid (H4.out.below hb5)
      have K5 := Lib.hid (K4.out.trans (PStep.of_below hb5))
      have hnew : ∀ b, v.ownBlock = some b → w.heap.size ≤ b := fun b hb => by
        have := (hown.lt b hb).1
        have := K4.out.fr.size
        omega
      obtain ⟨A, cap, rfl, _⟩ := own_parts hown
      have HN := Lib.hid hnew
      have HO := Lib.hid (ownBase hown (Nat.zero_le _))
      clear hb5 hown hnew H4 K4
      by_cases hlt : (forms R).length < ((d.sync f).1.now f).length
      · have hlt' : ((forms R).length : Int) < (s.size : Int) := by omega
        go_wp2_with fail
        refine (mTrunc H5.out hn H64.out (by unfold In64; omega)).mono ?_
        rintro e w6 ⟨rfl, L6, h6, k6⟩
        have H6 := Lib.hid h6
        have K6 := Lib.hid (K5.out.trans k6)
        by_cases hc6 : ((d.sync f).1.trunc f ((forms R).length : Int)).2 = 0
        · have hE := HE2.out hlt hc6
          rw [hc6]
          have ho6 : w6.ownsRow 0 9 1 (.slice A R.length cap) R.length (R.map vStr) := ownKeep HO.out fun b hb => by
            obtain ⟨c, hcc⟩ := ownKind HO.out hb
            exact k6.fr.block b (brow_lt hcc) (H5.out.int_free hcc (by decide) (by decide) (by decide) (by decide))
          have HO6 := Lib.hid ho6
          have HE := Lib.hid hE
          clear ho6 hE h6 k6 HE0 HE1 HE2 HO H5 K5 hc6
          go_wp2
          go_ret2
          unfold OpenPost
          rw [HE.out]
          have hb7 : Below w6.heap.size w6 (w6.alloc (.cells #[.pointer (some ⟨r, 0, none⟩),   .int .i64 f, .slice A R.length cap, .int .i64 ((forms R).length : Int), .bool false] 74)) := (Below.refl _ _).alloc (Nat.le_refl _) _
          refine ⟨L6, H6.out.below hb7, K6.out.trans (PStep.of_below hb7), .inr ⟨rfl, _, _, rfl, ⟨heap_alloc_new w6 _, ownKeep HO6.out fun b hb => hb7.block b (brow_lt (ownKind HO6.out hb).choose_spec)⟩, fun b hb => ?_⟩⟩
          rcases hb with rfl | hb
          · exact K6.out.fr.size
          · exact HN.out b hb
        · have hE := HE1.out hlt hc6
          have HE := Lib.hid hE
          have hnb : ((((d.sync f).1.trunc f ((forms R).length : Int)).2 : Int) != 0) = true := by simpa using hc6
          have HNE := Lib.hid hc6
          clear hE h6 k6 HE0 HE1 HE2 HO H5 K5
          generalize ((d.sync f).1.trunc f ((forms R).length : Int)).2 = c6 at *
          go_wp2
          go_ret2
          unfold OpenPost
          rw [HE.out]
          exact ⟨L6, H6.out, K6.out, .inl ⟨HNE.out, rfl⟩⟩
      · have hlt' : (s.size : Int) ≤ ((forms R).length : Int) := by omega
        have HE := Lib.hid (HE0.out hlt)
        clear HE0 HE1 HE2
        go_wp2
        go_ret2
        unfold OpenPost
        rw [HE.out]
        have hb7 : Below w5.heap.size w5 (w5.alloc (.cells #[.pointer (some ⟨r, 0, none⟩),   .int .i64 f, .slice A R.length cap, .int .i64 ((forms R).length : Int), .bool false] 74)) := (Below.refl _ _).alloc (Nat.le_refl _) _
        refine ⟨L2, H5.out.below hb7, K5.out.trans (PStep.of_below hb7), .inr ⟨rfl, _, _, rfl, ⟨heap_alloc_new w5 _, ownKeep HO.out fun b hb => hb7.block b (brow_lt (ownKind HO.out hb).choose_spec)⟩, fun b hb => ?_⟩⟩
        rcases hb with rfl | hb
        · exact K5.out.fr.size
        · exact HN.out b hb
    · have HE := Lib.hid (jopen_lost HF.out hc)
      have hnb : (((d.sync f).2 : Int) != 0) = true := by simpa using hc
      have HNE := Lib.hid hc
      clear H
      generalize (d.sync f).2 = c at *
      go_wp2
      go_ret2
      unfold OpenPost
      rw [HE.out]
      exact ⟨L2, H2.out, K2.out, .inl ⟨HNE.out, rfl⟩⟩
  · have HE := Lib.hid (jopen_no (d := d) hf)
    have hpost : Hid (OpenPost r L d n f w (.returned (.tuple #[.pointer none, .int .i64 1])) w) := Lib.hid (by
      unfold OpenPost
      rw [HE.out]
      exact ⟨L, h, PStep.refl _ _ _, .inl ⟨by simp, rfl⟩⟩)
    clear h
    by_cases h0 : f < 0
    · clear hf
      go_enter Tryz.func8, Tryz.ntmps8
      go_wp2
      go_ret2
      exact hpost.out
    · have h16 : 16 ≤ f := by
        unfold Dk.fileOk at hf
        omega
      have h0' : 0 ≤ f := by omega
      clear hf
      go_enter Tryz.func8, Tryz.ntmps8
      go_wp2
      go_ret2
      exact hpost.out

end Go.Proofs.YtbpkcgkcamkggaaGreatDoor
