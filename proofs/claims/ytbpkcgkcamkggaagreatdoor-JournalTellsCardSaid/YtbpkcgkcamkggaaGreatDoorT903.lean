/-
  The contracts of the reference's add and settle.
-/
import Derived.Test.YtbpkcgkcamkggaaGreatDoorT902
set_option linter.unusedVariables false
namespace Go.Proofs.YtbpkcgkcamkggaaGreatDoor
open Go.RowKit

def bsOf (l : List UInt8) : ByteArray := ⟨l.toArray⟩
theorem bsOf_list (l : List UInt8) : (bsOf l).data.toList = l := rfl
theorem bsOf_eq {s : ByteArray} {l : List UInt8} (h : s.data.toList = l) : s = bsOf l := by
  obtain ⟨d⟩ := s
  subst h
  rfl

theorem addSecs_snoc (f : Int) (c : Nat) : ∀ (q : List (Int × Nat)) (n : Nat), addSecs q f n (c + 1) = addSec (addSecs q f n c) f (n + c) := by
  induction c with
  | zero => intro q n; rfl
  | succ c ih =>
    intro q n
    rw [addSecs, ih, addSecs]
    congr 1
    omega
theorem addSec_len (q : List (Int × Nat)) (f : Int) (n : Nat) : (addSec q f n).length ≤ q.length + 1 := by
  unfold addSec; split
  · omega
  · simp
theorem addSecs_len (f : Int) (c : Nat) : ∀ (q : List (Int × Nat)) (n : Nat), (addSecs q f n c).length ≤ q.length + c := by
  induction c with
  | zero => intro q n; exact Nat.le_refl _
  | succ c ih =>
    intro q n
    have h1 := ih (addSec q f n) (n + 1)
    have h2 := addSec_len q f n
    rw [addSecs]; omega
theorem addSec_in {q : List (Int × Nat)} {f : Int} {n : Nat} (h : inB q (f, n) = true) : addSec q f n = q := by
  unfold addSec; rw [if_pos (by simpa [inB] using h)]
theorem addSec_new {q : List (Int × Nat)} {f : Int} {n : Nat} (h : inB q (f, n) = false) : addSec q f n = q ++ [(f, n)] := by
  unfold addSec; rw [if_neg (by simpa [inB] using h)]
theorem qcells_append (l m : List (Int × Nat)) : qcells (l ++ m) = qcells l ++ qcells m := by simp [qcells]
theorem qcells_one (x : Int × Nat) : qcells [x] = [.int .i64 x.1, .int .i64 (x.2 : Int)] := rfl

/-- a store of a new list of pending sectors. -/
theorem RAt.setQ0 {r B : Nat} {s : RSt} {w : World} {F Q K : Value} (h1 : w.heap[r]? = some (.cells #[F, Q, .int .i64 (s.lost : Int), .bool s.down, .int .i64 (s.armed : Int), K] 68 (0, 0)))
    (h2 : w.ownsRow B 86 3 F s.fl.length (fcells s.fl)) (h4 : w.ownsRow B 3 1 K s.keep.length (s.keep.map (Value.int .i64))) (h5 : B ≤ r)
    {q : List (Int × Nat)} {v : Value} (hv : w.ownsRow B 84 2 v q.length (qcells q)) : RAt r B { s with q := q } (w.setCell ⟨r, 1, none⟩ v) := by
  have hne : ∀ {T : TypeId}, T ≠ 68 → ∀ (g : Nat) (c : Array Value) (z : Nat × Nat), w.heap[g]? = some (Obj.cells c T z) → (w.setCell ⟨r, 1, none⟩ v).heap[g]? = w.heap[g]? := by
    intro T hT g c z hg
    refine Below.heap_setCell _ _ _ _ (fun e => ?_)
    simp only at e
    subst e
    rw [h1] at hg
    simp only [Option.some.injEq, Obj.cells.injEq] at hg
    exact hT hg.2.1.symm
  exact ⟨F, v, K, heap_set h1, own_keep h2 (hne (by decide)), own_keep hv (hne (by decide)), own_keep h4 (hne (by decide)), h5⟩
theorem RAt.setQ {r B : Nat} {s : RSt} {w : World} (h : RAt r B s w) {q : List (Int × Nat)} {v : Value} (hv : w.ownsRow B 84 2 v q.length (qcells q)) : RAt r B { s with q := q } (w.setCell ⟨r, 1, none⟩ v) := by
  obtain ⟨F, Q, K, h1, h2, h3, h4, h5⟩ := h
  exact RAt.setQ0 h1 h2 h4 h5 hv
theorem other_type {w w' : World} {B n g : Nat} {Q : Value} {xs : List Value} {c : Array Value} {T : TypeId} {z : Nat × Nat} (hQ : w.ownsRow B 84 2 Q n xs) (hg : w.grownBy w' Q.ownBlock)
    (hc : w.heap[g]? = some (.cells c T z)) (hT : T ≠ 84) : w'.heap[g]? = w.heap[g]? := by
  refine hg.block g (brow_lt hc) (fun e => ?_)
  obtain ⟨_, hv⟩ := hQ
  rcases hv with ⟨rfl, _⟩ | ⟨g', cap, cur, rfl, _, h3, _⟩
  · cases e
  · simp only [Value.ownBlock, Option.some.injEq] at e
    subst e
    rw [hc] at h3
    simp only [Option.some.injEq, Obj.cells.injEq] at h3
    exact hT h3.2.1
/-- an append to the list of pending sectors, and its store. -/
theorem RAt.appendQ {r B : Nat} {s : RSt} {w w' : World} {Q v' : Value} {x : Int × Nat} (h : RAt r B s w) (hc : w.cell? ⟨r, 1, none⟩ = some Q) (hg : w.grownBy w' Q.ownBlock)
    (hv : w'.ownsRow B 84 2 v' (s.q.length + 1) (qcells s.q ++ qcells [x])) : RAt r B { s with q := s.q ++ [x] } (w'.setCell ⟨r, 1, none⟩ v') ∧ RFr B w w' ∧ w'.cell? ⟨r, 1, none⟩ = some Q ∧ w'.frozen? ⟨r, 1, none⟩ = false ∧ ∃ cc, w'.heap[r]? = some (.cells cc 68 (0, 0)) := by
  obtain ⟨F, Q', K, h1, h2, h3, h4, h5⟩ := h
  have hq : Q' = Q := by
    rw [Lib.cell_of_heap h1] at hc
    simpa using hc
  subst hq
  have k1 : w'.heap[r]? = _ := (other_type h3 hg h1 (by decide)).trans h1
  have k2 := own_keep h2 (fun g c z hgc => other_type h3 hg hgc (by decide))
  have k4 := own_keep h4 (fun g c z hgc => other_type h3 hg hgc (by decide))
  refine ⟨RAt.setQ0 k1 k2 k4 h5 ?_, ⟨hg.os, hg.tape, hg.output, hg.size, fun k hk hn => ?_⟩, ?_, Lib.frozen_of_heap k1 1, _, k1⟩
  · rw [qcells_append, List.length_append]; exact hv
  · refine hg.block k hk (fun e => ?_)
    obtain ⟨_, hv3⟩ := h3
    rcases hv3 with ⟨rfl, _⟩ | ⟨g', cap, cur, rfl, hB, h3, _⟩
    · cases e
    · simp only [Value.ownBlock, Option.some.injEq] at e
      subst e
      rcases hn with hn | hn
      · omega
      · exact (hn cur (0, 0)).2 h3
  · rw [Lib.cell_of_heap k1]; rfl

/-- the list of files behind an add. -/
def rNow (s : RSt) (f : Int) (a : Nat) (t : List UInt8) : RFile := (f, bsOf (put (rget s.fl f).2.1.data.toList a t), (rget s.fl f).2.2)
def RSt.added (s : RSt) (f : Int) (a : Nat) (t : List UInt8) : RSt :=
  if t = [] then s else { s with fl := rset s.fl (rNow s f a t), q := addSecs s.q f (a / 64) ((a + t.length - 1) / 64 + 1 - a / 64) }

set_option maxRecDepth 100000 in
set_option maxHeartbeats 4000000 in
theorem radd_any (r B : Nat) (s : RSt) (f : Int) (a : Nat) (t : ByteArray) (w : World) (h : RAt r B s w) (hl : s.fl.length ≤ 1099511627776) (hql : s.q.length ≤ 549755813888) (hn : ∀ g, (rget s.fl g).2.1.size ≤ 16777216) (hb : a + t.size ≤ 16777216) :
    Calls Tryz.prog 69 #[.pointer (some ⟨r, 0, none⟩), .int .i64 f, .int .i64 (a : Int), .string t] w fun e w' => e = .returned (.tuple #[]) ∧ RAt r B (s.added f a t.data.toList) w' ∧ RFr B w w' := by
  obtain ⟨i0, hi9, hz0, hz1, hz2⟩ := info_parts infoSector
  have hBr : B ≤ r := by obtain ⟨_, _, _, _, _, _, _, h5⟩ := h; exact h5
  have htl : t.data.toList.length = t.size := Array.length_toList
  by_cases h0 : t = ⟨#[]⟩
  · subst h0
    have HA : Hid (s.added f a (⟨#[]⟩ : ByteArray).data.toList = s) := Lib.hid (by unfold RSt.added; rw [if_pos rfl])
    have HH := Lib.hid h
    clear h
    go_enter Tryz.func69, Tryz.ntmps69
    go_wp2
    refine bodyPost_ret (results_none rfl _ _ _) rfl ?_
    exact ⟨rfl, by rw [show s.added f a [] = s from HA.out]; exact HH.out, RFr.refl _ _⟩
  · have htn : t.data.toList ≠ [] := fun e => h0 (by
      obtain ⟨d⟩ := t
      simp only [Array.toList_eq_nil_iff] at e
      rw [e])
    have ht1 : 1 ≤ t.size := by
      rw [← htl]
      exact List.length_pos_iff.mpr htn
    have hem : t.toList.isEmpty = false := by
      rw [ByteArray.toList_eq]
      cases h : t.data.toList with
      | nil => exact absurd h htn
      | cons c r => rfl
    have HA : Hid (s.added f a t.data.toList = { s with fl := rset s.fl (rNow s f a t.data.toList), q := addSecs s.q f (a / 64) ((a + t.size - 1) / 64 + 1 - a / 64) }) := Lib.hid (by
      unfold RSt.added; rw [if_neg htn, htl])
    have HG := Lib.hid (rget_any r B s f w h hl)
    have HN : Hid (rNow s f a t.data.toList = (f, bsOf (put (rget s.fl f).2.1.data.toList a t.data.toList), (rget s.fl f).2.2)) := Lib.hid rfl
    have hg1 := rget_one s.fl f
    have hnf := hn f
    have HH := Lib.hid h
    generalize rNow s f a t.data.toList = X at *
    generalize rget s.fl f = y at *
    clear htn hn h
    go_enter Tryz.func69, Tryz.ntmps69
    go_wp2_with fail
    refine HG.out.mono ?_
    rintro e w2 ⟨rfl, hb2⟩
    unfold fval
    have HB2 := Lib.hid hb2
    clear hb2 HG
    go_wp2_with fail
    have hpu := rPut_any y.2.1 a t
    refine (hpu _ (by omega) (by omega)).mono ?_
    rintro e w3 ⟨u, rfl, hu, hb3⟩
    have HU := Lib.hid (bsOf_eq hu)
    clear hu hpu
    have hb4 : Below w.heap.size w w3 := (HB2.out.alloc HB2.out.size _).trans (hb3.mono (by have := HB2.out.size; simp; omega))
    have hblk : w3.heap[w2.heap.size]? = some (.cells #[.int .i64 f, .string y.2.1, .string y.2.2] 86 (0, 0)) :=
      (hb3.block w2.heap.size (by simp)).trans (heap_alloc_new w2 _)
    have hc0 : w3.cell? ⟨w2.heap.size, 0, none⟩ = some (.int .i64 f) := by rw [Lib.cell_of_heap hblk]; rfl
    have hc1 : w3.cell? ⟨w2.heap.size, 1, none⟩ = some (.string y.2.1) := by rw [Lib.cell_of_heap hblk]; rfl
    have hc2 : w3.cell? ⟨w2.heap.size, 2, none⟩ = some (.string y.2.2) := by rw [Lib.cell_of_heap hblk]; rfl
    have hz1' : w3.frozen? ⟨w2.heap.size, 1, none⟩ = false := Lib.frozen_of_heap hblk 1
    have hb5 : Below w.heap.size w (w3.setCell ⟨w2.heap.size, 1, none⟩ (.string u)) := Below.setCell (p := ⟨w2.heap.size, 1, none⟩) hb4 HB2.out.size _
    have hr5 := HH.out.below hb5
    have hset := rset_any r B s X (w3.setCell ⟨w2.heap.size, 1, none⟩ (.string u)) hr5 hl
    rw [HN.out, ← HU.out] at hset
    have HS := Lib.hid hset
    have HB5 := Lib.hid hb5
    clear hblk hb3 hb4 hb5 hr5 hset
    go_wp2_with fail
    refine HS.out.mono ?_
    rintro e w6 ⟨rfl, hr6, hf6⟩
    have HR6 := Lib.hid hr6
    have HF6 : Hid (RFr B w w6) := Lib.hid ((RFr.of_below HB5.out).trans hf6)
    rw [HU.out, ← HN.out] at hr6
    have HR7 := Lib.hid hr6
    clear hr6 hf6 HR6 HS
    have HL : Hid (∀ c, (addSecs s.q f (a / 64) c).length ≤ s.q.length + c) := Lib.hid (fun c => addSecs_len f c s.q (a / 64))
    have HQ : Hid (∀ c, addSecs s.q f (a / 64) (c + 1) = addSec (addSecs s.q f (a / 64) c) f (a / 64 + c)) := Lib.hid (fun c => addSecs_snoc f c s.q (a / 64))
    have HR8 : Hid (RAt r B { s with fl := rset s.fl X, q := addSecs s.q f (a / 64) 0 } w6) := HR7
    generalize addSecs s.q f (a / 64) = O at *
    have hcnt : a / 64 ≤ (a + t.size - 1) / 64 := by omega
    have hcnt2 : (a + t.size - 1) / 64 ≤ 262144 := by omega
    have hdv : (a : Int) / 64 = ((a / 64 : Nat) : Int) := by omega
    have hdv2 : ((a : Int) + (t.size : Int) - 1) / 64 = (((a + t.size - 1) / 64 : Nat) : Int) := by omega
    have hps : (0 : Int) ≤ (a : Int) + (t.size : Int) - 1 := by omega
    generalize (a + t.size - 1) / 64 = hi at *
    generalize a / 64 = lo at *
    clear HR7
    go_wp2
    go_loopw [9] (fun i wr => ∃ c : Nat, c ≤ hi + 1 - lo ∧ i = .int .i64 ((lo + c : Nat) : Int) ∧ RAt r B { s with fl := rset s.fl X, q := O c } wr ∧ RFr B w wr) (fun i _ => hi + 1 - (intOf i).toNat)
    case atStart => exact ⟨0, Nat.zero_le _, rfl, HR8.out, HF6.out⟩
    case round =>
      obtain ⟨c, hc, rfl, hra, hfa⟩ := hrel
      have HRA := Lib.hid hra
      have HFA := Lib.hid hfa
      clear hra hfa HR8 HF6
      by_cases hlt : lo + c ≤ hi
      · have hlt' : ((lo + c : Nat) : Int) ≤ (hi : Int) := by omega
        have hlc := HL.out c
        have HP := Lib.hid (rPending_any r B _ f (lo + c) wr HRA.out (by simp only; omega))
        go_wp2_with fail
        refine HP.out.mono ?_
        rintro e w7 ⟨rfl, m, rfl⟩
        cases hin : inB (O c) (f, lo + c) with
        | true =>
          have HO := Lib.hid ((HQ.out c).trans (addSec_in hin))
          go_wp2
          go_roundw
          case rel => exact ⟨c + 1, by omega, by go_num, by rw [HO.out]; exact HRA.out, HFA.out.trans (RFr.of_below ⟨rfl, rfl, rfl, Nat.le_refl _, fun _ _ => rfl⟩)⟩
          case measure => simp [intOf]; omega
        | false =>
          have HO := Lib.hid ((HQ.out c).trans (addSec_new hin))
          have HRD : Hid (RAt r B { s with fl := rset s.fl X, q := O c } (wr.drewN m)) := Lib.hid HRA.out
          have HFD : Hid (RFr B w (wr.drewN m)) := Lib.hid (HFA.out.trans (RFr.of_below ⟨rfl, rfl, rfl, Nat.le_refl _, fun _ _ => rfl⟩))
          generalize wr.drewN m = wd at *
          obtain ⟨_, Qv, _, _, q1, _, _, _, _, _, _, hq, _⟩ := HRD.out.cells
          have hrw := HRD.out.lt
          clear HP
          go_wp2_with (at_builtin; revert hps)
          intro hps
          refine wpList_append_own _ rfl _ _ 66 rfl B 84 i0 (.agg #[.int .i64 0, .int .i64 0]) 2 16 Tryz.underlying66 hi9 hz0 hz1 hz2 rfl (by decide) _ _ _ rfl (hq.alloc _) ⟨wd.heap.size, 0, none⟩ 1 1 (qcells [(f, lo + c)]) rfl rfl ?c1 ?c2 ?c3 ?c4 ?c5 ?_
          case c1 =>
            intro j u hj
            rw [qcells_one] at hj
            have hnew : (wd.alloc (.cells #[.int .i64 f, .int .i64 ((lo : Int) + (c : Int))] 84)).heap[wd.heap.size]? = some (.cells #[.int .i64 f, .int .i64 ((lo : Int) + (c : Int))] 84 (0, 0)) := heap_alloc_new wd _
            match j, hj with
            | 0, hj => simp at hj; subst hj; simp [Addr.add, Lib.cell_of_heap hnew]
            | 1, hj => simp at hj; subst hj; simp [Addr.add, Lib.cell_of_heap hnew]
            | j + 2, hj => simp at hj
          case c2 => intro u hu; rw [qcells_one] at hu; simp at hu; rcases hu with rfl | rfl <;> rfl
          case c3 => unfold maxLen; omega
          case c4 => omega
          case c5 => simp; omega
          intro v' w8 hown' hgr _
          obtain ⟨A', cap', rfl, _⟩ := own_parts hown'
          have hal : Below wd.heap.size wd (wd.alloc (.cells #[.int .i64 f, .int .i64 ((lo : Int) + (c : Int))] 84)) := (Below.refl _ _).alloc (Nat.le_refl _) _
          obtain ⟨hR9, hF9, hq9, hz9, cc, hcc⟩ := (HRD.out.below hal).appendQ ((hal.cell (p := ⟨r, 1, none⟩) hrw).trans q1) hgr hown'
          have HR9 := Lib.hid hR9
          have HF9 := Lib.hid ((HFD.out.trans (RFr.of_below hal)).trans hF9)
          have HCC := Lib.hid hcc
          clear hcc
          clear hR9 hF9 hal hown' hgr
          go_wp2
          go_roundw
          case rel => exact ⟨c + 1, by omega, by go_num, by rw [HO.out]; exact HR9.out, HF9.out.trans (RFr.of_disk (grown_one _ _ _ _) hBr HCC.out)⟩
          case measure => simp [intOf]; omega
      · have hlt' : (hi : Int) < ((lo + c : Nat) : Int) := by omega
        obtain rfl : c = hi + 1 - lo := by omega
        go_wp2
        refine bodyPost_end (results_none rfl _ _ _) rfl ?_
        rw [HA.out]
        exact ⟨rfl, HRA.out, HFA.out⟩

end Go.Proofs.YtbpkcgkcamkggaaGreatDoor
