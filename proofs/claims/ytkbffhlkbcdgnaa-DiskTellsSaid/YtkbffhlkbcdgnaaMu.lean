/-
  The contract of the program's Copy.
-/
import Derived.Test.YtkbffhlkbcdgnaaMt
set_option linter.unusedVariables false
set_option maxRecDepth 100000
namespace Go.Proofs.Ytkbffhlkbcdgnaa
open Go.RowKit

/-- the three cells that a round of Copy reads. -/
def Three (w : World) (C M fx : Nat) (u0 u1 : Value) : Prop := w.cell? ⟨C, 0, none⟩ = some (.map (some M)) ∧ w.cell? ⟨fx, 0, none⟩ = some u0 ∧ w.cell? ⟨fx, 1, none⟩ = some u1

/-- a round of Copy: both rows have been copied (v0, v1). -/
theorem copy_step {r : Nat} {L : Lay} {d : Dk} {D : DataW Unit} {R : Nat} {w wr w3 w5 : World} {lf : Lit → Bool} {cnt cnt3 k : Nat} {fb : Int → Nat} {rv : Int → Bool → Value} (hp : PAt r L d w) (hc : CAt L d lf k fb rv w wr) (hkc : k + cnt ≤ 16) (hlt : cnt3 < cnt)
    {x : Int} (hx : Dk.fileOk x) (hlx : lf (.int .i64 x) = true) (hrg3 : w3.ranges Try.prog 3 ptrElem L.m R 16 D (fun z => lf z && !z.sameKey (.int .i64 x)) cnt3) (hg3 : wr.grownBy w3 (some R)) (hit : ∃ m a s c, wr.heap[R]? = some (.mapIter m a s c)) (hR : w.heap.size + 1 < R)
    {v0 v1 : Value} (h0 : w5.ownsRow w3.heap.size 5 1 v0 (d.now x).length (bcs (d.now x))) (h1 : w5.ownsRow w3.heap.size 5 1 v1 (d.last x).length (bcs (d.last x))) (h01 : ∀ b, v0.ownBlock = some b → v1.ownBlock ≠ some b) (hb : Below w3.heap.size w3 w5) :
    ∃ w6, (Instr.mapUpdate 42 (.map (some (w.heap.size + 1))) (.int .i64 x) (.pointer (some ⟨w5.heap.size, 0, none⟩))).run Try.prog (w5.alloc (.cells #[v0, v1] 50)) = .ok () w6 ∧
      w6.rangeLeft L.m R = cnt3 ∧ CopyAt L d D R w w6 ∧ (∀ b, b < w3.heap.size → b ≠ w.heap.size + 1 → w6.heap[b]? = w3.heap[b]?) := by
  obtain ⟨m, a, s, c, hit⟩ := hit
  have b3 : Below w.heap.size w w3 := ⟨hg3.os.trans hc.below.os, hg3.tape.trans hc.below.tape, hg3.output.trans hc.below.output, Nat.le_trans hc.below.size hg3.size, fun b hb => (hg3.block b (Nat.lt_of_lt_of_le hb hc.below.size) (fun e => by injection e with e; omega)).trans (hc.below.block b hb)⟩
  have hc3 := hc.grow (w' := w3) (fun b hb hne => hg3.block b hb (fun e => by injection e with e; subst e; exact hne m a s c hit)) b3
  have hc5 := hc3.grow (w' := w5) (fun b hb2 _ => hb.block b hb2) (b3.trans (hb.mono b3.size))
  have hold : ∀ b f t, Dk.fileOk f → lf (.int .i64 f) = false → (rv f t).ownBlock = some b → b < w3.heap.size := fun b f t hf hl e => by
    obtain ⟨cc, hcc⟩ := ownKind (hc3.row f t hf hl) e
    exact brow_lt hcc
  obtain ⟨w6, hrun, h6, ht⟩ := hc5.next hx (by omega) hlx (ownBase h0 b3.size) (ownBase h1 b3.size) (fun b f t hf hl e e2 => by
    have := hold b f t hf hl e2
    have := (h0.lt b e).1
    omega) (fun b f t hf hl e e2 => by
    have := hold b f t hf hl e2
    have := (h1.lt b e).1
    omega) h01
  have ha : Below w5.heap.size w5 (w5.alloc (.cells #[v0, v1] 50)) := (Below.refl _ _).alloc (Nat.le_refl _) _
  have hml := hp.raw.files.map.lt
  have hr6 := ((hrg3.kept (row := none) ⟨hb.os, hb.tape, hb.output, hb.size, fun k hk _ => hb.block k hk⟩ (by simp) (by simp)).alloc (.cells #[v0, v1] 50)).kept ht.grown (fun e => by injection e with e; omega) (fun e => by injection e with e; omega)
  refine ⟨w6, hrun, hr6.left_eq, ⟨_, _, _, _, _, hr6, h6, by omega⟩, fun b hb2 hne => ?_⟩
  have hlt5 := Nat.lt_of_lt_of_le hb2 hb.size
  exact (ht.grown.block b (by simp; omega) (fun e => hne (by injection e))).trans ((ha.block b hlt5).trans (hb.block b hb2))

/-- the copy's own struct is filled. -/
structure CMid (d : Dk) (w : World) (Lc : Lay) (wx : World) : Prop where
  raw : PRaw w.heap.size Lc d d.q wx
  below : Below w.heap.size w wx
  m : w.heap.size ≤ Lc.m
  fb : ∀ f, Dk.fileOk f → w.heap.size ≤ Lc.fb f
  rv : ∀ f s b, Dk.fileOk f → (Lc.rv f s).ownBlock = some b → w.heap.size ≤ b
theorem CMid.grow {d : Dk} {w wx w' : World} {Lc : Lay} (h : CMid d w Lc wx) (hb : Below wx.heap.size wx w') : CMid d w Lc w' :=
  ⟨h.raw.below hb, h.below.trans (hb.mono h.below.size), h.m, h.fb, h.rv⟩
theorem CMid.set1 {d : Dk} {w wx : World} {Lc : Lay} (h : CMid d w Lc wx) (v : Value) : CMid d w { Lc with qv := v } (wx.setCell ⟨w.heap.size, 1, none⟩ v) :=
  ⟨h.raw.store (L' := { Lc with qv := v }) (d' := d) 1 v rfl rfl rfl rfl rfl rfl h.raw.set h.raw.keep h.raw.ne, Below.setCell (p := ⟨w.heap.size, 1, none⟩) h.below (Nat.le_refl _) v, h.m, h.fb, h.rv⟩
theorem CMid.set2 {d : Dk} {w wx : World} {Lc : Lay} (h : CMid d w Lc wx) (l : Nat) (hl : LMap wx l d.q) (hne : Lc.m ≠ l) : CMid d w { Lc with l := l } (wx.setCell ⟨w.heap.size, 2, none⟩ (.map (some l))) :=
  ⟨h.raw.store (L' := { Lc with l := l }) (d' := d) 2 (.map (some l)) rfl rfl rfl rfl rfl rfl hl h.raw.keep hne, Below.setCell (p := ⟨w.heap.size, 2, none⟩) h.below (Nat.le_refl _) _, h.m, h.fb, h.rv⟩
theorem CMid.set5 {d : Dk} {w wx : World} {Lc : Lay} (h : CMid d w Lc wx) (v : Value) (hv : wx.ownsRow 0 3 1 v d.keep.length (d.keep.map (Value.int .i64))) : CMid d w { Lc with kv := v } (wx.setCell ⟨w.heap.size, 5, none⟩ v) :=
  ⟨h.raw.store (L' := { Lc with kv := v }) (d' := d) 5 v rfl rfl rfl rfl rfl rfl h.raw.set hv h.raw.ne, Below.setCell (p := ⟨w.heap.size, 5, none⟩) h.below (Nat.le_refl _) v, h.m, h.fb, h.rv⟩
theorem CMid.done {d : Dk} {w wx : World} {Lc : Lay} (h : CMid d w Lc wx) (hq : wx.ownsRow w.heap.size 65 2 Lc.qv d.q.length (qcells d.q)) (hl : w.heap.size ≤ Lc.l) : CopyPost d w (.returned (.pointer (some ⟨w.heap.size, 0, none⟩))) wx :=
  ⟨_, Lc, rfl, ⟨h.raw, ownBase hq (Nat.zero_le _)⟩, h.below, fun b hb => by
    rcases hb with rfl | rfl | hb | hb
    · exact Nat.le_refl _
    · exact hl
    · exact (hq.lt b hb).1
    · rcases hb with rfl | ⟨f, hf, rfl | ⟨s, hb⟩⟩
      · exact h.m
      · exact h.fb f hf
      · exact h.rv f s b hf hb⟩

set_option maxRecDepth 100000 in
set_option maxHeartbeats 8000000 in
theorem pCopy_any (r : Nat) (L : Lay) (d : Dk) (w : World) (h : PAt r L d w) (hb : Fits d) :
    Calls Try.prog 14 #[.pointer (some ⟨r, 0, none⟩)] w (CopyPost d w) := by
  obtain ⟨c0, c1, c2, c3, c4, c5, c6, _⟩ := h.raw.cells
  have hrl := h.raw.lt
  obtain ⟨Aq, capq, hq, _⟩ := own_parts h.queue
  obtain ⟨Ak, capk, hk, _⟩ := own_parts h.raw.keep
  have hmm := @run_makeMap Try.prog
  obtain ⟨W1, hW1⟩ : ∃ W1, W1 = (w.alloc (.cells #[.map (some (w.heap.size + 1)), L.qv, .map (some L.l), .int .i64 (d.lost : Int), .int .i64 (d.armed : Int), L.kv, .bool d.down] 46)).alloc (.map #[] 0) := ⟨_, rfl⟩
  have hbW : Below w.heap.size w W1 := by rw [hW1]; exact ((Below.refl _ _).alloc (Nat.le_refl _) _).alloc (by simp) _
  have hsW : W1.heap.size = w.heap.size + 1 + 1 := by rw [hW1]; simp
  have hpW := h.below hbW
  obtain ⟨D, hown, hD1, hD2⟩ := hpW.raw.files.map
  have HST : Hid (∀ w2, W1.grownBy w2 none → CAt L d (Maps.has D) 0 (fun _ => 0) (fun _ _ => .slice none 0 0) w w2) := Lib.hid fun w2 hg => by
    have hb2 : Below W1.heap.size W1 w2 := ⟨hg.os, hg.tape, hg.output, hg.size, fun k hk => hg.block k hk (by simp)⟩
    have hlf : ∀ f, Dk.fileOk f → Maps.has D (.int .i64 f) = false → False := fun f hf e => by
      rw [hD1 f (fileOk_64 hf), decide_eq_true hf] at e; cases e
    have hcW : W1.heap[w.heap.size]? = some (.cells #[.map (some (w.heap.size + 1)), L.qv, .map (some L.l), .int .i64 (d.lost : Int), .int .i64 (d.armed : Int), L.kv, .bool d.down] 46 (0, 0)) := by
      rw [hW1, heap_alloc_old _ _ (by simp)]; exact heap_alloc_new w _
    have hmW : W1.ownsMap Try.prog 3 ptrElem (w.heap.size + 1) 0 (.map []) := by
      have := World.ownsMap_made (w.alloc (.cells #[.map (some (w.heap.size + 1)), L.qv, .map (some L.l), .int .i64 (d.lost : Int), .int .i64 (d.armed : Int), L.kv, .bool d.down] 46)) Try.prog 3 ptrElem
      rw [← hW1] at this
      have e : (w.alloc (.cells #[.map (some (w.heap.size + 1)), L.qv, .map (some L.l), .int .i64 (d.lost : Int), .int .i64 (d.armed : Int), L.kv, .bool d.down] 46)).heap.size = w.heap.size + 1 := by simp
      rw [e] at this
      exact this
    refine ⟨hbW.trans (hb2.mono hbW.size), (hb2.block _ (brow_lt hcW)).trans hcW, ⟨.map [], hmW.kept hg (by simp), fun f hf => ?_, fun f z hf hl => (hlf f hf hl).elim⟩, fun f hf hl => (hlf f hf hl).elim, fun f s hf hl => (hlf f hf hl).elim, fun f g hf hl => (hlf f hf hl).elim, fun f s g t b hf hl => (hlf f hf hl).elim⟩
    rw [hD1 f hf]
    cases decide (Dk.fileOk f) <;> rfl
  have hsz : Maps.size D ≤ 16 := hown.size_le
  have HDD : Hid (FilesD D L.fb) := Lib.hid ⟨hD1, hD2⟩
  rw [hq] at c1
  rw [hk] at c5
  rw [hq, hk] at hW1
  have HW := Lib.hid hW1
  have HH := Lib.hid h
  have HB := Lib.hid hb
  have HQ := Lib.hid hq
  have HKV := Lib.hid hk
  have HSW := Lib.hid hsW
  clear h hb hW1 hpW hD1 hD2 hbW hq hk hsW
  go_enter Try.func14, Try.ntmps14
  go_wp2_with (first | (at_range; rw [← HW.out]; refine wpList_range_own _ rfl _ 42 rfl 3 47 lawInt Try.underlying42 ptrElem L.m 16 D rfl hown ?_; intro w2 hrg hg2 hs2))
  have hc0 : CopyAt L d D W1.heap.size w w2 := ⟨_, _, 0, _, _, hrg, HST.out w2 hg2, by omega⟩
  have HC0 := Lib.hid hc0
  have hR2 : w.heap.size + 1 < W1.heap.size := by have := HSW.out; omega
  clear hrg hg2 hs2 hc0 HST hown hsz HW HSW
  generalize W1.heap.size = R at *
  go_wp2_with fail
  try go_frame
  go_loopw [4, 5] (fun _ _ wr => CopyAt L d D R w wr) (fun _ _ wr => wr.rangeLeft L.m R)
  case atStart => exact HC0.out
  case round =>
    obtain ⟨lf, cnt, k, fb, rv, hrg, hc, hkc⟩ := hrel
    clear HC0
    have HLE := Lib.hid hrg.left_eq
    have HCA := Lib.hid hc
    have HIT := Lib.hid (ranges_iter hrg)
    clear hc
    go_wp2_with (first | (at_next; refine wpList_next_ranges wr rfl _ rfl 3 lawInt ptrElem (Value.int .i64) Value.pointer (fun key kl hkey => by obtain ⟨x, rfl, _⟩ := Maps.keyOf_int_inv Try.underlying3 hkey; exact ⟨x, rfl⟩) (fun v y hv => ptrElem_ptr hv) L.m R 16 D lf cnt rfl hrg ?_ ?_))
    · intro h0 hl0
      have p0 := HCA.out.done hl0 (by omega) HH.out
      have hm0 : CMid d w ⟨w.heap.size + 1, L.l, fb, rv, L.qv, L.kv⟩ wr := ⟨p0, HCA.out.below, Nat.le_succ _, fun f hf => (HCA.out.file f hf (hl0 _)).2, fun f s b hf e => ((HCA.out.row f s hf (hl0 _)).lt b e).1⟩
      have hpr := HH.out.below hm0.below
      obtain ⟨_, e1, _⟩ := hpr.raw.cells
      have HC7 := Lib.hid (cloneS_any _ _ L.qv wr hpr.queue (one_qcells _) (Nat.le_trans HB.out.q (by omega)))
      rw [HQ.out] at HC7 e1
      have M0 := Lib.hid hm0
      clear p0 hm0 hpr hl0 hrg HCA HIT HLE
      go_wp2_with fail
      refine HC7.out.mono ?_
      rintro e w7 ⟨v7, rfl, hown7, hb7⟩
      have hm1 := M0.out.grow hb7
      obtain ⟨_, f1, _, _, _, _, _, fz⟩ := hm1.raw.cells
      have f1' : w7.cell? ⟨w.heap.size, 1, none⟩ = some L.qv := f1
      have fz1 := fz 1
      obtain ⟨A7, q7, rfl, _⟩ := own_parts hown7
      have hm2 := hm1.set1 (.slice A7 d.q.length q7)
      have ho7 : (w7.setCell ⟨w.heap.size, 1, none⟩ (.slice A7 d.q.length q7)).ownsRow w.heap.size 65 2 (.slice A7 d.q.length q7) d.q.length (qcells d.q) :=
        ownKeep (ownBase hown7 M0.out.below.size) fun b hb => Below.heap_setCell _ _ _ _ (fun e => other_kind hown7 hm1.raw.cell (by decide) (by rw [hb, e]))
      have hp8 := HH.out.below hm2.below
      obtain ⟨_, _, g2, _⟩ := hp8.raw.cells
      have HC8 := Lib.hid (cloneM_any L.l d.q _ hp8.raw.set)
      have M2 := Lib.hid hm2
      have HO7 := Lib.hid ho7
      clear hm1 hm2 hown7 hb7 fz f1 HC7 M0 ho7 hp8
      go_wp2_with fail
      refine HC8.out.mono ?_
      rintro e w9 ⟨rfl, hs9, hb9, hl9⟩
      have hm3 := M2.out.grow hb9
      have ho9 := ownKeep (w' := w9) HO7.out (fun b hb => hb9.block b (by obtain ⟨c, hc⟩ := ownKind HO7.out hb; exact brow_lt hc))
      have hsz8 : w.heap.size ≤ (w7.setCell ⟨w.heap.size, 1, none⟩ (.slice A7 d.q.length q7)).heap.size := M2.out.below.size
      have hml8 := M2.out.raw.files.map.lt
      generalize w7.setCell ⟨w.heap.size, 1, none⟩ (.slice A7 d.q.length q7) = w8 at *
      obtain ⟨_, _, f2, _, _, _, _, fz⟩ := hm3.raw.cells
      have f2' : w9.cell? ⟨w.heap.size, 2, none⟩ = some (.map (some L.l)) := f2
      have fz2 := fz 2
      have hm4 := hm3.set2 w8.heap.size hs9 (fun e => by
        have h1 : w.heap.size + 1 < w8.heap.size := hml8
        have h2 : w.heap.size + 1 = w8.heap.size := e
        omega)
      have ho10 : (w9.setCell ⟨w.heap.size, 2, none⟩ (.map (some w8.heap.size))).ownsRow w.heap.size 65 2 (.slice A7 d.q.length q7) d.q.length (qcells d.q) :=
        ownKeep ho9 fun b hb => Below.heap_setCell _ _ _ _ (fun e => other_kind ho9 hm3.raw.cell (by decide) (by rw [hb, e]))
      have hp10 := HH.out.below hm4.below
      obtain ⟨_, _, _, _, _, g5, _⟩ := hp10.raw.cells
      have HC10 := Lib.hid (cloneI_any d.keep L.kv _ hp10.krd.irow HB.out.keep)
      rw [HKV.out] at HC10 g5
      have M4 := Lib.hid hm4
      have HO10 := Lib.hid ho10
      clear hm3 hm4 hs9 hb9 hl9 fz f2 HC8 M2 ho9 ho10 hp10 hml8 HO7
      go_wp2_with fail
      refine HC10.out.mono ?_
      rintro e w11 ⟨v11, rfl, hown11, hb11⟩
      obtain ⟨A11, q11, rfl, _⟩ := own_parts hown11
      have hm5 := M4.out.grow hb11
      have ho11 := ownKeep (w' := w11) HO10.out (fun b hb => hb11.block b (by obtain ⟨c, hc⟩ := ownKind HO10.out hb; exact brow_lt hc))
      obtain ⟨_, _, _, _, _, f5, _, fz⟩ := hm5.raw.cells
      have f5' : w11.cell? ⟨w.heap.size, 5, none⟩ = some L.kv := f5
      have fz5 := fz 5
      have hm6 := hm5.set5 (.slice A11 d.keep.length q11) (ownBase hown11 (Nat.zero_le _))
      have ho12 : (w11.setCell ⟨w.heap.size, 5, none⟩ (.slice A11 d.keep.length q11)).ownsRow w.heap.size 65 2 (.slice A7 d.q.length q7) d.q.length (qcells d.q) :=
        ownKeep ho11 fun b hb => Below.heap_setCell _ _ _ _ (fun e => other_kind ho11 hm5.raw.cell (by decide) (by rw [hb, e]))
      have HFIN := Lib.hid (hm6.done ho12 hsz8)
      clear hm5 hm6 ho11 ho12 hown11 hb11 fz f5 M4 HO10 HC10
      go_wp2
      go_ret
      exact HFIN.out
    · intro x p kl y ps w3 cnt3 hkey hlk hv hat hrg3 hlt3 hg3 hs3 hen
      obtain ⟨rfl, hfx, rfl⟩ := fallAt_more HDD.out hkey hv hat
      obtain ⟨m9, a9, s9, c9, hR9⟩ := HIT.out
      have b3 : Below w.heap.size w w3 := ⟨hg3.os.trans HCA.out.below.os, hg3.tape.trans HCA.out.below.tape, hg3.output.trans HCA.out.below.output, Nat.le_trans HCA.out.below.size hg3.size, fun b hb => (hg3.block b (Nat.lt_of_lt_of_le hb HCA.out.below.size) (fun e => by injection e with e; omega)).trans (HCA.out.below.block b hb)⟩
      have p3 := HH.out.below b3
      obtain ⟨x0, x1, _⟩ := p3.raw.files.cells hfx
      have hcC : w3.heap[w.heap.size]? = _ := (hg3.block _ (brow_lt HCA.out.cell) (fun e => by injection e with e; omega)).trans HCA.out.cell
      have cC : w3.cell? ⟨w.heap.size, 0, none⟩ = some (.map (some (w.heap.size + 1))) := by rw [Lib.cell_of_heap hcC]; rfl
      have hxl : L.fb x < w3.heap.size := brow_lt (p3.raw.files.file x hfx)
      have hCl : w.heap.size < w3.heap.size := brow_lt hcC
      have hxne : L.fb x ≠ w.heap.size + 1 := by
        have := brow_lt (HH.out.raw.files.file x hfx)
        omega
      have r0 : w3.ownsRow 0 5 1 (L.rv x false) (d.now x).length (bcs (d.now x)) := p3.raw.files.row x false hfx
      have r1 : w3.ownsRow 0 5 1 (L.rv x true) (d.last x).length (bcs (d.last x)) := p3.raw.files.row x true hfx
      have hbig := HB.out.ok.big x
      have hbigl := HB.out.ok.le x
      have HCB : Hid (∀ W, Below w3.heap.size w3 W → Calls Try.prog 32 #[L.rv x false] W (Cloned 5 1 (d.now x).length (bcs (d.now x)) W)) := Lib.hid fun W hW =>
        cloneB_any _ _ _ W (ownKeep r0 fun b hb => hW.block b (by obtain ⟨c, hc⟩ := ownKind r0 hb; exact brow_lt hc)) (one_bcs _) (by omega)
      have HCD : Hid (∀ W, Below w3.heap.size w3 W → Calls Try.prog 32 #[L.rv x true] W (Cloned 5 1 (d.last x).length (bcs (d.last x)) W)) := Lib.hid fun W hW =>
        cloneB_any _ _ _ W (ownKeep r1 fun b hb => hW.block b (by obtain ⟨c, hc⟩ := ownKind r1 hb; exact brow_lt hc)) (one_bcs _) (by omega)
      have HTH : Hid (∀ W : World, (∀ b, b < w3.heap.size → b ≠ w.heap.size + 1 → W.heap[b]? = w3.heap[b]?) → W.cell? ⟨w.heap.size, 0, none⟩ = some (.map (some (w.heap.size + 1))) ∧ W.cell? ⟨L.fb x, 0, none⟩ = some (L.rv x false) ∧ W.cell? ⟨L.fb x, 1, none⟩ = some (L.rv x true)) := Lib.hid fun W hW =>
        ⟨(World.cell?_of_block (a := ⟨w.heap.size, 0, none⟩) (hW _ hCl (Nat.ne_of_lt (Nat.lt_succ_self _)))).trans cC, (World.cell?_of_block (a := ⟨L.fb x, 0, none⟩) (hW _ hxl hxne)).trans x0, (World.cell?_of_block (a := ⟨L.fb x, 1, none⟩) (hW _ hxl hxne)).trans x1⟩
      have HSTEP : Hid (∀ w5 v0 v1, w5.ownsRow w3.heap.size 5 1 v0 (d.now x).length (bcs (d.now x)) → w5.ownsRow w3.heap.size 5 1 v1 (d.last x).length (bcs (d.last x)) → (∀ b, v0.ownBlock = some b → v1.ownBlock ≠ some b) → Below w3.heap.size w3 w5 →
          ∃ w6, (Instr.mapUpdate 42 (.map (some (w.heap.size + 1))) (.int .i64 x) (.pointer (some ⟨w5.heap.size, 0, none⟩))).run Try.prog (w5.alloc (.cells #[v0, v1] 50)) = .ok () w6 ∧
            w6.rangeLeft L.m R = cnt3 ∧ CopyAt L d D R w w6 ∧ (∀ b, b < w3.heap.size → b ≠ w.heap.size + 1 → w6.heap[b]? = w3.heap[b]?)) := Lib.hid fun w5 v0 v1 h0 h1 h01 hb =>
        copy_step HH.out HCA.out hkc hlt3 hfx hlk hrg3 hg3 ⟨m9, a9, s9, c9, hR9⟩ hR2 h0 h1 h01 hb
      have HDR : Hid (Below w3.heap.size w3 w3.drew) := Lib.hid ⟨rfl, rfl, rfl, Nat.le_refl _, fun _ _ => rfl⟩
      have hkeep : ∀ (w5 : World) (v0 v1 : Value), True := fun _ _ _ => trivial
      clear hkeep r0 r1 p3 b3 hcC hR9 hg3 hrg3 hkey hlk hv hat HIT hrg hbig hbigl
      go_wp2_with fail
      go_region_held3 (fun w' => w'.cell? ⟨w.heap.size, 0, none⟩ = some (.map (some (w.heap.size + 1))) ∧ w'.cell? ⟨L.fb x, 0, none⟩ = some (L.rv x false) ∧ w'.cell? ⟨L.fb x, 1, none⟩ = some (L.rv x true))
        (first
          | go_keep
          | exact Kept6.out
          | exact Kept5.out
          | exact Kept4.out)
        (first
          | (go_at_call 32; (with_reducible refine (HCD.out w4 HB4.out).mono ?_); rintro e w5 ⟨v1, rfl, hown1, hb5⟩; have hB5 := HB4.out.trans (hb5.mono HB4.out.size); have ho0 := ownKeep HOB.out (fun b hb => hb5.block b (by obtain ⟨c, hc⟩ := ownKind HOB.out hb; exact brow_lt hc)); obtain ⟨w6, hrun6, hl6, hc6, hk6⟩ := HSTEP.out w5 _ v1 ho0 (ownBase hown1 HB4.out.size) (fun b e1 e2 => by have q1 := (hown1.lt b e2).1; obtain ⟨c, hc⟩ := ownKind HOB.out e1; have := brow_lt hc; omega) hB5; obtain ⟨A1, q1, rfl, _⟩ := own_parts hown1; have Kept5 := Lib.hid (HTH.out w5 (fun b hb _ => hB5.block b hb)); have Kept6 := Lib.hid (HTH.out w6 hk6); have HL6 := Lib.hid hl6; have HC6 := Lib.hid hc6; clear hown1 hb5 hB5 ho0 hl6 hc6 hk6)
          | (go_at_call 32; (with_reducible refine (HCB.out w4 HB4.out).mono ?_); rintro e w5 ⟨v1, rfl, hown1, hb5⟩; have hB5 := HB4.out.trans (hb5.mono HB4.out.size); have ho0 := ownKeep HOD.out (fun b hb => hb5.block b (by obtain ⟨c, hc⟩ := ownKind HOD.out hb; exact brow_lt hc)); obtain ⟨w6, hrun6, hl6, hc6, hk6⟩ := HSTEP.out w5 v1 _ (ownBase hown1 HB4.out.size) ho0 (fun b e1 e2 => by have q1 := (hown1.lt b e1).1; obtain ⟨c, hc⟩ := ownKind HOD.out e2; have := brow_lt hc; omega) hB5; obtain ⟨A1, q1, rfl, _⟩ := own_parts hown1; have Kept5 := Lib.hid (HTH.out w5 (fun b hb _ => hB5.block b hb)); have Kept6 := Lib.hid (HTH.out w6 hk6); have HL6 := Lib.hid hl6; have HC6 := Lib.hid hc6; clear hown1 hb5 hB5 ho0 hl6 hc6 hk6)
          | (go_at_call 32; (with_reducible refine (HCB.out w3.drew HDR.out).mono ?_); rintro e w4 ⟨v0, rfl, hown0, hb4⟩; obtain ⟨A0, q0, rfl, _⟩ := own_parts hown0; have HOB := Lib.hid hown0; have HB4 := Lib.hid (HDR.out.trans hb4); have Kept4 := Lib.hid (HTH.out w4 (fun b hb _ => HB4.out.block b hb)); clear hown0 hb4)
          | (go_at_call 32; (with_reducible refine (HCD.out w3.drew HDR.out).mono ?_); rintro e w4 ⟨v0, rfl, hown0, hb4⟩; obtain ⟨A0, q0, rfl, _⟩ := own_parts hown0; have HOD := Lib.hid hown0; have HB4 := Lib.hid (HDR.out.trans hb4); have Kept4 := Lib.hid (HTH.out w4 (fun b hb _ => HB4.out.block b hb)); clear hown0 hb4))
      all_goals
        go_wp2
        go_roundw
        case rel => exact HC6.out
        case measure => rw [HL6.out, HLE.out]; exact hlt3

end Go.Proofs.Ytkbffhlkbcdgnaa
