/-
  The contract of the program's Copy.
-/
import Derived.Test.YtncadnmoiiiahaaDoorMt
set_option linter.unusedVariables false
set_option maxRecDepth 100000
namespace Go.Proofs.YtncadnmoiiiahaaDoor
open Go.RowKit

/-- the three cells that a round of Copy reads. -/
def Three (w : World) (C M fx : Nat) (u0 u1 : Value) : Prop := w.cell? ⟨C, 0, none⟩ = some (.map (some M)) ∧ w.cell? ⟨fx, 0, none⟩ = some u0 ∧ w.cell? ⟨fx, 1, none⟩ = some u1

/-- a round of Copy: both rows have been copied (v0, v1). -/
theorem copy_step {r : Nat} {L : Lay} {d : Dk} {D : DataW Unit} {R : Nat} {w wr w3 w5 : World} {lf : Lit → Bool} {cnt cnt3 k : Nat} {fb : Int → Nat} {rv : Int → Bool → Value} (hp : PAt r L d w) (hc : CAt L d lf k fb rv w wr) (hkc : k + cnt ≤ 16) (hlt : cnt3 < cnt)
    {x : Int} (hx : Dk.fileOk x) (hlx : lf (.int .i64 x) = true) (hrg3 : w3.ranges Tryd.prog 3 ptrElem L.m R 16 D (fun z => lf z && !z.sameKey (.int .i64 x)) cnt3) (hg3 : wr.grownBy w3 (some R)) (hit : ∃ m a s c, wr.heap[R]? = some (.mapIter m a s c)) (hR : w.heap.size + 1 < R)
    {v0 v1 : Value} (h0 : w5.ownsRow w3.heap.size 5 1 v0 (d.now x).length (bcs (d.now x))) (h1 : w5.ownsRow w3.heap.size 5 1 v1 (d.last x).length (bcs (d.last x))) (h01 : ∀ b, v0.ownBlock = some b → v1.ownBlock ≠ some b) (hb : Below w3.heap.size w3 w5) :
    ∃ w6, (Instr.mapUpdate 44 (.map (some (w.heap.size + 1))) (.int .i64 x) (.pointer (some ⟨w5.heap.size, 0, none⟩))).run Tryd.prog (w5.alloc (.cells #[v0, v1] 51)) = .ok () w6 ∧
      w6.rangeLeft L.m R = cnt3 ∧ CopyAt L d D R w w6 ∧ (∀ b, b < w3.heap.size → b ≠ w.heap.size + 1 → w6.heap[b]? = w3.heap[b]?) := by
  obtain ⟨m, a, s, c, hit⟩ := hit
  have b3 : Below w.heap.size w w3 := ⟨hg3.os.trans hc.below.os, hg3.tape.trans hc.below.tape, hg3.output.trans hc.below.output, Nat.le_trans hc.below.size hg3.size, fun b hb => (hg3.block b (Nat.lt_of_lt_of_le hb hc.below.size) (fun e => by injection e with e; omega)).trans (hc.below.block b hb)⟩
  have hc3 := hc.grow (w' := w3) (fun b hb hne => hg3.block b hb (fun e => by injection e with e; subst e; exact hne m a s c hit)) b3
  have hc5 := hc3.grow (w' := w5) (fun b hb2 _ => hb.block b hb2) (b3.trans (hb.mono b3.size))
  have hold : ∀ b f t, Dk.fileOk f → lf (.int .i64 f) = false → (rv f t).ownBlock = some b → b < w3.heap.size := fun b f t hf hl e => by
    obtain ⟨cc, hcc⟩ := ownKind (hc3.row f t hf hl) e
    exact brow_lt hcc
  obtain ⟨w6, hrun, h6, ht⟩ := hc5.next hx (by omega) hlx (ownBase h0 b3.size) (ownBase h1 b3.size) (fun b f t hf hl e e2 => by
    have := hold b f t hf hl e2
    have := (h0.lt b e).1
    omega) (fun b f t hf hl e e2 => by
    have := hold b f t hf hl e2
    have := (h1.lt b e).1
    omega) h01
  have ha : Below w5.heap.size w5 (w5.alloc (.cells #[v0, v1] 51)) := (Below.refl _ _).alloc (Nat.le_refl _) _
  have hml := hp.raw.files.map.lt
  have hr6 := ((hrg3.kept (row := none) ⟨hb.os, hb.tape, hb.output, hb.size, fun k hk _ => hb.block k hk⟩ (by simp) (by simp)).alloc (.cells #[v0, v1] 51)).kept ht.grown (fun e => by injection e with e; omega) (fun e => by injection e with e; omega)
  refine ⟨w6, hrun, hr6.left_eq, ⟨_, _, _, _, _, hr6, h6, by omega⟩, fun b hb2 hne => ?_⟩
  have hlt5 := Nat.lt_of_lt_of_le hb2 hb.size
  exact (ht.grown.block b (by simp; omega) (fun e => hne (by injection e))).trans ((ha.block b hlt5).trans (hb.block b hb2))

/-- the copy's own struct is filled. -/
structure CMid (d : Dk) (w : World) (Lc : Lay) (wx : World) : Prop where
  raw : PRaw w.heap.size Lc d d.q wx
  below : Below w.heap.size w wx
  m : w.heap.size ≤ Lc.m
  fb : ∀ f, Dk.fileOk f → w.heap.size ≤ Lc.fb f
  rv : ∀ f s b, Dk.fileOk f → (Lc.rv f s).ownBlock = some b → w.heap.size ≤ b
theorem CMid.grow {d : Dk} {w wx w' : World} {Lc : Lay} (h : CMid d w Lc wx) (hb : Below wx.heap.size wx w') : CMid d w Lc w' :=
  ⟨h.raw.below hb, h.below.trans (hb.mono h.below.size), h.m, h.fb, h.rv⟩
theorem CMid.set1 {d : Dk} {w wx : World} {Lc : Lay} (h : CMid d w Lc wx) (v : Value) : CMid d w { Lc with qv := v } (wx.setCell ⟨w.heap.size, 1, none⟩ v) :=
  ⟨h.raw.store (L' := { Lc with qv := v }) (d' := d) 1 v rfl rfl rfl rfl rfl rfl h.raw.set h.raw.keep h.raw.ne, Below.setCell (p := ⟨w.heap.size, 1, none⟩) h.below (Nat.le_refl _) v, h.m, h.fb, h.rv⟩
theorem CMid.set2 {d : Dk} {w wx : World} {Lc : Lay} (h : CMid d w Lc wx) (l : Nat) (hl : LMap wx l d.q) (hne : Lc.m ≠ l) : CMid d w { Lc with l := l } (wx.setCell ⟨w.heap.size, 2, none⟩ (.map (some l))) :=
  ⟨h.raw.store (L' := { Lc with l := l }) (d' := d) 2 (.map (some l)) rfl rfl rfl rfl rfl rfl hl h.raw.keep hne, Below.setCell (p := ⟨w.heap.size, 2, none⟩) h.below (Nat.le_refl _) _, h.m, h.fb, h.rv⟩
theorem CMid.set5 {d : Dk} {w wx : World} {Lc : Lay} (h : CMid d w Lc wx) (v : Value) (hv : wx.ownsRow 0 3 1 v d.keep.length (d.keep.map (Value.int .i64))) : CMid d w { Lc with kv := v } (wx.setCell ⟨w.heap.size, 5, none⟩ v) :=
  ⟨h.raw.store (L' := { Lc with kv := v }) (d' := d) 5 v rfl rfl rfl rfl rfl rfl h.raw.set hv h.raw.ne, Below.setCell (p := ⟨w.heap.size, 5, none⟩) h.below (Nat.le_refl _) v, h.m, h.fb, h.rv⟩
theorem CMid.done {d : Dk} {w wx : World} {Lc : Lay} (h : CMid d w Lc wx) (hq : wx.ownsRow w.heap.size 70 2 Lc.qv d.q.length (qcells d.q)) (hl : w.heap.size ≤ Lc.l) : CopyPost d w (.returned (.pointer (some ⟨w.heap.size, 0, none⟩))) wx :=
  ⟨_, Lc, rfl, ⟨h.raw, ownBase hq (Nat.zero_le _)⟩, h.below, fun b hb => by
    rcases hb with rfl | rfl | hb | hb
    · exact Nat.le_refl _
    · exact hl
    · exact (hq.lt b hb).1
    · rcases hb with rfl | ⟨f, hf, rfl | ⟨s, hb⟩⟩
      · exact h.m
      · exact h.fb f hf
      · exact h.rv f s b hf hb⟩

end Go.Proofs.YtncadnmoiiiahaaDoor
