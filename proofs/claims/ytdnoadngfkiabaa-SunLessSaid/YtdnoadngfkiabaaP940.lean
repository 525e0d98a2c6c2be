/-
  Contracts of the reference of layer 11, 1: less, higher, lower, narrow.
  Contracts of the reference of layer 11, 2: narrow.
  Contracts of the reference of layer 11, 3: meets, Valid, within, Blocked, Ray.
  Contracts of the reference of layer 11, 4: Blocked, Ray.
-/
import Derived.Test.YtdnoadngfkiabaaP928
import Derived.Test.YtdnoadngfkiabaaP901
import Derived.Test.YtdnoadngfkiabaaP917
import Derived.Test.YtdnoadngfkiabaaP939
import Derived.StillTailTactics
set_option linter.unusedVariables false
set_option maxRecDepth 100000
namespace Go.Proofs.Ytdnoadngfkiabaa
open Go.RowKit

/-- two bounds at blocks, and a cell for the result. -/
def Hb11 (g g1 g2 : Nat) (a b : Bd) (w : World) : Prop := w.cell? ⟨g, 0, none⟩ = some (.int .i64 a.n) ∧ w.cell? ⟨g, 1, none⟩ = some (.int .i64 a.d) ∧ w.cell? ⟨g, 2, none⟩ = some (.bool a.c) ∧ w.cell? ⟨g1, 0, none⟩ = some (.int .i64 b.n) ∧ w.cell? ⟨g1, 1, none⟩ = some (.int .i64 b.d) ∧ w.cell? ⟨g1, 2, none⟩ = some (.bool b.c) ∧ w.heap[g2]? = some (.cells #[.int .i64 0, .int .i64 0, .bool false] 106 (0, 0)) ∧ g < w.heap.size ∧ g1 < w.heap.size ∧ g2 < w.heap.size
theorem Hb11.go {g g1 g2 : Nat} {a b : Bd} {w w' : World} (h : Hb11 g g1 g2 a b w) (hb : Below w.heap.size w w') : Hb11 g g1 g2 a b w' := by
  obtain ⟨a0, a1, a2, a3, a4, a5, z, l0, l1, l2⟩ := h
  have c0 := fun k => hb.cell (p := ⟨g, k, none⟩) l0
  have c1 := fun k => hb.cell (p := ⟨g1, k, none⟩) l1
  exact ⟨(c0 _).trans a0, (c0 _).trans a1, (c0 _).trans a2, (c1 _).trans a3, (c1 _).trans a4, (c1 _).trans a5, (hb.block _ l2).trans z, Nat.lt_of_lt_of_le l0 hb.size, Nat.lt_of_lt_of_le l1 hb.size, Nat.lt_of_lt_of_le l2 hb.size⟩
theorem Hb11.new (w : World) (a b : Bd) : Hb11 w.heap.size (w.heap.size + 1) (w.heap.size + 1 + 1) a b (((w.alloc (.cells #[.int .i64 a.n, .int .i64 a.d, .bool a.c] 106)).alloc (.cells #[.int .i64 b.n, .int .i64 b.d, .bool b.c] 106)).alloc (.cells #[.int .i64 0, .int .i64 0, .bool false] 106)) := by
  obtain ⟨h0, h1, h2⟩ := heap3 w (.cells #[.int .i64 a.n, .int .i64 a.d, .bool a.c] 106) (.cells #[.int .i64 b.n, .int .i64 b.d, .bool b.c] 106) (.cells #[.int .i64 0, .int .i64 0, .bool false] 106)
  exact ⟨by rw [Lib.cell_of_heap h0]; rfl, by rw [Lib.cell_of_heap h0]; rfl, by rw [Lib.cell_of_heap h0]; rfl, by rw [Lib.cell_of_heap h1]; rfl, by rw [Lib.cell_of_heap h1]; rfl, by rw [Lib.cell_of_heap h1]; rfl, h2, by simp; omega, by simp, by simp⟩
end Go.Proofs.Ytdnoadngfkiabaa
namespace Go.Proofs.Ytdnoadngfkiabaa
open Go.RowKit

/-- an interval of the reference at a block. -/
def PrAt (w : World) (r : Nat) (x : Pr) : Prop := w.heap[r]? = some (.cells #[.int .i64 x.lo.n, .int .i64 x.lo.d, .bool x.lo.c, .int .i64 x.hi.n, .int .i64 x.hi.d, .bool x.hi.c, .bool x.no] 108 (0, 0))
section
variable {w w' : World} {r : Nat} {x : Pr}
theorem PrAt.lt (h : PrAt w r x) : r < w.heap.size := (Array.getElem?_eq_some_iff.1 h).1
theorem PrAt.c0 (h : PrAt w r x) : w.cell? ⟨r, 0, none⟩ = some (.int .i64 x.lo.n) := by rw [Lib.cell_of_heap h]; rfl
theorem PrAt.c1 (h : PrAt w r x) : w.cell? ⟨r, 1, none⟩ = some (.int .i64 x.lo.d) := by rw [Lib.cell_of_heap h]; rfl
theorem PrAt.c2 (h : PrAt w r x) : w.cell? ⟨r, 2, none⟩ = some (.bool x.lo.c) := by rw [Lib.cell_of_heap h]; rfl
theorem PrAt.c3 (h : PrAt w r x) : w.cell? ⟨r, 3, none⟩ = some (.int .i64 x.hi.n) := by rw [Lib.cell_of_heap h]; rfl
theorem PrAt.c4 (h : PrAt w r x) : w.cell? ⟨r, 4, none⟩ = some (.int .i64 x.hi.d) := by rw [Lib.cell_of_heap h]; rfl
theorem PrAt.c5 (h : PrAt w r x) : w.cell? ⟨r, 5, none⟩ = some (.bool x.hi.c) := by rw [Lib.cell_of_heap h]; rfl
theorem PrAt.c6 (h : PrAt w r x) : w.cell? ⟨r, 6, none⟩ = some (.bool x.no) := by rw [Lib.cell_of_heap h]; rfl
theorem PrAt.froz (h : PrAt w r x) (k : Nat) : w.frozen? ⟨r, k, none⟩ = false := Lib.frozen_of_heap h k
theorem PrAt.setlo (h : PrAt w r x) (b : Bd) : PrAt (((w.setCell ⟨r, 0, none⟩ (.int .i64 b.n)).setCell ⟨r, 1, none⟩ (.int .i64 b.d)).setCell ⟨r, 2, none⟩ (.bool b.c)) r ⟨b, x.hi, x.no⟩ := by
  unfold PrAt at h ⊢
  simp [World.setCell, Array.getElem?_modify, h]
theorem PrAt.sethi (h : PrAt w r x) (b : Bd) : PrAt (((w.setCell ⟨r, 3, none⟩ (.int .i64 b.n)).setCell ⟨r, 4, none⟩ (.int .i64 b.d)).setCell ⟨r, 5, none⟩ (.bool b.c)) r ⟨x.lo, b, x.no⟩ := by
  unfold PrAt at h ⊢
  simp [World.setCell, Array.getElem?_modify, h]
theorem PrAt.set7 (h : PrAt w r x) (y : Pr) : PrAt (((((((w.setCell ⟨r, 0, none⟩ (.int .i64 y.lo.n)).setCell ⟨r, 1, none⟩ (.int .i64 y.lo.d)).setCell ⟨r, 2, none⟩ (.bool y.lo.c)).setCell ⟨r, 3, none⟩ (.int .i64 y.hi.n)).setCell ⟨r, 4, none⟩ (.int .i64 y.hi.d)).setCell ⟨r, 5, none⟩ (.bool y.hi.c)).setCell ⟨r, 6, none⟩ (.bool y.no)) r y := by
  unfold PrAt at h ⊢
  simp [World.setCell, Array.getElem?_modify, h]
theorem PrAt.below {B : Nat} (h : PrAt w r x) (hg : Below B w w') (hr : r < B) : PrAt w' r x := (hg.block r hr).trans h
theorem PrAt.go (h : PrAt w r x) (hg : Below w.heap.size w w') : PrAt w' r x := h.below hg h.lt
theorem PrAt.far (h : PrAt w r x) {c k : Nat} (v : Value) (hc : r ≠ c) : PrAt (w.setCell ⟨c, k, none⟩ v) r x := by
  unfold PrAt at h ⊢
  simp [World.setCell, Array.getElem?_modify, h, hc.symm]
end
def prZ : Pr := ⟨⟨0, 0, false⟩, ⟨0, 0, false⟩, false⟩
/-- inside of narrow: the interval at g, the result's block at g1. -/
structure Nw11 (g g1 : Nat) (x : Pr) (w0 w : World) : Prop where
  at_ : PrAt w g x
  z : PrAt w g1 prZ
  b : Below w0.heap.size w0 w
  l0 : w0.heap.size ≤ g
  l1 : w0.heap.size ≤ g1
  ne : g ≠ g1
theorem Nw11.go {g g1 : Nat} {x : Pr} {w0 w w' : World} (h : Nw11 g g1 x w0 w) (hb : Below w.heap.size w w') : Nw11 g g1 x w0 w' := ⟨h.at_.go hb, h.z.go hb, h.b.trans (hb.mono h.b.size), h.l0, h.l1, h.ne⟩
theorem Nw11.setlo {g g1 : Nat} {x : Pr} {w0 w : World} (h : Nw11 g g1 x w0 w) (b : Bd) : Nw11 g g1 ⟨b, x.hi, x.no⟩ w0 (((w.setCell ⟨g, 0, none⟩ (.int .i64 b.n)).setCell ⟨g, 1, none⟩ (.int .i64 b.d)).setCell ⟨g, 2, none⟩ (.bool b.c)) := ⟨h.at_.setlo b, ((h.z.far _ h.ne.symm).far _ h.ne.symm).far _ h.ne.symm, below_set3 h.b h.l0 _ _ _ _ _ _, h.l0, h.l1, h.ne⟩
theorem Nw11.sethi {g g1 : Nat} {x : Pr} {w0 w : World} (h : Nw11 g g1 x w0 w) (b : Bd) : Nw11 g g1 ⟨x.lo, b, x.no⟩ w0 (((w.setCell ⟨g, 3, none⟩ (.int .i64 b.n)).setCell ⟨g, 4, none⟩ (.int .i64 b.d)).setCell ⟨g, 5, none⟩ (.bool b.c)) := ⟨h.at_.sethi b, ((h.z.far _ h.ne.symm).far _ h.ne.symm).far _ h.ne.symm, below_set3 h.b h.l0 _ _ _ _ _ _, h.l0, h.l1, h.ne⟩
theorem Nw11.new (w : World) (x : Pr) : Nw11 w.heap.size (w.heap.size + 1) x w ((w.alloc (.cells #[.int .i64 x.lo.n, .int .i64 x.lo.d, .bool x.lo.c, .int .i64 x.hi.n, .int .i64 x.hi.d, .bool x.hi.c, .bool x.no] 108)).alloc (.cells #[.int .i64 0, .int .i64 0, .bool false, .int .i64 0, .int .i64 0, .bool false, .bool false] 108)) := by
  obtain ⟨h0, h1⟩ := heap2 w (.cells #[.int .i64 x.lo.n, .int .i64 x.lo.d, .bool x.lo.c, .int .i64 x.hi.n, .int .i64 x.hi.d, .bool x.hi.c, .bool x.no] 108) (.cells #[.int .i64 0, .int .i64 0, .bool false, .int .i64 0, .int .i64 0, .bool false, .bool false] 108)
  exact ⟨h0, h1, ((Below.refl _ _).alloc (Nat.le_refl _) _).alloc (by simp) _, Nat.le_refl _, by omega, by omega⟩
theorem below_set7 {B r : Nat} {W w : World} (h : Below B W w) (hr : B ≤ r) (a b c d e f g : Value) : Below B W (((((((w.setCell ⟨r, 0, none⟩ a).setCell ⟨r, 1, none⟩ b).setCell ⟨r, 2, none⟩ c).setCell ⟨r, 3, none⟩ d).setCell ⟨r, 4, none⟩ e).setCell ⟨r, 5, none⟩ f).setCell ⟨r, 6, none⟩ g) := ((((((h.setCell hr _).setCell hr _).setCell hr _).setCell hr _).setCell hr _).setCell hr _).setCell hr _
end Go.Proofs.Ytdnoadngfkiabaa
namespace Go.Proofs.Ytdnoadngfkiabaa
open Go.RowKit

/-- what a round of the reference's meets has: the interval at r, the point, the direction, the box in its row. -/
structure Rd11 (g gv r bb o : Nat) (p v : V3) (q : Bx) (x : Pr) (W w : World) : Prop where
  at_ : PrAt w r x
  a0 : w.cell? ⟨g, 0, none⟩ = some (.int .i64 p.x)
  a1 : w.cell? ⟨g, 1, none⟩ = some (.int .i64 p.y)
  a2 : w.cell? ⟨g, 2, none⟩ = some (.int .i64 p.z)
  b0 : w.cell? ⟨gv, 0, none⟩ = some (.int .i64 v.x)
  b1 : w.cell? ⟨gv, 1, none⟩ = some (.int .i64 v.y)
  b2 : w.cell? ⟨gv, 2, none⟩ = some (.int .i64 v.z)
  c0 : w.cell? ⟨bb, o, none⟩ = some (.int .i64 q.r.X0)
  c1 : w.cell? ⟨bb, o + 1, none⟩ = some (.int .i64 q.r.Y0)
  c2 : w.cell? ⟨bb, o + 2, none⟩ = some (.int .i64 q.r.X1)
  c3 : w.cell? ⟨bb, o + 3, none⟩ = some (.int .i64 q.r.Y1)
  c4 : w.cell? ⟨bb, o + 4, none⟩ = some (.int .i64 q.z0)
  c5 : w.cell? ⟨bb, o + 5, none⟩ = some (.int .i64 q.z1)
  lg : g < w.heap.size
  lv : gv < w.heap.size
  lr : r < w.heap.size
  lb : bb < w.heap.size
  bel : Below W.heap.size W w
  old : W.heap.size ≤ r
  n0 : r ≠ g
  n1 : r ≠ gv
  n2 : r ≠ bb
theorem Rd11.go {g gv r bb o : Nat} {p v : V3} {q : Bx} {x : Pr} {W w w' : World} (h : Rd11 g gv r bb o p v q x W w) (hb : Below w.heap.size w w') : Rd11 g gv r bb o p v q x W w' := by
  have cg := fun k => hb.cell (p := ⟨g, k, none⟩) h.lg
  have cv := fun k => hb.cell (p := ⟨gv, k, none⟩) h.lv
  have cb := fun k => hb.cell (p := ⟨bb, k, none⟩) h.lb
  exact ⟨h.at_.go hb, (cg _).trans h.a0, (cg _).trans h.a1, (cg _).trans h.a2, (cv _).trans h.b0, (cv _).trans h.b1, (cv _).trans h.b2, (cb _).trans h.c0, (cb _).trans h.c1, (cb _).trans h.c2, (cb _).trans h.c3, (cb _).trans h.c4, (cb _).trans h.c5, Nat.lt_of_lt_of_le h.lg hb.size, Nat.lt_of_lt_of_le h.lv hb.size, Nat.lt_of_lt_of_le h.lr hb.size, Nat.lt_of_lt_of_le h.lb hb.size, h.bel.trans (hb.mono h.bel.size), h.old, h.n0, h.n1, h.n2⟩
theorem set7_size (w : World) (r : Nat) (a b c d e f g : Value) : (((((((w.setCell ⟨r, 0, none⟩ a).setCell ⟨r, 1, none⟩ b).setCell ⟨r, 2, none⟩ c).setCell ⟨r, 3, none⟩ d).setCell ⟨r, 4, none⟩ e).setCell ⟨r, 5, none⟩ f).setCell ⟨r, 6, none⟩ g).heap.size = w.heap.size := by simp
theorem set7_block (w : World) (r k : Nat) (hk : r ≠ k) (a b c d e f g : Value) : (((((((w.setCell ⟨r, 0, none⟩ a).setCell ⟨r, 1, none⟩ b).setCell ⟨r, 2, none⟩ c).setCell ⟨r, 3, none⟩ d).setCell ⟨r, 4, none⟩ e).setCell ⟨r, 5, none⟩ f).setCell ⟨r, 6, none⟩ g).heap[k]? = w.heap[k]? := by
  simp [World.setCell, Array.getElem?_modify, hk]
theorem set7_cell (w : World) (r k j : Nat) (hk : r ≠ k) (a b c d e f g : Value) : (((((((w.setCell ⟨r, 0, none⟩ a).setCell ⟨r, 1, none⟩ b).setCell ⟨r, 2, none⟩ c).setCell ⟨r, 3, none⟩ d).setCell ⟨r, 4, none⟩ e).setCell ⟨r, 5, none⟩ f).setCell ⟨r, 6, none⟩ g).cell? ⟨k, j, none⟩ = w.cell? ⟨k, j, none⟩ := World.cell?_of_block (set7_block w r k hk a b c d e f g)
theorem Rd11.set {g gv r bb o : Nat} {p v : V3} {q : Bx} {x : Pr} {W w : World} (h : Rd11 g gv r bb o p v q x W w) (y : Pr) : Rd11 g gv r bb o p v q y W (((((((w.setCell ⟨r, 0, none⟩ (.int .i64 y.lo.n)).setCell ⟨r, 1, none⟩ (.int .i64 y.lo.d)).setCell ⟨r, 2, none⟩ (.bool y.lo.c)).setCell ⟨r, 3, none⟩ (.int .i64 y.hi.n)).setCell ⟨r, 4, none⟩ (.int .i64 y.hi.d)).setCell ⟨r, 5, none⟩ (.bool y.hi.c)).setCell ⟨r, 6, none⟩ (.bool y.no)) := by
  have cc := fun (k j : Nat) (hk : r ≠ k) => (set7_cell w r k j hk (.int .i64 y.lo.n) (.int .i64 y.lo.d) (.bool y.lo.c) (.int .i64 y.hi.n) (.int .i64 y.hi.d) (.bool y.hi.c) (.bool y.no))
  have hs := set7_size w r (.int .i64 y.lo.n) (.int .i64 y.lo.d) (.bool y.lo.c) (.int .i64 y.hi.n) (.int .i64 y.hi.d) (.bool y.hi.c) (.bool y.no)
  exact ⟨h.at_.set7 y, (cc _ _ h.n0).trans h.a0, (cc _ _ h.n0).trans h.a1, (cc _ _ h.n0).trans h.a2, (cc _ _ h.n1).trans h.b0, (cc _ _ h.n1).trans h.b1, (cc _ _ h.n1).trans h.b2, (cc _ _ h.n2).trans h.c0, (cc _ _ h.n2).trans h.c1, (cc _ _ h.n2).trans h.c2, (cc _ _ h.n2).trans h.c3, (cc _ _ h.n2).trans h.c4, (cc _ _ h.n2).trans h.c5, by rw [hs]; exact h.lg, by rw [hs]; exact h.lv, by rw [hs]; exact h.lr, by rw [hs]; exact h.lb, below_set7 h.bel h.old _ _ _ _ _ _ _, h.old, h.n0, h.n1, h.n2⟩
end Go.Proofs.Ytdnoadngfkiabaa
namespace Go.Proofs.Ytdnoadngfkiabaa
open Go.RowKit

end Go.Proofs.Ytdnoadngfkiabaa
