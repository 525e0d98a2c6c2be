/-
  Contracts of the program's layer 6 (13): connected and Parts of a region whose rectangles don't touch.
-/
import Derived.Test.YtdnoadngfkiabaaP910
set_option linter.unusedVariables false
set_option maxRecDepth 100000
namespace Go.Proofs.Ytdnoadngfkiabaa
open Go.RowKit

def bcells (l : List Bool) : List Value := l.map Value.bool
def Tx (rb j pb eb : Nat) (u v : Rc) (w0 w : World) : Prop := w.cell? ⟨rb, j, none⟩ = some (.bool false) ∧ w.cell? ⟨pb, 0, none⟩ = some (.int .i64 u.X0) ∧ w.cell? ⟨pb, 1, none⟩ = some (.int .i64 u.Y0) ∧ w.cell? ⟨pb, 2, none⟩ = some (.int .i64 u.X1) ∧ w.cell? ⟨pb, 3, none⟩ = some (.int .i64 u.Y1) ∧ w.cell? ⟨eb, 0, none⟩ = some (.int .i64 v.X0) ∧ w.cell? ⟨eb, 1, none⟩ = some (.int .i64 v.Y0) ∧ w.cell? ⟨eb, 2, none⟩ = some (.int .i64 v.X1) ∧ w.cell? ⟨eb, 3, none⟩ = some (.int .i64 v.Y1) ∧ rb < w.heap.size ∧ pb < w.heap.size ∧ eb < w.heap.size ∧ Hid (Below w0.heap.size w0 w)
theorem Tx.go {rb j pb eb : Nat} {u v : Rc} {w0 w w' : World} (h : Tx rb j pb eb u v w0 w) (hb : Below w.heap.size w w') : Tx rb j pb eb u v w0 w' := by
  obtain ⟨h0, a0, a1, a2, a3, b0, b1, b2, b3, l0, l1, l2, hh⟩ := h
  have c := fun b o (hb2 : b < w.heap.size) => hb.cell (p := ⟨b, o, none⟩) hb2
  exact ⟨(c _ _ l0).trans h0, (c _ _ l1).trans a0, (c _ _ l1).trans a1, (c _ _ l1).trans a2, (c _ _ l1).trans a3, (c _ _ l2).trans b0, (c _ _ l2).trans b1, (c _ _ l2).trans b2, (c _ _ l2).trans b3, Nat.lt_of_lt_of_le l0 hb.size, Nat.lt_of_lt_of_le l1 hb.size, Nat.lt_of_lt_of_le l2 hb.size, Lib.hid (hh.out.trans (hb.mono hh.out.size))⟩
theorem Tx.drewN {rb j pb eb : Nat} {u v : Rc} {w0 w : World} (h : Tx rb j pb eb u v w0 w) (n : Nat) : Tx rb j pb eb u v w0 (w.drewN n) := h.go (below_drewN (Below.refl _ _) n)
/-- what connected keeps: the part's only rectangle, who is reached, and all else. -/
structure CO (pb rb n : Nat) (u : Rc) (R : List Bool) (w wr : World) : Prop where
  part : RcAt wr pb u
  flags : wr.ownsRow rb 4 1 (.slice (some ⟨rb, 0, none⟩) n n) n (bcells R)
  grown : w.grownBy wr (some rb)
theorem grown_trans {w w1 w2 : World} {r : Nat} (h : w.grownBy w1 (some r)) (k : w1.grownBy w2 (some r)) : w.grownBy w2 (some r) :=
  ⟨k.os.trans h.os, k.tape.trans h.tape, k.output.trans h.output, Nat.le_trans h.size k.size, fun i hi hne => (k.block i (Nat.lt_of_lt_of_le hi h.size) hne).trans (h.block i hi hne)⟩
theorem grown_below {w w1 w2 : World} {r : Nat} (h : w.grownBy w1 (some r)) (k : Below w1.heap.size w1 w2) : w.grownBy w2 (some r) :=
  grown_trans h ⟨k.os, k.tape, k.output, k.size, fun i hi _ => k.block i hi⟩
theorem CO.go {pb rb n : Nat} {u : Rc} {R : List Bool} {w wr w' : World} (h : CO pb rb n u R w wr) (hb : Below wr.heap.size wr w') : CO pb rb n u R w w' := ⟨h.part.below hb h.part.lt, own_go h.flags hb, grown_below h.grown hb⟩
end Go.Proofs.Ytdnoadngfkiabaa
