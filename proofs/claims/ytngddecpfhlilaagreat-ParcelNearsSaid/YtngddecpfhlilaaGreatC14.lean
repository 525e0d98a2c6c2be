/-
  Contracts of the program's layer 6 (15): Bounds, staysIn.
  Contracts of the program's layer 6 (16): Shift.
  Contracts of the program's layer 7 (3): sides.
  Contracts of the program's layer 6 (13): connected and Parts of a region whose rectangles don't touch.
  Contracts of the program's layer 6 (17): Shift, the way over the rectangles.
-/
import Derived.Test.YtngddecpfhlilaaGreatC11
import Derived.Laws.OwnMore
import Derived.Test.YtngddecpfhlilaaGreatC13
import Derived.StillTailTactics
set_option linter.unusedVariables false
set_option maxRecDepth 100000
namespace Go.Proofs.YtngddecpfhlilaaGreat
def staysB (a b d : Int) : Bool := decide (-a ≤ d ∧ d ≤ 1048576 - b)
end Go.Proofs.YtngddecpfhlilaaGreat
namespace Go.Proofs.YtngddecpfhlilaaGreat
open Go.RowKit
def mvR (dx dy : Int) (r : Rc) : Rc := ⟨r.X0 + dx, r.Y0 + dy, r.X1 + dx, r.Y1 + dy⟩
noncomputable def shiftG (l : List Rc) (dx dy : Int) : List Rc × Int :=
 if RegP l then
  if (boundsR l).2 = true ∧ ¬ (staysB (boundsR l).1.X0 (boundsR l).1.X1 dx = true ∧ staysB (boundsR l).1.Y0 (boundsR l).1.Y1 dy = true) then ([], 3) else (l.map (mvR dx dy), 0)
 else ([], 1)
theorem rcells_set4 : ∀ (l : List Rc) (j : Nat) (h : j < l.length) (r : Rc), ((((rcells l).set (j * 4) (.int .i64 r.X0)).set (j * 4 + 1) (.int .i64 r.Y0)).set (j * 4 + 2) (.int .i64 r.X1)).set (j * 4 + 3) (.int .i64 r.Y1) = rcells (l.set j r) := by
 intro l
 induction l with
 | nil => intro j h; simp at h
 | cons a l ih =>
  intro j h r
  cases j with
  | zero => rfl
  | succ j =>
   have := ih j (by simpa using h) r
   rw [show (j + 1) * 4 = j * 4 + 1 + 1 + 1 + 1 by omega, show j * 4 + 1 + 1 + 1 + 1 + 1 = (j * 4 + 1) + 1 + 1 + 1 + 1 by omega, show j * 4 + 1 + 1 + 1 + 1 + 2 = (j * 4 + 2) + 1 + 1 + 1 + 1 by omega, show j * 4 + 1 + 1 + 1 + 1 + 3 = (j * 4 + 3) + 1 + 1 + 1 + 1 by omega]
   show _ :: _ :: _ :: _ :: _ = _ :: _ :: _ :: _ :: rcells (l.set j r)
   rw [← this]; rfl
theorem own_put {w : World} {B g n c : Nat} {L : List Rc} (h : w.ownsRow B 68 4 (.slice (some ⟨g, 0, none⟩) n c) n (rcells L)) (k : Nat) (hk : k < L.length) (r : Rc) :
  ((((w.setCell ⟨g, k * 4, none⟩ (.int .i64 r.X0)).setCell ⟨g, k * 4 + 1, none⟩ (.int .i64 r.Y0)).setCell ⟨g, k * 4 + 2, none⟩ (.int .i64 r.X1)).setCell ⟨g, k * 4 + 3, none⟩ (.int .i64 r.Y1)).ownsRow B 68 4 (.slice (some ⟨g, 0, none⟩) n c) n (rcells (L.set k r)) := by
 rw [← rcells_set4 L k hk r]
 exact ((((h.stored _ _).1.stored _ _).1.stored _ _).1.stored _ _).1
def ShAt (B g n : Nat) (L : List Rc) (w0 w : World) : Prop := w.ownsRow B 68 4 (.slice (some ⟨g, 0, none⟩) n n) n (rcells L) ∧ Below B w0 w ∧ B ≤ g
theorem ShAt.put {B g n : Nat} {L : List Rc} {w0 w : World} (h : ShAt B g n L w0 w) (k : Nat) (hk : k < L.length) (r : Rc) :
  ShAt B g n (L.set k r) w0 ((((w.setCell ⟨g, k * 4, none⟩ (.int .i64 r.X0)).setCell ⟨g, k * 4 + 1, none⟩ (.int .i64 r.Y0)).setCell ⟨g, k * 4 + 2, none⟩ (.int .i64 r.X1)).setCell ⟨g, k * 4 + 3, none⟩ (.int .i64 r.Y1)) :=
 ⟨own_put h.1 k hk r, (((h.2.1.setCell h.2.2 _).setCell h.2.2 _).setCell h.2.2 _).setCell h.2.2 _, h.2.2⟩
theorem ShAt.go {B g n : Nat} {L : List Rc} {w0 w w' : World} (h : ShAt B g n L w0 w) (hb : Below w.heap.size w w') (hB : B ≤ w.heap.size) : ShAt B g n L w0 w' := ⟨own_go h.1 hb, h.2.1.trans (hb.mono hB), h.2.2⟩
end Go.Proofs.YtngddecpfhlilaaGreat
namespace Go.Proofs.YtngddecpfhlilaaGreat
open Go.RowKit
end Go.Proofs.YtngddecpfhlilaaGreat
namespace Go.Proofs.YtngddecpfhlilaaGreat
open Go.RowKit
theorem infoBool : (Tryz.prog.info? 4).map (fun i => (i.zero, i.size, i.bytes)) = some (some (.bool false), 1, 1) := by kernel_rfl
theorem infoRects : (Tryz.prog.info? 30).map (fun i => (i.zero, i.size, i.bytes)) = some (some (.slice none 0 0), 1, 24) := by kernel_rfl
def bcells (l : List Bool) : List Value := l.map Value.bool
def Tx (rb j pb eb : Nat) (u v : Rc) (w0 w : World) : Prop := w.cell? ⟨rb, j, none⟩ = some (.bool false) ∧ w.cell? ⟨pb, 0, none⟩ = some (.int .i64 u.X0) ∧ w.cell? ⟨pb, 1, none⟩ = some (.int .i64 u.Y0) ∧ w.cell? ⟨pb, 2, none⟩ = some (.int .i64 u.X1) ∧ w.cell? ⟨pb, 3, none⟩ = some (.int .i64 u.Y1) ∧ w.cell? ⟨eb, 0, none⟩ = some (.int .i64 v.X0) ∧ w.cell? ⟨eb, 1, none⟩ = some (.int .i64 v.Y0) ∧ w.cell? ⟨eb, 2, none⟩ = some (.int .i64 v.X1) ∧ w.cell? ⟨eb, 3, none⟩ = some (.int .i64 v.Y1) ∧ rb < w.heap.size ∧ pb < w.heap.size ∧ eb < w.heap.size ∧ Hid (Below w0.heap.size w0 w)
theorem Tx.go {rb j pb eb : Nat} {u v : Rc} {w0 w w' : World} (h : Tx rb j pb eb u v w0 w) (hb : Below w.heap.size w w') : Tx rb j pb eb u v w0 w' := by
 obtain ⟨h0, a0, a1, a2, a3, b0, b1, b2, b3, l0, l1, l2, hh⟩ := h
 have c := fun b o (hb2 : b < w.heap.size) => hb.cell (p := ⟨b, o, none⟩) hb2
 exact ⟨(c _ _ l0).trans h0, (c _ _ l1).trans a0, (c _ _ l1).trans a1, (c _ _ l1).trans a2, (c _ _ l1).trans a3, (c _ _ l2).trans b0, (c _ _ l2).trans b1, (c _ _ l2).trans b2, (c _ _ l2).trans b3, Nat.lt_of_lt_of_le l0 hb.size, Nat.lt_of_lt_of_le l1 hb.size, Nat.lt_of_lt_of_le l2 hb.size, Lib.hid (hh.out.trans (hb.mono hh.out.size))⟩
theorem Tx.drewN {rb j pb eb : Nat} {u v : Rc} {w0 w : World} (h : Tx rb j pb eb u v w0 w) (n : Nat) : Tx rb j pb eb u v w0 (w.drewN n) := h.go (below_drewN (Below.refl _ _) n)
structure CO (pb rb n : Nat) (u : Rc) (R : List Bool) (w wr : World) : Prop where
 part : RcAt wr pb u
 flags : wr.ownsRow rb 4 1 (.slice (some ⟨rb, 0, none⟩) n n) n (bcells R)
 grown : w.grownBy wr (some rb)
theorem grown_trans {w w1 w2 : World} {r : Nat} (h : w.grownBy w1 (some r)) (k : w1.grownBy w2 (some r)) : w.grownBy w2 (some r) :=
 ⟨k.os.trans h.os, k.tape.trans h.tape, k.output.trans h.output, Nat.le_trans h.size k.size, fun i hi hne => (k.block i (Nat.lt_of_lt_of_le hi h.size) hne).trans (h.block i hi hne)⟩
theorem grown_below {w w1 w2 : World} {r : Nat} (h : w.grownBy w1 (some r)) (k : Below w1.heap.size w1 w2) : w.grownBy w2 (some r) :=
 grown_trans h ⟨k.os, k.tape, k.output, k.size, fun i hi _ => k.block i hi⟩
theorem CO.go {pb rb n : Nat} {u : Rc} {R : List Bool} {w wr w' : World} (h : CO pb rb n u R w wr) (hb : Below wr.heap.size wr w') : CO pb rb n u R w w' := ⟨h.part.below hb h.part.lt, own_go h.flags hb, grown_below h.grown hb⟩
end Go.Proofs.YtngddecpfhlilaaGreat
namespace Go.Proofs.YtngddecpfhlilaaGreat
open Go.RowKit
end Go.Proofs.YtngddecpfhlilaaGreat
