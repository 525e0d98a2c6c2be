/-
  Contracts of the reference of layer 9: Boxes.
-/
import Derived.Test.YtdnoadngfkiabaaP916
import Derived.Test.YtdnoadngfkiabaaP938
import Derived.Deep.AppendLies
set_option linter.unusedVariables false
set_option maxRecDepth 100000
namespace Go.Proofs.Ytdnoadngfkiabaa
open Go.RowKit

/-- what the region of a round reads: a slab in one row, a rectangle in another one. -/
def Rb9 (b o : Nat) (u : Sl) (A : Option Addr) (n c b2 o2 : Nat) (r : Rc) (w : World) : Prop := w.cell? ⟨b, o, none⟩ = some (.int .i64 u.z0) ∧ w.cell? ⟨b, o + 1, none⟩ = some (.int .i64 u.z1) ∧ w.cell? ⟨b, o + 2, none⟩ = some (.slice A n c) ∧ w.cell? ⟨b2, o2, none⟩ = some (.int .i64 r.X0) ∧ w.cell? ⟨b2, o2 + 1, none⟩ = some (.int .i64 r.Y0) ∧ w.cell? ⟨b2, o2 + 2, none⟩ = some (.int .i64 r.X1) ∧ w.cell? ⟨b2, o2 + 3, none⟩ = some (.int .i64 r.Y1) ∧ b < w.heap.size ∧ b2 < w.heap.size
theorem Rb9.go {b o : Nat} {u : Sl} {A : Option Addr} {n c b2 o2 : Nat} {r : Rc} {w w' : World} (h : Rb9 b o u A n c b2 o2 r w) (hb : Below w.heap.size w w') : Rb9 b o u A n c b2 o2 r w' := by
  obtain ⟨h0, h1, h2, h3, h4, h5, h6, l0, l1⟩ := h
  have c0 := fun i => hb.cell (p := ⟨b, i, none⟩) l0
  have c1 := fun i => hb.cell (p := ⟨b2, i, none⟩) l1
  exact ⟨(c0 _).trans h0, (c0 _).trans h1, (c0 _).trans h2, (c1 _).trans h3, (c1 _).trans h4, (c1 _).trans h5, (c1 _).trans h6, Nat.lt_of_lt_of_le l0 hb.size, Nat.lt_of_lt_of_le l1 hb.size⟩
theorem Rb9.drewN {b o : Nat} {u : Sl} {A : Option Addr} {n c b2 o2 : Nat} {r : Rc} {w : World} (h : Rb9 b o u A n c b2 o2 r w) (k : Nat) : Rb9 b o u A n c b2 o2 r (w.drewN k) := h.go (below_drewN (Below.refl _ _) k)
theorem Rb9.grow {b o : Nat} {u : Sl} {A : Option Addr} {n c b2 o2 : Nat} {r : Rc} {w w' : World} {row : Option Nat} (h : Rb9 b o u A n c b2 o2 r w) (hg : w.grownBy w' row) (hn : ∀ g, row = some g → g ≠ b ∧ g ≠ b2) : Rb9 b o u A n c b2 o2 r w' := by
  obtain ⟨h0, h1, h2, h3, h4, h5, h6, l0, l1⟩ := h
  have c0 : ∀ i, w'.cell? ⟨b, i, none⟩ = w.cell? ⟨b, i, none⟩ := fun i => World.cell?_of_block (hg.block b l0 (fun e => (hn b e.symm).1 rfl))
  have c1 : ∀ i, w'.cell? ⟨b2, i, none⟩ = w.cell? ⟨b2, i, none⟩ := fun i => World.cell?_of_block (hg.block b2 l1 (fun e => (hn b2 e.symm).2 rfl))
  exact ⟨(c0 _).trans h0, (c0 _).trans h1, (c0 _).trans h2, (c1 _).trans h3, (c1 _).trans h4, (c1 _).trans h5, (c1 _).trans h6, Nat.lt_of_lt_of_le l0 hg.size, Nat.lt_of_lt_of_le l1 hg.size⟩
theorem QW.go {v : Value} {F : List Bx} {w wr w' : World} (h : QW v F w wr) (hb : Below wr.heap.size wr w') : QW v F w w' := ⟨own_go h.own hb, h.bel.trans (hb.mono h.bel.size)⟩
end Go.Proofs.Ytdnoadngfkiabaa
