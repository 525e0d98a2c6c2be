/-
  Contracts of the reference of layer 6 (4): edges.
-/
import Derived.Test.YtdnoadngfkiabaaP905
import Derived.BigQuiet
import Derived.Deep.AppendLies
import Derived.Deep.RegionHeld3
set_option linter.unusedVariables false
set_option maxRecDepth 100000
namespace Go.Proofs.Ytdnoadngfkiabaa
open Go.RowKit

/-- what the region of a round reads. -/
def R2 (b p q : Nat) (xa xb : Int) (w : World) : Prop := w.cell? ⟨b, p, none⟩ = some (.int .i64 xa) ∧ w.cell? ⟨b, q, none⟩ = some (.int .i64 xb) ∧ b < w.heap.size
theorem R2.go {b p q : Nat} {xa xb : Int} {w w' : World} (h : R2 b p q xa xb w) (hb : Below w.heap.size w w') : R2 b p q xa xb w' := by
  obtain ⟨h0, h1, l0⟩ := h
  exact ⟨(hb.cell (p := ⟨b, p, none⟩) l0).trans h0, (hb.cell (p := ⟨b, q, none⟩) l0).trans h1, Nat.lt_of_lt_of_le l0 hb.size⟩
theorem R2.drewN {b p q : Nat} {xa xb : Int} {w : World} (h : R2 b p q xa xb w) (n : Nat) : R2 b p q xa xb (w.drewN n) := h.go (below_drewN (Below.refl _ _) n)
theorem R2.grow {b p q : Nat} {xa xb : Int} {w w' : World} {row : Option Nat} (h : R2 b p q xa xb w) (hg : w.grownBy w' row) (hn : ∀ g, row = some g → g ≠ b) : R2 b p q xa xb w' := by
  obtain ⟨h0, h1, l0⟩ := h
  have e0 : ∀ o, w'.cell? ⟨b, o, none⟩ = w.cell? ⟨b, o, none⟩ := fun o => World.cell?_of_block (hg.block b l0 (fun e => hn b e.symm rfl))
  exact ⟨(e0 _).trans h0, (e0 _).trans h1, Nat.lt_of_lt_of_le l0 hg.size⟩
end Go.Proofs.Ytdnoadngfkiabaa
