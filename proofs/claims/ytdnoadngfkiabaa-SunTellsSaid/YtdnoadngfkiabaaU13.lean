/-
  Contracts of the program's layer 6 (10): form.
-/
import Derived.Test.YtdnoadngfkiabaaU12
import Derived.IntWalk
import Derived.BigQuiet
import Derived.Deep.RegionHeld3
import Derived.Deep.AppendLies
set_option linter.unusedVariables false
set_option maxRecDepth 100000
namespace Go.Proofs.Ytdnoadngfkiabaa
open Go.RowKit

/-- what the region of a round reads. -/
def Gx (gs i1 i2 : Nat) (x y : Int) (w0 w : World) : Prop := w.cell? ⟨gs, i1, none⟩ = some (.int .i64 x) ∧ w.cell? ⟨gs, i2, none⟩ = some (.int .i64 y) ∧ gs < w0.heap.size ∧ Hid (Below w0.heap.size w0 w)
theorem Gx.go {gs i1 i2 : Nat} {x y : Int} {w0 w w' : World} (h : Gx gs i1 i2 x y w0 w) (hb : Below w0.heap.size w w') : Gx gs i1 i2 x y w0 w' := by
  obtain ⟨h0, h1, h2, h4⟩ := h
  exact ⟨(hb.cell (p := ⟨gs, i1, none⟩) h2).trans h0, (hb.cell (p := ⟨gs, i2, none⟩) h2).trans h1, h2, Lib.hid (h4.out.trans hb)⟩
theorem Gx.drewN {gs i1 i2 : Nat} {x y : Int} {w0 w : World} (h : Gx gs i1 i2 x y w0 w) (n : Nat) : Gx gs i1 i2 x y w0 (w.drewN n) := h.go (below_drewN (Below.refl _ _) n)
theorem EdRow.mono {w : World} {B B' : Nat} {A : Option Addr} {E : List Ed} (h : EdRow w B A E) (hB : B ≤ B') : EdRow w B' A E := fun h0 => by
  obtain ⟨b, off, rfl, h1, h2, h3⟩ := h h0
  exact ⟨b, off, rfl, by omega, h2, h3⟩
end Go.Proofs.Ytdnoadngfkiabaa
