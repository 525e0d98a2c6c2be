/-
  RegionAlgebra: an append of a slice that was handed in, and what the sets say.
-/
import Derived.Test.YtkjblmfmaenllaaGreatW0
import Derived.Test.YtkjblmfmaenllaaGreatRc
import Derived.Laws.AppendOwnNone
set_option linter.unusedVariables false
set_option maxRecDepth 100000
namespace Go.Proofs.YtkjblmfmaenllaaGreat
open Go.RowKit

/-! ### the sets -/
/-- a set of cells and its form. -/
structure FS (F : List Rc) (S : Int → Int → Prop) : Prop where
  form : IsForm F
  cells : ∀ x y, HasL F x y ↔ S x y
theorem FS.eq {F G : List Rc} {S S' : Int → Int → Prop} (h : FS F S) (k : FS G S') (e : ∀ x y, S x y ↔ S' x y) : F = G := form_eq h.form k.form (fun x y => by rw [h.cells, k.cells, e])
theorem FS.ok {F : List Rc} {S : Int → Int → Prop} (h : FS F S) : ∀ r ∈ F, ROk r := form_ok h.form
theorem cap_le {F : List Rc} (h : F.length ≤ 200) : capR F = (F, 0) := if_pos h
end Go.Proofs.YtkjblmfmaenllaaGreat
