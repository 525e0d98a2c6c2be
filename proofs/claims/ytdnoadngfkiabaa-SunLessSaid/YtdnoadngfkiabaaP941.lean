/-
  Layer 12: contracts of the reference of the sun: Right, Count, may, mask, Mask, Hours, MaskOf, Lost.
-/
import Derived.Test.YtdnoadngfkiabaaP932
import Derived.Test.YtdnoadngfkiabaaP940
import Derived.Test.YtdnoadngfkiabaaP938
set_option linter.unusedVariables false
set_option maxRecDepth 100000
namespace Go.Proofs.Ytdnoadngfkiabaa
open Go.RowKit


/-! ### Count -/
/-! ### may -/
theorem solP_nil : SolP [] := by
  have h := solB_small (l := []) (fun b hb => by cases hb) (by simp)
  exact h
noncomputable def mayB (T : List V3) (S : List Sl) (p : V3) : Bool := decide (TabOk T) && (solPB S && decide (PtOk p))
/-! ### mask -/
/-- what a region reads: a point, a direction. -/
def Ph12 (g b i : Nat) (p u : V3) (w0 w' : World) : Prop := w'.cell? ⟨g, 0, none⟩ = some (.int .i64 p.x) ∧ w'.cell? ⟨g, 1, none⟩ = some (.int .i64 p.y) ∧ w'.cell? ⟨g, 2, none⟩ = some (.int .i64 p.z) ∧ w'.cell? ⟨b, i, none⟩ = some (.int .i64 u.x) ∧ w'.cell? ⟨b, i + 1, none⟩ = some (.int .i64 u.y) ∧ w'.cell? ⟨b, i + 2, none⟩ = some (.int .i64 u.z) ∧ g < w'.heap.size ∧ b < w'.heap.size ∧ Hid (Below w0.heap.size w0 w')
theorem Ph12.bel {g b i : Nat} {p u : V3} {w0 w : World} (h : Ph12 g b i p u w0 w) : Below w0.heap.size w0 w := h.2.2.2.2.2.2.2.2.out
theorem Ph12.go {g b i : Nat} {p u : V3} {w0 w w' : World} (h : Ph12 g b i p u w0 w) (hb : Below w.heap.size w w') : Ph12 g b i p u w0 w' := by
  obtain ⟨a0, a1, a2, b0, b1, b2, l0, l1, h8⟩ := h
  have x := fun k => hb.cell (p := ⟨g, k, none⟩) l0
  have y := fun k => hb.cell (p := ⟨b, k, none⟩) l1
  exact ⟨(x _).trans a0, (x _).trans a1, (x _).trans a2, (y _).trans b0, (y _).trans b1, (y _).trans b2, Nat.lt_of_lt_of_le l0 hb.size, Nat.lt_of_lt_of_le l1 hb.size, Lib.hid (h8.out.trans (hb.mono h8.out.size))⟩
theorem Ph12.drewN {g b i : Nat} {p u : V3} {w0 w : World} (h : Ph12 g b i p u w0 w) (k : Nat) : Ph12 g b i p u w0 (w.drewN k) := h.go (below_drewN (Below.refl _ _) k)

/-! ### Mask, Hours -/
/-! ### Lost -/
/-! ### MaskOf -/
/-- what a region reads: a point, a solid. -/
def Pi12 (g b i : Nat) (p : V3) (A : Option Addr) (n c : Nat) (w0 w' : World) : Prop := w'.cell? ⟨g, 0, none⟩ = some (.int .i64 p.x) ∧ w'.cell? ⟨g, 1, none⟩ = some (.int .i64 p.y) ∧ w'.cell? ⟨g, 2, none⟩ = some (.int .i64 p.z) ∧ w'.cell? ⟨b, i, none⟩ = some (.slice A n c) ∧ g < w'.heap.size ∧ b < w'.heap.size ∧ Hid (Below w0.heap.size w0 w')
theorem Pi12.bel {g b i : Nat} {p : V3} {A : Option Addr} {n c : Nat} {w0 w : World} (h : Pi12 g b i p A n c w0 w) : Below w0.heap.size w0 w := h.2.2.2.2.2.2.out
theorem Pi12.go {g b i : Nat} {p : V3} {A : Option Addr} {n c : Nat} {w0 w w' : World} (h : Pi12 g b i p A n c w0 w) (hb : Below w.heap.size w w') : Pi12 g b i p A n c w0 w' := by
  obtain ⟨a0, a1, a2, b0, l0, l1, h8⟩ := h
  have x := fun k => hb.cell (p := ⟨g, k, none⟩) l0
  exact ⟨(x _).trans a0, (x _).trans a1, (x _).trans a2, (hb.cell (p := ⟨b, i, none⟩) l1).trans b0, Nat.lt_of_lt_of_le l0 hb.size, Nat.lt_of_lt_of_le l1 hb.size, Lib.hid (h8.out.trans (hb.mono h8.out.size))⟩
theorem Pi12.drewN {g b i : Nat} {p : V3} {A : Option Addr} {n c : Nat} {w0 w : World} (h : Pi12 g b i p A n c w0 w) (k : Nat) : Pi12 g b i p A n c w0 (w.drewN k) := h.go (below_drewN (Below.refl _ _) k)
end Go.Proofs.Ytdnoadngfkiabaa
