/-
  Contracts of the program's layer 9, 9: Section, Boxes, Same.
-/
import Derived.Test.YtdnoadngfkiabaaP916
import Derived.Test.YtdnoadngfkiabaaP923
set_option linter.unusedVariables false
set_option maxRecDepth 100000
namespace Go.Proofs.Ytdnoadngfkiabaa
open Go.RowKit

/-! ### Boxes -/
/-! ### Same -/
/-! ### the reference's Same -/
/-- a slab in each of two rows. -/
def Sx (p i b o : Nat) (u v : Sl) (A1 : Option Addr) (c1 : Nat) (A2 : Option Addr) (c2 : Nat) (w0 w : World) : Prop := w.cell? ⟨p, i, none⟩ = some (.int .i64 u.z0) ∧ w.cell? ⟨p, i + 1, none⟩ = some (.int .i64 u.z1) ∧ w.cell? ⟨p, i + 2, none⟩ = some (.slice A1 u.ar.length c1) ∧ w.cell? ⟨b, o, none⟩ = some (.int .i64 v.z0) ∧ w.cell? ⟨b, o + 1, none⟩ = some (.int .i64 v.z1) ∧ w.cell? ⟨b, o + 2, none⟩ = some (.slice A2 v.ar.length c2) ∧ p < w.heap.size ∧ b < w.heap.size ∧ Hid (Below w0.heap.size w0 w)
theorem Sx.go {p i b o : Nat} {u v : Sl} {A1 : Option Addr} {c1 : Nat} {A2 : Option Addr} {c2 : Nat} {w0 w w' : World} (h : Sx p i b o u v A1 c1 A2 c2 w0 w) (hb : Below w.heap.size w w') : Sx p i b o u v A1 c1 A2 c2 w0 w' := by
  obtain ⟨h0, h1, h2, h3, h4, h5, h6, h7, h8⟩ := h
  have cp := fun j => hb.cell (p := ⟨p, j, none⟩) h6
  have cb := fun j => hb.cell (p := ⟨b, j, none⟩) h7
  exact ⟨(cp _).trans h0, (cp _).trans h1, (cp _).trans h2, (cb _).trans h3, (cb _).trans h4, (cb _).trans h5, Nat.lt_of_lt_of_le h6 hb.size, Nat.lt_of_lt_of_le h7 hb.size, Lib.hid (h8.out.trans (hb.mono h8.out.size))⟩
theorem Sx.drewN {p i b o : Nat} {u v : Sl} {A1 : Option Addr} {c1 : Nat} {A2 : Option Addr} {c2 : Nat} {w0 w : World} (h : Sx p i b o u v A1 c1 A2 c2 w0 w) (n : Nat) : Sx p i b o u v A1 c1 A2 c2 w0 (w.drewN n) := h.go (below_drewN (Below.refl _ _) n)
end Go.Proofs.Ytdnoadngfkiabaa
