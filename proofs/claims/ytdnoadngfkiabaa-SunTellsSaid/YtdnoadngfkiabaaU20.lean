/-
  Contracts of the program's layer 9, 4: the closures of Of and both; join.
  Contracts of the program's layer 9, 5: join.
-/
import Derived.Test.YtdnoadngfkiabaaU19
import Derived.Test.YtdnoadngfkiabaaU18
import Derived.Deep.AppendLies
set_option linter.unusedVariables false
set_option maxRecDepth 100000
namespace Go.Proofs.Ytdnoadngfkiabaa
open Go.RowKit

/-! ### both's closure -/
def Zx (bo ba bb K : Nat) (A1 : Option Addr) (n1 c1 : Nat) (A2 : Option Addr) (n2 c2 : Nat) (w0 w : World) : Prop := w.cell? ⟨bo, 0, none⟩ = some (.func (.func K) #[] #[]) ∧ w.cell? ⟨ba, 0, none⟩ = some (.slice A1 n1 c1) ∧ w.cell? ⟨bb, 0, none⟩ = some (.slice A2 n2 c2) ∧ bo < w.heap.size ∧ ba < w.heap.size ∧ bb < w.heap.size ∧ Hid (Below w0.heap.size w0 w)
theorem Zx.go {bo ba bb K : Nat} {A1 : Option Addr} {n1 c1 : Nat} {A2 : Option Addr} {n2 c2 : Nat} {w0 w w' : World} (h : Zx bo ba bb K A1 n1 c1 A2 n2 c2 w0 w) (hb : Below w.heap.size w w') : Zx bo ba bb K A1 n1 c1 A2 n2 c2 w0 w' := by
  obtain ⟨h0, h1, h2, h3, h4, h5, h8⟩ := h
  exact ⟨(hb.cell (p := ⟨bo, 0, none⟩) h3).trans h0, (hb.cell (p := ⟨ba, 0, none⟩) h4).trans h1, (hb.cell (p := ⟨bb, 0, none⟩) h5).trans h2, Nat.lt_of_lt_of_le h3 hb.size, Nat.lt_of_lt_of_le h4 hb.size, Nat.lt_of_lt_of_le h5 hb.size, Lib.hid (h8.out.trans (hb.mono h8.out.size))⟩
theorem Zx.drewN {bo ba bb K : Nat} {A1 : Option Addr} {n1 c1 : Nat} {A2 : Option Addr} {n2 c2 : Nat} {w0 w : World} (h : Zx bo ba bb K A1 n1 c1 A2 n2 c2 w0 w) (n : Nat) : Zx bo ba bb K A1 n1 c1 A2 n2 c2 w0 (w.drewN n) := h.go (below_drewN (Below.refl _ _) n)
end Go.Proofs.Ytdnoadngfkiabaa
namespace Go.Proofs.Ytdnoadngfkiabaa
open Go.RowKit

/-- the last slab of the row, the next one at a block. -/
def Jy (p g o : Nat) (u v : SlV) (w0 w : World) : Prop := w.cell? ⟨p, 0, none⟩ = some (.int .i64 u.s.z0) ∧ w.cell? ⟨p, 1, none⟩ = some (.int .i64 u.s.z1) ∧ w.cell? ⟨p, 2, none⟩ = some (.slice u.A u.s.ar.length u.c) ∧ w.cell? ⟨g, o, none⟩ = some (.int .i64 v.s.z0) ∧ w.cell? ⟨g, o + 1, none⟩ = some (.int .i64 v.s.z1) ∧ w.cell? ⟨g, o + 2, none⟩ = some (.slice v.A v.s.ar.length v.c) ∧ p < w.heap.size ∧ g < w.heap.size ∧ Hid (Below w0.heap.size w0 w)
theorem Jy.go {p g o : Nat} {u v : SlV} {w0 w w' : World} (h : Jy p g o u v w0 w) (hb : Below w.heap.size w w') : Jy p g o u v w0 w' := by
  obtain ⟨h0, h1, h2, h3, h4, h5, h6, h7, h8⟩ := h
  have cp := fun i => hb.cell (p := ⟨p, i, none⟩) h6
  have cb := fun i => hb.cell (p := ⟨g, i, none⟩) h7
  exact ⟨(cp _).trans h0, (cp _).trans h1, (cp _).trans h2, (cb _).trans h3, (cb _).trans h4, (cb _).trans h5, Nat.lt_of_lt_of_le h6 hb.size, Nat.lt_of_lt_of_le h7 hb.size, Lib.hid (h8.out.trans (hb.mono h8.out.size))⟩
theorem Jy.drewN {p g o : Nat} {u v : SlV} {w0 w : World} (h : Jy p g o u v w0 w) (n : Nat) : Jy p g o u v w0 (w.drewN n) := h.go (below_drewN (Below.refl _ _) n)
theorem SlAt.froz {w : World} {p : Nat} {u : Sl} {A : Option Addr} {c : Nat} (h : SlAt w p u A c) (i : Nat) : w.frozen? ⟨p, i, none⟩ = false := Lib.frozen_of_heap h i
end Go.Proofs.Ytdnoadngfkiabaa
