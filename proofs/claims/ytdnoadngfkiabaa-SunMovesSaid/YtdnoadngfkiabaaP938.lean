/-
  Contracts of the reference of layer 9, 1: Right.
-/
import Derived.Test.YtdnoadngfkiabaaP913
import Derived.Test.YtdnoadngfkiabaaP937
set_option linter.unusedVariables false
set_option maxRecDepth 100000
namespace Go.Proofs.Ytdnoadngfkiabaa
open Go.RowKit

def Rw9 (b o : Nat) (u : Sl) (A : Option Addr) (n c : Nat) (w0 w : World) : Prop := w.cell? ⟨b, o, none⟩ = some (.int .i64 u.z0) ∧ w.cell? ⟨b, o + 1, none⟩ = some (.int .i64 u.z1) ∧ w.cell? ⟨b, o + 2, none⟩ = some (.slice A n c) ∧ b < w.heap.size ∧ Hid (Below w0.heap.size w0 w)
theorem Rw9.go {b o : Nat} {u : Sl} {A : Option Addr} {n c : Nat} {w0 w w' : World} (h : Rw9 b o u A n c w0 w) (hb : Below w.heap.size w w') : Rw9 b o u A n c w0 w' := by
  obtain ⟨h0, h1, h2, h6, h8⟩ := h
  have cp := fun i => hb.cell (p := ⟨b, i, none⟩) h6
  exact ⟨(cp _).trans h0, (cp _).trans h1, (cp _).trans h2, Nat.lt_of_lt_of_le h6 hb.size, Lib.hid (h8.out.trans (hb.mono h8.out.size))⟩
theorem Rw9.drewN {b o : Nat} {u : Sl} {A : Option Addr} {n c : Nat} {w0 w : World} (h : Rw9 b o u A n c w0 w) (k : Nat) : Rw9 b o u A n c w0 (w.drewN k) := h.go (below_drewN (Below.refl _ _) k)
def Sx9 (b o p : Nat) (u v : Sl) (A1 : Option Addr) (n1 c1 : Nat) (A2 : Option Addr) (n2 c2 : Nat) (w0 w : World) : Prop := w.cell? ⟨b, o, none⟩ = some (.int .i64 u.z0) ∧ w.cell? ⟨b, o + 1, none⟩ = some (.int .i64 u.z1) ∧ w.cell? ⟨b, o + 2, none⟩ = some (.slice A1 n1 c1) ∧ w.cell? ⟨b, p, none⟩ = some (.int .i64 v.z0) ∧ w.cell? ⟨b, p + 1, none⟩ = some (.int .i64 v.z1) ∧ w.cell? ⟨b, p + 2, none⟩ = some (.slice A2 n2 c2) ∧ b < w.heap.size ∧ b < w.heap.size ∧ Hid (Below w0.heap.size w0 w)
theorem Sx9.go {b o p : Nat} {u v : Sl} {A1 : Option Addr} {n1 c1 : Nat} {A2 : Option Addr} {n2 c2 : Nat} {w0 w w' : World} (h : Sx9 b o p u v A1 n1 c1 A2 n2 c2 w0 w) (hb : Below w.heap.size w w') : Sx9 b o p u v A1 n1 c1 A2 n2 c2 w0 w' := by
  obtain ⟨h0, h1, h2, h3, h4, h5, h6, h7, h8⟩ := h
  have cp := fun i => hb.cell (p := ⟨b, i, none⟩) h6
  exact ⟨(cp _).trans h0, (cp _).trans h1, (cp _).trans h2, (cp _).trans h3, (cp _).trans h4, (cp _).trans h5, Nat.lt_of_lt_of_le h6 hb.size, Nat.lt_of_lt_of_le h7 hb.size, Lib.hid (h8.out.trans (hb.mono h8.out.size))⟩
theorem Sx9.drewN {b o p : Nat} {u v : Sl} {A1 : Option Addr} {n1 c1 : Nat} {A2 : Option Addr} {n2 c2 : Nat} {w0 w : World} (h : Sx9 b o p u v A1 n1 c1 A2 n2 c2 w0 w) (k : Nat) : Sx9 b o p u v A1 n1 c1 A2 n2 c2 w0 (w.drewN k) := h.go (below_drewN (Below.refl _ _) k)
end Go.Proofs.Ytdnoadngfkiabaa
