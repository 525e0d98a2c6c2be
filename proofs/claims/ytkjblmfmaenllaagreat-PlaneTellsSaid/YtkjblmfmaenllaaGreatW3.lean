/-
  Contracts of the program's layer 6 (13): Has, with slices.ContainsFunc and slices.IndexFunc at its closure.
  Contracts of the program's layer 9, 3: Has, Volume, Section, Same.
-/
import Derived.Test.YtkjblmfmaenllaaGreatW0
import Derived.Test.YtkjblmfmaenllaaGreatRq
import Derived.Test.YtkjblmfmaenllaaGreatW2
import Derived.Shelf.Abstract
set_option linter.unusedVariables false
set_option maxRecDepth 100000
namespace Go.Proofs.YtkjblmfmaenllaaGreat
open Go.RowKit

end Go.Proofs.YtkjblmfmaenllaaGreat
namespace Go.Proofs.YtkjblmfmaenllaaGreat
open Go.RowKit

theorem bright_yes {A : Option Addr} {cap : Nat} {S : List Sl} {w : World} (h : SIn w A cap S) (hs : SolP S) : Calls Tryz.prog 35 #[.slice A S.length cap] w (BlIs true w) :=
  (bright_any A cap S w h).mono fun e w' ⟨b, hb, h'⟩ => by obtain rfl := hb.2 hs; exact h'
theorem bright_no {A : Option Addr} {cap : Nat} {S : List Sl} {w : World} (h : SIn w A cap S) (hs : ¬ SolP S) : Calls Tryz.prog 35 #[.slice A S.length cap] w (BlIs false w) :=
  (bright_any A cap S w h).mono fun e w' ⟨b, hb, h'⟩ => by
    cases b with
    | false => exact h'
    | true => exact absurd (hb.1 rfl) hs
/-! ### the volume -/
def Vx (p : Nat) (u : Sl) (A : Option Addr) (c : Nat) (w0 w : World) : Prop := w.cell? ⟨p, 0, none⟩ = some (.int .i64 u.z0) ∧ w.cell? ⟨p, 1, none⟩ = some (.int .i64 u.z1) ∧ w.cell? ⟨p, 2, none⟩ = some (.slice A u.ar.length c) ∧ p < w.heap.size ∧ Hid (Below w0.heap.size w0 w)
theorem Vx.go {p : Nat} {u : Sl} {A : Option Addr} {c : Nat} {w0 w w' : World} (h : Vx p u A c w0 w) (hb : Below w.heap.size w w') : Vx p u A c w0 w' := by
  obtain ⟨h0, h1, h2, h6, h8⟩ := h
  have cp := fun i => hb.cell (p := ⟨p, i, none⟩) h6
  exact ⟨(cp _).trans h0, (cp _).trans h1, (cp _).trans h2, Nat.lt_of_lt_of_le h6 hb.size, Lib.hid (h8.out.trans (hb.mono h8.out.size))⟩
theorem Vx.drewN {p : Nat} {u : Sl} {A : Option Addr} {c : Nat} {w0 w : World} (h : Vx p u A c w0 w) (n : Nat) : Vx p u A c w0 (w.drewN n) := h.go (below_drewN (Below.refl _ _) n)
noncomputable def volG (S : List Sl) : Int := @ite _ (SolP S) (Classical.propDecidable _) (volS S) 0
end Go.Proofs.YtkjblmfmaenllaaGreat
