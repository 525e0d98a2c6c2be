/-
  From what is handed in to what the walks ask: a rectangle by value, a list of rectangles.
  From what is handed in to what RegionAlgebra's walk asks: a list of rectangles.
-/
import Derived.Test.YtkjblmfmaenllaaGreatRe
import Derived.Test.YtkjblmfmaenllaaGreatRows
import Derived.ProofKit
import Derived.OpenShut
import Derived.Stop.Joined
import Derived.Carry
import Derived.SliceStrings
import Derived.Lib.SmallJoins
import Derived.ShutString
import Derived.ChangeOld
set_option linter.unusedVariables false
set_option maxRecDepth 100000
namespace Go.Proofs.YtkjblmfmaenllaaGreat
open Go.RowKit Go.ChangeShapes Go.WideShapes Go.ChangeAt Go.Joins Go.Deep

theorem own : ownKnob Tryz.prog.godebug = none := by kernel_rfl
theorem laidOut : laidOutB Tryz.prog = true := by kernel_rfl
theorem cellsRect : Tryz.prog.cellsOf 33 = 4 := by kernel_rfl
theorem bounds_i64 {n : Int} (h : (Lit.int .i64 n).wf = true) : In64 n := by
  simp [Lit.wf, IntKind.min, IntKind.max, IntKind.signed, IntKind.bits] at h
  exact h

theorem add_at (b o i : Nat) : (⟨b, o, none⟩ : Addr).add i = ⟨b, o + i, none⟩ := by unfold Addr.add; split <;> simp_all
theorem list_of {α : Type} {P : Nat → α → Prop} : ∀ (n : Nat), (∀ i, i < n → ∃ x, P i x) → ∃ l : List α, l.length = n ∧ ∀ i (h : i < l.length), P i l[i]
  | 0, _ => ⟨[], rfl, fun i h => absurd h (by simp)⟩
  | n + 1, h => by
    obtain ⟨l, hl, hp⟩ := list_of n (fun i hi => h i (by omega))
    obtain ⟨x, hx⟩ := h n (by omega)
    refine ⟨l ++ [x], by simp [hl], fun i hi => ?_⟩
    by_cases e : i < l.length
    · rw [List.getElem_append_left e]; exact hp i e
    · simp only [List.length_append, List.length_cons, List.length_nil] at hi
      obtain rfl : i = n := by omega
      have : (l ++ [x])[i]'(by simp; omega) = x := by rw [List.getElem_append_right (by omega)]; simp [hl]
      rw [this]; exact hx

section
variable {H : Type} {enc : TypeId × Value → H} {w : World} {held : Bool}

theorem open_rect {v : Value} {d : DataW H} {p : List MemPlace} {r : Reach} {b0 : Nat} (hv : Value.okWide Tryz.prog w r b0 33 v) (h : DataW.Trod enc Tryz.prog w 0 (fun _ => true) held 33 v d p) :
    ∃ x : Rc, v = .agg #[.int .i64 x.X0, .int .i64 x.Y0, .int .i64 x.X1, .int .i64 x.Y1] ∧ InR x := by
  obtain ⟨v0, v1, v2, v3, y0, y1, y2, y3, n, rfl, _, _, h0, h1, h2, h3⟩ := open_agg4 Tryz.underlying33 (by kernel_rfl) cellsRect hv h
  obtain ⟨A, hA, _, wA⟩ := DataW.trod_int Tryz.underlying3 h0
  obtain ⟨B, hB, _, wB⟩ := DataW.trod_int Tryz.underlying3 h1
  obtain ⟨C, hC, _, wC⟩ := DataW.trod_int Tryz.underlying3 h2
  obtain ⟨D, hD, _, wD⟩ := DataW.trod_int Tryz.underlying3 h3
  obtain rfl : v0 = .int .i64 A := by simpa using hA
  obtain rfl : v1 = .int .i64 B := by simpa using hB
  obtain rfl : v2 = .int .i64 C := by simpa using hC
  obtain rfl : v3 = .int .i64 D := by simpa using hD
  exact ⟨⟨A, B, C, D⟩, rfl, bounds_i64 wA, bounds_i64 wB, bounds_i64 wC, bounds_i64 wD⟩

end
end Go.Proofs.YtkjblmfmaenllaaGreat
namespace Go.Proofs.YtkjblmfmaenllaaGreat
open Go.RowKit Go.ChangeShapes Go.WideShapes Go.ChangeAt Go.Joins Go.Deep

section
variable {H : Type} {enc : TypeId × Value → H} {w : World} {held : Bool}
end
end Go.Proofs.YtkjblmfmaenllaaGreat
