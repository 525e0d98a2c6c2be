/-
  From what is handed in to what the walks ask: a rectangle by value, a list of rectangles.
  From what is handed in to what RegionAlgebra's walk asks: a list of rectangles.
-/
import Derived.Test.YtdnoadngfkiabaaGreatS901
import Derived.Test.YtdnoadngfkiabaaGreatRows
import Derived.ProofKit
import Derived.OpenShut
import Derived.Stop.Joined
import Derived.Carry
import Derived.SliceStrings
import Derived.Lib.SmallJoins
import Derived.ShutString
import Derived.ChangeOld
set_option linter.unusedVariables false
set_option maxRecDepth 100000
namespace Go.Proofs.YtdnoadngfkiabaaGreat
open Go.RowKit Go.ChangeShapes Go.WideShapes Go.ChangeAt Go.Joins Go.Deep

theorem own : ownKnob Tryz.prog.godebug = none := by kernel_rfl
theorem laidOut : laidOutB Tryz.prog = true := by kernel_rfl
theorem cellsRect : Tryz.prog.cellsOf 33 = 4 := by kernel_rfl
theorem bounds_i64 {n : Int} (h : (Lit.int .i64 n).wf = true) : In64 n := by
  simp [Lit.wf, IntKind.min, IntKind.max, IntKind.signed, IntKind.bits] at h
  exact h

theorem add_at (b o i : Nat) : (⟨b, o, none⟩ : Addr).add i = ⟨b, o + i, none⟩ := by unfold Addr.add; split <;> simp_all
theorem list_of {α : Type} {P : Nat → α → Prop} : ∀ (n : Nat), (∀ i, i < n → ∃ x, P i x) → ∃ l : List α, l.length = n ∧ ∀ i (h : i < l.length), P i l[i]
  | 0, _ => ⟨[], rfl, fun i h => absurd h (by simp)⟩
  | n + 1, h => by
    obtain ⟨l, hl, hp⟩ := list_of n (fun i hi => h i (by omega))
    obtain ⟨x, hx⟩ := h n (by omega)
    refine ⟨l ++ [x], by simp [hl], fun i hi => ?_⟩
    by_cases e : i < l.length
    · rw [List.getElem_append_left e]; exact hp i e
    · simp only [List.length_append, List.length_cons, List.length_nil] at hi
      obtain rfl : i = n := by omega
      have : (l ++ [x])[i]'(by simp; omega) = x := by rw [List.getElem_append_right (by omega)]; simp [hl]
      rw [this]; exact hx

section
variable {H : Type} {enc : TypeId × Value → H} {w : World} {held : Bool}

theorem each_rect {a : Addr} {n : Nat} {cs : List Value} {y : DataW H × List MemPlace} (hc : w.cells? 0 a 4 = some cs) (ht : DataW.trod enc Tryz.prog w 0 (fun _ => true) held n 33 cs = some y) :
    ∃ x : Rc, InR x ∧ ∀ j u, [Value.int .i64 x.X0, .int .i64 x.Y0, .int .i64 x.X1, .int .i64 x.Y1][j]? = some u → w.cell? (a.add j) = some u := by
  obtain ⟨ys, n', _, _, hlen, hyl, hf⟩ := DataW.trod_struct Tryz.underlying33 ht
  obtain ⟨_, hcl, hat⟩ := World.cells?_some hc
  match cs, hcl, hat with
  | [c0, c1, c2, c3], _, hat =>
    have e3 : Tryz.prog.cellsOf 3 = 1 := by kernel_rfl
    match ys, hyl, hf with
    | [y0, y1, y2, y3], _, hf =>
      have h0 : DataW.trod enc Tryz.prog w 0 (fun _ => true) held n' 3 [c0] = some y0 := by have := hf 0 _ rfl; simpa [e3] using this
      have h1 : DataW.trod enc Tryz.prog w 0 (fun _ => true) held n' 3 [c1] = some y1 := by have := hf 1 _ rfl; simpa [e3] using this
      have h2 : DataW.trod enc Tryz.prog w 0 (fun _ => true) held n' 3 [c2] = some y2 := by have := hf 2 _ rfl; simpa [e3] using this
      have h3 : DataW.trod enc Tryz.prog w 0 (fun _ => true) held n' 3 [c3] = some y3 := by have := hf 3 _ rfl; simpa [e3] using this
      obtain ⟨A, hA, _, wA⟩ := DataW.trod_int Tryz.underlying3 h0
      obtain ⟨B, hB, _, wB⟩ := DataW.trod_int Tryz.underlying3 h1
      obtain ⟨C, hC, _, wC⟩ := DataW.trod_int Tryz.underlying3 h2
      obtain ⟨D, hD, _, wD⟩ := DataW.trod_int Tryz.underlying3 h3
      obtain rfl : c0 = .int .i64 A := by simpa using hA
      obtain rfl : c1 = .int .i64 B := by simpa using hB
      obtain rfl : c2 = .int .i64 C := by simpa using hC
      obtain rfl : c3 = .int .i64 D := by simpa using hD
      refine ⟨⟨A, B, C, D⟩, ⟨bounds_i64 wA, bounds_i64 wB, bounds_i64 wC, bounds_i64 wD⟩, fun j u hu => ?_⟩
      have hj : j < 4 := by have := (List.getElem?_eq_some_iff.1 hu).1; simpa using this
      rw [hat j hj]; exact hu

end
end Go.Proofs.YtdnoadngfkiabaaGreat
namespace Go.Proofs.YtdnoadngfkiabaaGreat
open Go.RowKit Go.ChangeShapes Go.WideShapes Go.ChangeAt Go.Joins Go.Deep

section
variable {H : Type} {enc : TypeId × Value → H} {w : World} {held : Bool}
end
end Go.Proofs.YtdnoadngfkiabaaGreat
