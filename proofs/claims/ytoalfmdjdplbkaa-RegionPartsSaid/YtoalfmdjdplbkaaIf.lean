/-
  From what is handed in to what RegionAlgebra's walk asks: a list of rectangles.
-/
import Derived.Test.YtoalfmdjdplbkaaHy
set_option linter.unusedVariables false
set_option maxRecDepth 100000
namespace Go.Proofs.Ytoalfmdjdplbkaa
open Go.RowKit Go.ChangeShapes Go.WideShapes Go.ChangeAt Go.Joins Go.Deep

section
variable {H : Type} {enc : TypeId × Value → H} {w : World} {held : Bool}
theorem open_rects2 {v : Value} {d : DataW H} {p : List MemPlace} {r : Reach} {b0 : Nat} (hv : Value.okWide Try.prog w r b0 22 v) (h : DataW.Trod enc Try.prog w 0 (fun _ => true) held 22 v d p) :
    ∃ (A : Option Addr) (c : Nat) (l : List Rc), v = .slice A l.length c ∧ RRow w A l ∧ (∀ x ∈ l, InR x) ∧ l.length ≤ 9223372036854775807 ∧ l.length ≤ c ∧ c ≤ 9223372036854775807 ∧ (A = none → c = 0) := by
  obtain ⟨a0, len0, cap0, rfl⟩ := okWide_slice Try.underlying22 hv
  obtain ⟨fuel, hf⟩ := h
  rcases open_slice Try.underlying22 hf with ⟨hcs, _⟩ | ⟨a, len, cap, m, n, D, Pl, hcs, _, hl, hm, hmm, _, hi⟩
  · simp [Value.cells] at hcs
    obtain ⟨rfl, rfl, rfl⟩ := hcs
    exact ⟨none, 0, [], rfl, (fun h => absurd h (by simp)), (fun x hx => nomatch hx), by simp, by simp, by omega, fun _ => rfl⟩
  · simp [Value.cells] at hcs
    obtain ⟨rfl, rfl, rfl⟩ := hcs
    simp at hmm
    subst hmm
    rw [cellsRect] at hi
    obtain ⟨l, hll, hp⟩ := list_of (P := fun i (x : Rc) => InR x ∧ ∀ j u, [Value.int .i64 x.X0, .int .i64 x.Y0, .int .i64 x.X1, .int .i64 x.Y1][j]? = some u → w.cell? ((a.add (i * 4)).add j) = some u) len0 (fun i hlt => by
        obtain ⟨cs', hc, ht⟩ := hi i (by omega)
        exact each_rect hc ht)
    refine ⟨some a, m, l, by rw [hll], fun hn => ?_, fun x hx => ?_, by unfold maxLen at hm; omega, by omega, by unfold maxLen at hm; omega, fun h => by cases h⟩
    · obtain ⟨b, off, spot⟩ := a
      obtain ⟨_, hc0⟩ := hp 0 hn
      have h0 := hc0 0 _ rfl
      have hspot : spot = none := by simpa [Addr.add] using World.cell?_spot h0
      subst hspot
      refine ⟨b, off, rfl, ?_, fun j hj => ?_⟩
      · have := World.block_lt_of_cell? w _ h0
        rw [add_at, add_at] at this
        exact this
      · obtain ⟨_, hc⟩ := hp j hj
        have hcc : ∀ q u, [Value.int .i64 l[j].X0, .int .i64 l[j].Y0, .int .i64 l[j].X1, .int .i64 l[j].Y1][q]? = some u → w.cell? ⟨b, off + j * 4 + q, none⟩ = some u := fun q u hu => by
          have := hc q u hu
          rw [add_at, add_at] at this
          exact this
        exact ⟨hcc 0 _ rfl, hcc 1 _ rfl, hcc 2 _ rfl, hcc 3 _ rfl⟩
    · obtain ⟨i, hi2, rfl⟩ := List.getElem_of_mem hx
      obtain ⟨hok, _⟩ := hp i hi2
      exact hok
end
end Go.Proofs.Ytoalfmdjdplbkaa
