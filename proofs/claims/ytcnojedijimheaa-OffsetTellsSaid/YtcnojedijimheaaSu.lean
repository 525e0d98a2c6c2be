/-
  From what is handed in to what OffsetNear's walk asks: a list of lists of rectangles.
-/
import Derived.Test.YtcnojedijimheaaHy
import Derived.Test.YtcnojedijimheaaSt
set_option linter.unusedVariables false
set_option maxRecDepth 100000
namespace Go.Proofs.Ytcnojedijimheaa
open Go.RowKit Go.ChangeShapes Go.WideShapes Go.ChangeAt Go.Joins Go.Deep

theorem bounds_u8 {n : Int} (h : (Lit.int .u8 n).wf = true) : 0 ≤ n ∧ n ≤ 255 := by
  simp [Lit.wf, IntKind.min, IntKind.max, IntKind.signed, IntKind.bits] at h
  exact h
theorem cellsRects : Try.prog.cellsOf 22 = 1 := by kernel_rfl
section
variable {H : Type} {enc : TypeId × Value → H} {w : World} {held : Bool}
theorem open_row {cs : List Value} {n : Nat} {x : DataW H × List MemPlace} (hf : DataW.trod enc Try.prog w 0 (fun _ => true) held n 22 cs = some x) :
    ∃ (A : Option Addr) (c : Nat) (l : List Rc), cs = [.slice A l.length c] ∧ RRow w A l ∧ l.length ≤ c ∧ c ≤ 9223372036854775807 := by
  rcases open_slice Try.underlying22 hf with ⟨rfl, _⟩ | ⟨a, len, cap, m, n, D, Pl, rfl, _, hl, hm, hmm, _, hi⟩
  · exact ⟨none, 0, [], rfl, (fun h => absurd h (by simp)), by simp, by omega⟩
  · simp at hmm
    subst hmm
    rw [cellsRect] at hi
    obtain ⟨l, hll, hp⟩ := list_of (P := fun i (x : Rc) => InR x ∧ ∀ j u, [Value.int .i64 x.X0, .int .i64 x.Y0, .int .i64 x.X1, .int .i64 x.Y1][j]? = some u → w.cell? ((a.add (i * 4)).add j) = some u) len (fun i hlt => by
        obtain ⟨cs', hc, ht⟩ := hi i (by omega)
        exact each_rect hc ht)
    refine ⟨some a, m, l, by rw [hll], fun hn => ?_, by omega, by unfold maxLen at hm; omega⟩
    obtain ⟨b, off, spot⟩ := a
    obtain ⟨_, hc0⟩ := hp 0 hn
    have h0 := hc0 0 _ rfl
    have hspot : spot = none := by simpa [Addr.add] using World.cell?_spot h0
    subst hspot
    refine ⟨b, off, rfl, ?_, fun j hj => ?_⟩
    · have := World.block_lt_of_cell? w _ h0
      rw [add_at, add_at] at this
      exact this
    · obtain ⟨_, hc⟩ := hp j hj
      have hcc : ∀ q u, [Value.int .i64 l[j].X0, .int .i64 l[j].Y0, .int .i64 l[j].X1, .int .i64 l[j].Y1][q]? = some u → w.cell? ⟨b, off + j * 4 + q, none⟩ = some u := fun q u hu => by
        have := hc q u hu
        rw [add_at, add_at] at this
        exact this
      exact ⟨hcc 0 _ rfl, hcc 1 _ rfl, hcc 2 _ rfl, hcc 3 _ rfl⟩
theorem open_rectss {v : Value} {d : DataW H} {p : List MemPlace} {r : Reach} {b0 : Nat} (hv : Value.okWide Try.prog w r b0 29 v) (h : DataW.Trod enc Try.prog w 0 (fun _ => true) held 29 v d p) :
    ∃ (A : Option Addr) (c : Nat) (LL : List (List Rc)), v = .slice A LL.length c ∧ LIn0 w A LL ∧ LL.length ≤ 9223372036854775807 := by
  obtain ⟨a0, len0, cap0, rfl⟩ := okWide_slice Try.underlying29 hv
  obtain ⟨fuel, hf⟩ := h
  rcases open_slice Try.underlying29 hf with ⟨hcs, _⟩ | ⟨a, len, cap, m, n, D, Pl, hcs, _, hl, hm, hmm, _, hi⟩
  · simp [Value.cells] at hcs
    obtain ⟨rfl, rfl, rfl⟩ := hcs
    exact ⟨none, 0, [], rfl, (fun h => absurd h (by simp)), by simp⟩
  · simp [Value.cells] at hcs
    obtain ⟨rfl, rfl, rfl⟩ := hcs
    simp at hmm
    subst hmm
    rw [cellsRects] at hi
    obtain ⟨LL, hll, hp⟩ := list_of (P := fun i (l : List Rc) => ∃ Aj cj, w.cell? ((a.add (i * 1)).add 0) = some (.slice Aj l.length cj) ∧ RRow w Aj l ∧ l.length ≤ cj ∧ cj ≤ 9223372036854775807) len0 (fun i hlt => by
        obtain ⟨cs', hc, ht⟩ := hi i (by omega)
        obtain ⟨A, c, l, rfl, h1, h2, h3⟩ := open_row ht
        obtain ⟨_, _, hat⟩ := World.cells?_some hc
        exact ⟨l, A, c, hat 0 (by omega), h1, h2, h3⟩)
    refine ⟨some a, m, LL, by rw [hll], fun hn => ?_, by unfold maxLen at hm; omega⟩
    obtain ⟨b, off, spot⟩ := a
    obtain ⟨_, _, h0, _⟩ := hp 0 hn
    have hspot : spot = none := by simpa [Addr.add] using World.cell?_spot h0
    subst hspot
    refine ⟨b, off, rfl, ?_, fun j hj => ?_⟩
    · have := World.block_lt_of_cell? w _ h0
      rw [add_at, add_at] at this
      exact this
    · obtain ⟨Aj, cj, h1, h2⟩ := hp j hj
      rw [add_at, add_at] at h1
      exact ⟨Aj, cj, by simpa using h1, h2⟩
end
end Go.Proofs.Ytcnojedijimheaa
