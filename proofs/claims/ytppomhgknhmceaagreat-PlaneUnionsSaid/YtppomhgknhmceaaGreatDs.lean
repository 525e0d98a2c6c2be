/-
  From what is handed in to what the walks of layer 10 ask: a list of planes.
-/
import Derived.Test.YtppomhgknhmceaaGreatHy
import Derived.Test.YtppomhgknhmceaaGreatDh
set_option linter.unusedVariables false
set_option maxRecDepth 100000
namespace Go.Proofs.YtppomhgknhmceaaGreat
open Go.RowKit Go.ChangeShapes Go.WideShapes Go.ChangeAt Go.Joins Go.Deep

theorem cellsPlane : Tryz.prog.cellsOf 47 = 4 := by kernel_rfl
section
variable {H : Type} {enc : TypeId × Value → H} {w : World} {held : Bool}
theorem each_plane {a : Addr} {n : Nat} {cs : List Value} {y : DataW H × List MemPlace} (hc : w.cells? 0 a 4 = some cs) (ht : DataW.trod enc Tryz.prog w 0 (fun _ => true) held n 47 cs = some y) :
    ∃ x : Pl, ∀ j u, [Value.int .i64 x.s, .int .i64 x.b, .int .i64 x.n, .int .i64 x.d][j]? = some u → w.cell? (a.add j) = some u := by
  obtain ⟨ys, n', _, _, hlen, hyl, hf⟩ := DataW.trod_struct Tryz.underlying47 ht
  obtain ⟨_, hcl, hat⟩ := World.cells?_some hc
  match cs, hcl, hat with
  | [c0, c1, c2, c3], _, hat =>
    have e3 : Tryz.prog.cellsOf 3 = 1 := by kernel_rfl
    match ys, hyl, hf with
    | [y0, y1, y2, y3], _, hf =>
      have h0 : DataW.trod enc Tryz.prog w 0 (fun _ => true) held n' 3 [c0] = some y0 := by have := hf 0 _ rfl; simpa [e3] using this
      have h1 : DataW.trod enc Tryz.prog w 0 (fun _ => true) held n' 3 [c1] = some y1 := by have := hf 1 _ rfl; simpa [e3] using this
      have h2 : DataW.trod enc Tryz.prog w 0 (fun _ => true) held n' 3 [c2] = some y2 := by have := hf 2 _ rfl; simpa [e3] using this
      have h3 : DataW.trod enc Tryz.prog w 0 (fun _ => true) held n' 3 [c3] = some y3 := by have := hf 3 _ rfl; simpa [e3] using this
      obtain ⟨A, hA, _, wA⟩ := DataW.trod_int Tryz.underlying3 h0
      obtain ⟨B, hB, _, wB⟩ := DataW.trod_int Tryz.underlying3 h1
      obtain ⟨C, hC, _, wC⟩ := DataW.trod_int Tryz.underlying3 h2
      obtain ⟨D, hD, _, wD⟩ := DataW.trod_int Tryz.underlying3 h3
      obtain rfl : c0 = .int .i64 A := by simpa using hA
      obtain rfl : c1 = .int .i64 B := by simpa using hB
      obtain rfl : c2 = .int .i64 C := by simpa using hC
      obtain rfl : c3 = .int .i64 D := by simpa using hD
      refine ⟨⟨A, B, C, D⟩, fun j u hu => ?_⟩
      have hj : j < 4 := by have := (List.getElem?_eq_some_iff.1 hu).1; simpa using this
      rw [hat j hj]; exact hu

theorem open_planes {v : Value} {d : DataW H} {p : List MemPlace} {r : Reach} {b0 : Nat} (hv : Value.okWide Tryz.prog w r b0 34 v) (h : DataW.Trod enc Tryz.prog w 0 (fun _ => true) held 34 v d p) :
    ∃ (A : Option Addr) (c : Nat) (l : List Pl), v = .slice A l.length c ∧ PlRow w A l ∧ l.length ≤ 9223372036854775807 ∧ l.length ≤ c ∧ c ≤ 9223372036854775807 ∧ (A = none → c = 0) := by
  obtain ⟨a0, len0, cap0, rfl⟩ := okWide_slice Tryz.underlying34 hv
  obtain ⟨fuel, hf⟩ := h
  rcases open_slice Tryz.underlying34 hf with ⟨hcs, _⟩ | ⟨a, len, cap, m, n, D, Pq, hcs, _, hl, hm, hmm, _, hi⟩
  · simp [Value.cells] at hcs
    obtain ⟨rfl, rfl, rfl⟩ := hcs
    exact ⟨none, 0, [], rfl, (fun h => absurd h (by simp)), by simp, by simp, by omega, fun _ => rfl⟩
  · simp [Value.cells] at hcs
    obtain ⟨rfl, rfl, rfl⟩ := hcs
    simp at hmm
    subst hmm
    rw [cellsPlane] at hi
    obtain ⟨l, hll, hp⟩ := list_of (P := fun i (x : Pl) => ∀ j u, [Value.int .i64 x.s, .int .i64 x.b, .int .i64 x.n, .int .i64 x.d][j]? = some u → w.cell? ((a.add (i * 4)).add j) = some u) len0 (fun i hlt => by
        obtain ⟨cs', hc, ht⟩ := hi i (by omega)
        exact each_plane hc ht)
    refine ⟨some a, m, l, by rw [hll], fun hn => ?_, by unfold maxLen at hm; omega, by omega, by unfold maxLen at hm; omega, fun h => by cases h⟩
    · obtain ⟨b, off, spot⟩ := a
      have hc0 := hp 0 hn
      have h0 := hc0 0 _ rfl
      have hspot : spot = none := by simpa [Addr.add] using World.cell?_spot h0
      subst hspot
      refine ⟨b, off, rfl, ?_, fun j hj => ?_⟩
      · have := World.block_lt_of_cell? w _ h0
        rw [add_at, add_at] at this
        exact this
      · have hc := hp j hj
        have hcc : ∀ q u, [Value.int .i64 l[j].s, .int .i64 l[j].b, .int .i64 l[j].n, .int .i64 l[j].d][q]? = some u → w.cell? ⟨b, off + j * 4 + q, none⟩ = some u := fun q u hu => by
          have := hc q u hu
          rw [add_at, add_at] at this
          exact this
        exact ⟨hcc 0 _ rfl, hcc 1 _ rfl, hcc 2 _ rfl, hcc 3 _ rfl⟩
end
end Go.Proofs.YtppomhgknhmceaaGreat
