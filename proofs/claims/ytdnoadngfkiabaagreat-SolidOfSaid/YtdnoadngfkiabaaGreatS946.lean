/-
  From what is handed in to what the walks of layer 9 ask: a list of boxes, a list of slabs.
-/
import Derived.Test.YtdnoadngfkiabaaGreatS945
import Derived.Test.YtdnoadngfkiabaaGreatS924
set_option linter.unusedVariables false
set_option maxRecDepth 100000
namespace Go.Proofs.YtdnoadngfkiabaaGreat
open Go.RowKit Go.ChangeShapes Go.WideShapes Go.ChangeAt Go.Joins Go.Deep

theorem cellsBox : Tryz.prog.cellsOf 35 = 6 := by kernel_rfl
theorem cellsSlab : Tryz.prog.cellsOf 40 = 3 := by kernel_rfl
theorem cellsRects9 : Tryz.prog.cellsOf 37 = 1 := by kernel_rfl
/-- a list of boxes that was handed in. -/
structure BIn (w : World) (A : Option Addr) (cap : Nat) (l : List Bx) : Prop where
  row : BxRow w A l
  len : l.length ≤ 9223372036854775807
  room : l.length ≤ cap
  room2 : cap ≤ 9223372036854775807
  nil : A = none → cap = 0
section
variable {H : Type} {enc : TypeId × Value → H} {w : World} {held : Bool}
theorem each_box {a : Addr} {n : Nat} {cs : List Value} {y : DataW H × List MemPlace} (hc : w.cells? 0 a 6 = some cs) (ht : DataW.trod enc Tryz.prog w 0 (fun _ => true) held n 35 cs = some y) :
    ∃ x : Bx, ∀ j u, (bxc x)[j]? = some u → w.cell? (a.add j) = some u := by
  obtain ⟨ys, n', _, _, hlen, hyl, hf⟩ := DataW.trod_struct Tryz.underlying35 ht
  obtain ⟨_, hcl, hat⟩ := World.cells?_some hc
  match cs, hcl, hat with
  | [c0, c1, c2, c3, c4, c5], _, hat =>
    have e3 : Tryz.prog.cellsOf 3 = 1 := by kernel_rfl
    match ys, hyl, hf with
    | [y0, y1, y2], _, hf =>
      have h0 : DataW.trod enc Tryz.prog w 0 (fun _ => true) held n' 33 [c0, c1, c2, c3] = some y0 := by have := hf 0 _ rfl; simpa [e3, cellsRect] using this
      have h1 : DataW.trod enc Tryz.prog w 0 (fun _ => true) held n' 3 [c4] = some y1 := by have := hf 1 _ rfl; simpa [e3, cellsRect] using this
      have h2 : DataW.trod enc Tryz.prog w 0 (fun _ => true) held n' 3 [c5] = some y2 := by have := hf 2 _ rfl; simpa [e3, cellsRect] using this
      obtain ⟨zs, n2, _, _, _, hzl, hg⟩ := DataW.trod_struct Tryz.underlying33 h0
      match zs, hzl, hg with
      | [z0, z1, z2, z3], _, hg =>
        have g0 : DataW.trod enc Tryz.prog w 0 (fun _ => true) held n2 3 [c0] = some z0 := by have := hg 0 _ rfl; simpa [e3] using this
        have g1 : DataW.trod enc Tryz.prog w 0 (fun _ => true) held n2 3 [c1] = some z1 := by have := hg 1 _ rfl; simpa [e3] using this
        have g2 : DataW.trod enc Tryz.prog w 0 (fun _ => true) held n2 3 [c2] = some z2 := by have := hg 2 _ rfl; simpa [e3] using this
        have g3 : DataW.trod enc Tryz.prog w 0 (fun _ => true) held n2 3 [c3] = some z3 := by have := hg 3 _ rfl; simpa [e3] using this
        obtain ⟨A, hA, _, _⟩ := DataW.trod_int Tryz.underlying3 g0
        obtain ⟨B, hB, _, _⟩ := DataW.trod_int Tryz.underlying3 g1
        obtain ⟨C, hC, _, _⟩ := DataW.trod_int Tryz.underlying3 g2
        obtain ⟨D, hD, _, _⟩ := DataW.trod_int Tryz.underlying3 g3
        obtain ⟨E, hE, _, _⟩ := DataW.trod_int Tryz.underlying3 h1
        obtain ⟨F, hF, _, _⟩ := DataW.trod_int Tryz.underlying3 h2
        obtain rfl : c0 = .int .i64 A := by simpa using hA
        obtain rfl : c1 = .int .i64 B := by simpa using hB
        obtain rfl : c2 = .int .i64 C := by simpa using hC
        obtain rfl : c3 = .int .i64 D := by simpa using hD
        obtain rfl : c4 = .int .i64 E := by simpa using hE
        obtain rfl : c5 = .int .i64 F := by simpa using hF
        refine ⟨⟨⟨A, B, C, D⟩, E, F⟩, fun j u hu => ?_⟩
        have hj : j < 6 := by have := (List.getElem?_eq_some_iff.1 hu).1; simpa [bxc] using this
        rw [hat j hj]; exact hu
theorem open_boxes {v : Value} {d : DataW H} {p : List MemPlace} {r : Reach} {b0 : Nat} (hv : Value.okWide Tryz.prog w r b0 26 v) (h : DataW.Trod enc Tryz.prog w 0 (fun _ => true) held 26 v d p) :
    ∃ (A : Option Addr) (c : Nat) (l : List Bx), v = .slice A l.length c ∧ BIn w A c l := by
  obtain ⟨a0, len0, cap0, rfl⟩ := okWide_slice Tryz.underlying26 hv
  obtain ⟨fuel, hf⟩ := h
  rcases open_slice Tryz.underlying26 hf with ⟨hcs, _⟩ | ⟨a, len, cap, m, n, D, Pl, hcs, _, hl, hm, hmm, _, hi⟩
  · simp [Value.cells] at hcs
    obtain ⟨rfl, rfl, rfl⟩ := hcs
    exact ⟨none, 0, [], rfl, BxRow.nil _ _, by simp, by simp, by omega, fun _ => rfl⟩
  · simp [Value.cells] at hcs
    obtain ⟨rfl, rfl, rfl⟩ := hcs
    simp at hmm
    subst hmm
    rw [cellsBox] at hi
    obtain ⟨l, hll, hp⟩ := list_of (P := fun i (x : Bx) => ∀ j u, (bxc x)[j]? = some u → w.cell? ((a.add (i * 6)).add j) = some u) len0 (fun i hlt => by
        obtain ⟨cs', hc, ht⟩ := hi i (by omega)
        exact each_box hc ht)
    refine ⟨some a, m, l, by rw [hll], ⟨fun hn => ?_, by unfold maxLen at hm; omega, by omega, by unfold maxLen at hm; omega, fun h => by cases h⟩⟩
    obtain ⟨b, off, spot⟩ := a
    have hc0 := hp 0 hn
    have h0 := hc0 0 _ rfl
    have hspot : spot = none := by simpa [Addr.add] using World.cell?_spot h0
    subst hspot
    refine ⟨b, off, rfl, ?_, fun j hj => ?_⟩
    · have := World.block_lt_of_cell? w _ h0
      rw [add_at, add_at] at this
      exact this
    · have hc := hp j hj
      have hcc : ∀ q u, (bxc l[j])[q]? = some u → w.cell? ⟨b, off + j * 6 + q, none⟩ = some u := fun q u hu => by
        have := hc q u hu
        rw [add_at, add_at] at this
        exact this
      exact ⟨hcc 0 _ rfl, hcc 1 _ rfl, hcc 2 _ rfl, hcc 3 _ rfl, hcc 4 _ rfl, hcc 5 _ rfl⟩
/-- a list of rectangles in a cell. -/
theorem open_row9 {cs : List Value} {n : Nat} {x : DataW H × List MemPlace} (hf : DataW.trod enc Tryz.prog w 0 (fun _ => true) held n 37 cs = some x) :
    ∃ (A : Option Addr) (c : Nat) (l : List Rc), cs = [.slice A l.length c] ∧ RRow w A l ∧ l.length ≤ c ∧ c ≤ 9223372036854775807 := by
  rcases open_slice Tryz.underlying37 hf with ⟨rfl, _⟩ | ⟨a, len, cap, m, n, D, Pl, rfl, _, hl, hm, hmm, _, hi⟩
  · exact ⟨none, 0, [], rfl, (fun h => absurd h (by simp)), by simp, by omega⟩
  · simp at hmm
    subst hmm
    rw [cellsRect] at hi
    obtain ⟨l, hll, hp⟩ := list_of (P := fun i (x : Rc) => InR x ∧ ∀ j u, [Value.int .i64 x.X0, .int .i64 x.Y0, .int .i64 x.X1, .int .i64 x.Y1][j]? = some u → w.cell? ((a.add (i * 4)).add j) = some u) len (fun i hlt => by
        obtain ⟨cs', hc, ht⟩ := hi i (by omega)
        exact each_rect hc ht)
    refine ⟨some a, m, l, by rw [hll], fun hn => ?_, by omega, by unfold maxLen at hm; omega⟩
    obtain ⟨b, off, spot⟩ := a
    obtain ⟨_, hc0⟩ := hp 0 hn
    have h0 := hc0 0 _ rfl
    have hspot : spot = none := by simpa [Addr.add] using World.cell?_spot h0
    subst hspot
    refine ⟨b, off, rfl, ?_, fun j hj => ?_⟩
    · have := World.block_lt_of_cell? w _ h0
      rw [add_at, add_at] at this
      exact this
    · obtain ⟨_, hc⟩ := hp j hj
      have hcc : ∀ q u, [Value.int .i64 l[j].X0, .int .i64 l[j].Y0, .int .i64 l[j].X1, .int .i64 l[j].Y1][q]? = some u → w.cell? ⟨b, off + j * 4 + q, none⟩ = some u := fun q u hu => by
        have := hc q u hu
        rw [add_at, add_at] at this
        exact this
      exact ⟨hcc 0 _ rfl, hcc 1 _ rfl, hcc 2 _ rfl, hcc 3 _ rfl⟩
theorem each_slab {a : Addr} {n : Nat} {cs : List Value} {y : DataW H × List MemPlace} (hc : w.cells? 0 a 3 = some cs) (ht : DataW.trod enc Tryz.prog w 0 (fun _ => true) held n 40 cs = some y) :
    ∃ x : SlV, (∀ j u, (svc x)[j]? = some u → w.cell? (a.add j) = some u) ∧ RRow w x.A x.s.ar ∧ x.s.ar.length ≤ x.c ∧ x.c ≤ 9223372036854775807 := by
  obtain ⟨ys, n', _, _, hlen, hyl, hf⟩ := DataW.trod_struct Tryz.underlying40 ht
  obtain ⟨_, hcl, hat⟩ := World.cells?_some hc
  match cs, hcl, hat with
  | [c0, c1, c2], _, hat =>
    have e3 : Tryz.prog.cellsOf 3 = 1 := by kernel_rfl
    match ys, hyl, hf with
    | [y0, y1, y2], _, hf =>
      have h0 : DataW.trod enc Tryz.prog w 0 (fun _ => true) held n' 3 [c0] = some y0 := by have := hf 0 _ rfl; simpa [e3, cellsRects9] using this
      have h1 : DataW.trod enc Tryz.prog w 0 (fun _ => true) held n' 3 [c1] = some y1 := by have := hf 1 _ rfl; simpa [e3, cellsRects9] using this
      have h2 : DataW.trod enc Tryz.prog w 0 (fun _ => true) held n' 37 [c2] = some y2 := by have := hf 2 _ rfl; simpa [e3, cellsRects9] using this
      obtain ⟨A, hA, _, _⟩ := DataW.trod_int Tryz.underlying3 h0
      obtain ⟨B, hB, _, _⟩ := DataW.trod_int Tryz.underlying3 h1
      obtain ⟨R, c, l, hR, hr1, hr2, hr3⟩ := open_row9 h2
      obtain rfl : c0 = .int .i64 A := by simpa using hA
      obtain rfl : c1 = .int .i64 B := by simpa using hB
      obtain rfl : c2 = .slice R l.length c := by simpa using hR
      refine ⟨⟨⟨A, B, l⟩, R, c⟩, fun j u hu => ?_, hr1, hr2, hr3⟩
      have hj : j < 3 := by have := (List.getElem?_eq_some_iff.1 hu).1; simpa [svc] using this
      rw [hat j hj]; exact hu
/-- slabs that were handed in: the areas may be of whatever length. -/
def SlRow0 (w : World) (A : Option Addr) (S : List Sl) : Prop := 0 < S.length → ∃ b off, A = some ⟨b, off, none⟩ ∧ b < w.heap.size ∧ ∀ j (h : j < S.length), w.cell? ⟨b, off + j * 3, none⟩ = some (.int .i64 S[j].z0) ∧ w.cell? ⟨b, off + j * 3 + 1, none⟩ = some (.int .i64 S[j].z1) ∧ ∃ Aj cj, w.cell? ⟨b, off + j * 3 + 2, none⟩ = some (.slice Aj S[j].ar.length cj) ∧ RRow w Aj S[j].ar ∧ S[j].ar.length ≤ cj ∧ cj ≤ 9223372036854775807
theorem open_slabs {v : Value} {d : DataW H} {p : List MemPlace} {r : Reach} {b0 : Nat} (hv : Value.okWide Tryz.prog w r b0 22 v) (h : DataW.Trod enc Tryz.prog w 0 (fun _ => true) held 22 v d p) :
    ∃ (A : Option Addr) (c : Nat) (S : List Sl), v = .slice A S.length c ∧ SlRow0 w A S ∧ S.length ≤ 9223372036854775807 ∧ S.length ≤ c ∧ c ≤ 9223372036854775807 := by
  obtain ⟨a0, len0, cap0, rfl⟩ := okWide_slice Tryz.underlying22 hv
  obtain ⟨fuel, hf⟩ := h
  rcases open_slice Tryz.underlying22 hf with ⟨hcs, _⟩ | ⟨a, len, cap, m, n, D, Pl, hcs, _, hl, hm, hmm, _, hi⟩
  · simp [Value.cells] at hcs
    obtain ⟨rfl, rfl, rfl⟩ := hcs
    exact ⟨none, 0, [], rfl, (fun h => absurd h (by simp)), by simp, by simp, by omega⟩
  · simp [Value.cells] at hcs
    obtain ⟨rfl, rfl, rfl⟩ := hcs
    simp at hmm
    subst hmm
    rw [cellsSlab] at hi
    obtain ⟨l, hll, hp⟩ := list_of (P := fun i (x : SlV) => (∀ j u, (svc x)[j]? = some u → w.cell? ((a.add (i * 3)).add j) = some u) ∧ RRow w x.A x.s.ar ∧ x.s.ar.length ≤ x.c ∧ x.c ≤ 9223372036854775807) len0 (fun i hlt => by
        obtain ⟨cs', hc, ht⟩ := hi i (by omega)
        exact each_slab hc ht)
    refine ⟨some a, m, svS l, by rw [svS_len, hll], fun hn => ?_, by rw [svS_len]; unfold maxLen at hm; omega, by rw [svS_len]; omega, by unfold maxLen at hm; omega⟩
    rw [svS_len] at hn
    obtain ⟨b, off, spot⟩ := a
    have hc0 := (hp 0 hn).1
    have h0 := hc0 0 _ rfl
    have hspot : spot = none := by simpa [Addr.add] using World.cell?_spot h0
    subst hspot
    refine ⟨b, off, rfl, ?_, fun j hj => ?_⟩
    · have := World.block_lt_of_cell? w _ h0
      rw [add_at, add_at] at this
      exact this
    · rw [svS_len] at hj
      obtain ⟨hc, h1, h2, h3⟩ := hp j hj
      have hcc : ∀ q u, (svc l[j])[q]? = some u → w.cell? ⟨b, off + j * 3 + q, none⟩ = some u := fun q u hu => by
        have := hc q u hu
        rw [add_at, add_at] at this
        exact this
      have e : (svS l)[j]'(by rw [svS_len]; exact hj) = l[j].s := by simp [svS]
      rw [e]
      exact ⟨hcc 0 _ rfl, hcc 1 _ rfl, _, _, hcc 2 _ rfl, h1, h2, h3⟩
end
end Go.Proofs.YtdnoadngfkiabaaGreat
