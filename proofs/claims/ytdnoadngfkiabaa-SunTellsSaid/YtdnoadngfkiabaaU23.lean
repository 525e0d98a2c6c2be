/-
  Contracts of the program's layer 9, 6: form.
  From what is handed in to what the walks of layer 9 ask: a list of boxes, a list of slabs.
-/
import Derived.Test.YtdnoadngfkiabaaU16
import Derived.Test.YtdnoadngfkiabaaU20
import Derived.Test.YtdnoadngfkiabaaU22
import Derived.Test.YtdnoadngfkiabaaU21
import Derived.Test.YtdnoadngfkiabaaU19
set_option linter.unusedVariables false
set_option maxRecDepth 100000
namespace Go.Proofs.Ytdnoadngfkiabaa
open Go.RowKit Go.Lib

/-- the two heights that a round reads. -/
def Fx (g k : Nat) (x y : Int) (w0 w : World) : Prop := w.cell? ⟨g, k, none⟩ = some (.int .i64 x) ∧ w.cell? ⟨g, k + 1, none⟩ = some (.int .i64 y) ∧ g < w0.heap.size ∧ g < w.heap.size ∧ Hid (Below w0.heap.size w0 w)
theorem Fx.go {g k : Nat} {x y : Int} {w0 w w' : World} (h : Fx g k x y w0 w) (hb : Below w0.heap.size w w') : Fx g k x y w0 w' := by
  obtain ⟨h0, h1, h2, h3, h4⟩ := h
  exact ⟨(hb.cell (p := ⟨g, k, none⟩) h2).trans h0, (hb.cell (p := ⟨g, k + 1, none⟩) h2).trans h1, h2, Nat.lt_of_lt_of_le h3 hb.size, Lib.hid (h4.out.trans hb)⟩
theorem Fx.drewN {g k : Nat} {x y : Int} {w0 w : World} (h : Fx g k x y w0 w) (n : Nat) : Fx g k x y w0 (w.drewN n) := h.go (below_drewN (Below.refl _ _) n)
theorem Fx.of {g k : Nat} {x y : Int} {w0 w' : World} (h : Fx g k x y w0 w0) (hb : Below w0.heap.size w0 w') : Fx g k x y w0 w' := h.go hb
theorem SolRes.base {x : List Sl × Int} {w0 w w' : World} {e : Ending} (h : SolRes x w e w') (hb : Below w0.heap.size w0 w) : SolRes x w0 e w' := by
  obtain ⟨A, c, rfl, h1, h2⟩ := h
  exact ⟨A, c, rfl, h1, hb.trans (h2.mono hb.size)⟩
end Go.Proofs.Ytdnoadngfkiabaa
namespace Go.Proofs.Ytdnoadngfkiabaa
open Go.RowKit Go.ChangeShapes Go.WideShapes Go.ChangeAt Go.Joins Go.Deep

theorem cellsSlab : Try.prog.cellsOf 50 = 3 := by kernel_rfl
theorem cellsRects9 : Try.prog.cellsOf 48 = 1 := by kernel_rfl
/-- a list of boxes that was handed in. -/
structure BIn (w : World) (A : Option Addr) (cap : Nat) (l : List Bx) : Prop where
  row : BxRow w A l
  len : l.length ≤ 9223372036854775807
  room : l.length ≤ cap
  room2 : cap ≤ 9223372036854775807
  nil : A = none → cap = 0
section
variable {H : Type} {enc : TypeId × Value → H} {w : World} {held : Bool}
/-- a list of rectangles in a cell. -/
theorem open_row9 {cs : List Value} {n : Nat} {x : DataW H × List MemPlace} (hf : DataW.trod enc Try.prog w 0 (fun _ => true) held n 48 cs = some x) :
    ∃ (A : Option Addr) (c : Nat) (l : List Rc), cs = [.slice A l.length c] ∧ RRow w A l ∧ l.length ≤ c ∧ c ≤ 9223372036854775807 := by
  rcases open_slice Try.underlying48 hf with ⟨rfl, _⟩ | ⟨a, len, cap, m, n, D, Pl, rfl, _, hl, hm, hmm, _, hi⟩
  · exact ⟨none, 0, [], rfl, (fun h => absurd h (by simp)), by simp, by omega⟩
  · simp at hmm
    subst hmm
    rw [cellsRect] at hi
    obtain ⟨l, hll, hp⟩ := list_of (P := fun i (x : Rc) => InR x ∧ ∀ j u, [Value.int .i64 x.X0, .int .i64 x.Y0, .int .i64 x.X1, .int .i64 x.Y1][j]? = some u → w.cell? ((a.add (i * 4)).add j) = some u) len (fun i hlt => by
        obtain ⟨cs', hc, ht⟩ := hi i (by omega)
        exact each_rect hc ht)
    refine ⟨some a, m, l, by rw [hll], fun hn => ?_, by omega, by unfold maxLen at hm; omega⟩
    obtain ⟨b, off, spot⟩ := a
    obtain ⟨_, hc0⟩ := hp 0 hn
    have h0 := hc0 0 _ rfl
    have hspot : spot = none := by simpa [Addr.add] using World.cell?_spot h0
    subst hspot
    refine ⟨b, off, rfl, ?_, fun j hj => ?_⟩
    · have := World.block_lt_of_cell? w _ h0
      rw [add_at, add_at] at this
      exact this
    · obtain ⟨_, hc⟩ := hp j hj
      have hcc : ∀ q u, [Value.int .i64 l[j].X0, .int .i64 l[j].Y0, .int .i64 l[j].X1, .int .i64 l[j].Y1][q]? = some u → w.cell? ⟨b, off + j * 4 + q, none⟩ = some u := fun q u hu => by
        have := hc q u hu
        rw [add_at, add_at] at this
        exact this
      exact ⟨hcc 0 _ rfl, hcc 1 _ rfl, hcc 2 _ rfl, hcc 3 _ rfl⟩
theorem each_slab {a : Addr} {n : Nat} {cs : List Value} {y : DataW H × List MemPlace} (hc : w.cells? 0 a 3 = some cs) (ht : DataW.trod enc Try.prog w 0 (fun _ => true) held n 50 cs = some y) :
    ∃ x : SlV, (∀ j u, (svc x)[j]? = some u → w.cell? (a.add j) = some u) ∧ RRow w x.A x.s.ar ∧ x.s.ar.length ≤ x.c ∧ x.c ≤ 9223372036854775807 := by
  obtain ⟨ys, n', _, _, hlen, hyl, hf⟩ := DataW.trod_struct Try.underlying50 ht
  obtain ⟨_, hcl, hat⟩ := World.cells?_some hc
  match cs, hcl, hat with
  | [c0, c1, c2], _, hat =>
    have e3 : Try.prog.cellsOf 3 = 1 := by kernel_rfl
    match ys, hyl, hf with
    | [y0, y1, y2], _, hf =>
      have h0 : DataW.trod enc Try.prog w 0 (fun _ => true) held n' 3 [c0] = some y0 := by have := hf 0 _ rfl; simpa [e3, cellsRects9] using this
      have h1 : DataW.trod enc Try.prog w 0 (fun _ => true) held n' 3 [c1] = some y1 := by have := hf 1 _ rfl; simpa [e3, cellsRects9] using this
      have h2 : DataW.trod enc Try.prog w 0 (fun _ => true) held n' 48 [c2] = some y2 := by have := hf 2 _ rfl; simpa [e3, cellsRects9] using this
      obtain ⟨A, hA, _, _⟩ := DataW.trod_int Try.underlying3 h0
      obtain ⟨B, hB, _, _⟩ := DataW.trod_int Try.underlying3 h1
      obtain ⟨R, c, l, hR, hr1, hr2, hr3⟩ := open_row9 h2
      obtain rfl : c0 = .int .i64 A := by simpa using hA
      obtain rfl : c1 = .int .i64 B := by simpa using hB
      obtain rfl : c2 = .slice R l.length c := by simpa using hR
      refine ⟨⟨⟨A, B, l⟩, R, c⟩, fun j u hu => ?_, hr1, hr2, hr3⟩
      have hj : j < 3 := by have := (List.getElem?_eq_some_iff.1 hu).1; simpa [svc] using this
      rw [hat j hj]; exact hu
/-- slabs that were handed in: the areas may be of whatever length. -/
def SlRow0 (w : World) (A : Option Addr) (S : List Sl) : Prop := 0 < S.length → ∃ b off, A = some ⟨b, off, none⟩ ∧ b < w.heap.size ∧ ∀ j (h : j < S.length), w.cell? ⟨b, off + j * 3, none⟩ = some (.int .i64 S[j].z0) ∧ w.cell? ⟨b, off + j * 3 + 1, none⟩ = some (.int .i64 S[j].z1) ∧ ∃ Aj cj, w.cell? ⟨b, off + j * 3 + 2, none⟩ = some (.slice Aj S[j].ar.length cj) ∧ RRow w Aj S[j].ar ∧ S[j].ar.length ≤ cj ∧ cj ≤ 9223372036854775807
theorem open_slabs {v : Value} {d : DataW H} {p : List MemPlace} {r : Reach} {b0 : Nat} (hv : Value.okWide Try.prog w r b0 23 v) (h : DataW.Trod enc Try.prog w 0 (fun _ => true) held 23 v d p) :
    ∃ (A : Option Addr) (c : Nat) (S : List Sl), v = .slice A S.length c ∧ SlRow0 w A S ∧ S.length ≤ 9223372036854775807 ∧ S.length ≤ c ∧ c ≤ 9223372036854775807 := by
  obtain ⟨a0, len0, cap0, rfl⟩ := okWide_slice Try.underlying23 hv
  obtain ⟨fuel, hf⟩ := h
  rcases open_slice Try.underlying23 hf with ⟨hcs, _⟩ | ⟨a, len, cap, m, n, D, Pl, hcs, _, hl, hm, hmm, _, hi⟩
  · simp [Value.cells] at hcs
    obtain ⟨rfl, rfl, rfl⟩ := hcs
    exact ⟨none, 0, [], rfl, (fun h => absurd h (by simp)), by simp, by simp, by omega⟩
  · simp [Value.cells] at hcs
    obtain ⟨rfl, rfl, rfl⟩ := hcs
    simp at hmm
    subst hmm
    rw [cellsSlab] at hi
    obtain ⟨l, hll, hp⟩ := list_of (P := fun i (x : SlV) => (∀ j u, (svc x)[j]? = some u → w.cell? ((a.add (i * 3)).add j) = some u) ∧ RRow w x.A x.s.ar ∧ x.s.ar.length ≤ x.c ∧ x.c ≤ 9223372036854775807) len0 (fun i hlt => by
        obtain ⟨cs', hc, ht⟩ := hi i (by omega)
        exact each_slab hc ht)
    refine ⟨some a, m, svS l, by rw [svS_len, hll], fun hn => ?_, by rw [svS_len]; unfold maxLen at hm; omega, by rw [svS_len]; omega, by unfold maxLen at hm; omega⟩
    rw [svS_len] at hn
    obtain ⟨b, off, spot⟩ := a
    have hc0 := (hp 0 hn).1
    have h0 := hc0 0 _ rfl
    have hspot : spot = none := by simpa [Addr.add] using World.cell?_spot h0
    subst hspot
    refine ⟨b, off, rfl, ?_, fun j hj => ?_⟩
    · have := World.block_lt_of_cell? w _ h0
      rw [add_at, add_at] at this
      exact this
    · rw [svS_len] at hj
      obtain ⟨hc, h1, h2, h3⟩ := hp j hj
      have hcc : ∀ q u, (svc l[j])[q]? = some u → w.cell? ⟨b, off + j * 3 + q, none⟩ = some u := fun q u hu => by
        have := hc q u hu
        rw [add_at, add_at] at this
        exact this
      have e : (svS l)[j]'(by rw [svS_len]; exact hj) = l[j].s := by simp [svS]
      rw [e]
      exact ⟨hcc 0 _ rfl, hcc 1 _ rfl, _, _, hcc 2 _ rfl, h1, h2, h3⟩
end
end Go.Proofs.Ytdnoadngfkiabaa
