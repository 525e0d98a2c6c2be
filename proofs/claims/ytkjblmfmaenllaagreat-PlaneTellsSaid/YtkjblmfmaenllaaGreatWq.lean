/-
  From what is handed in to what the walks of layer 9 ask: a list of boxes, a list of slabs.
-/
import Derived.Test.YtkjblmfmaenllaaGreatRj
import Derived.Test.YtkjblmfmaenllaaGreatWp
set_option linter.unusedVariables false
set_option maxRecDepth 100000
namespace Go.Proofs.YtkjblmfmaenllaaGreat
open Go.RowKit Go.ChangeShapes Go.WideShapes Go.ChangeAt Go.Joins Go.Deep

theorem cellsBox : Tryz.prog.cellsOf 52 = 6 := by kernel_rfl
/-- a list of boxes that was handed in. -/
structure BIn (w : World) (A : Option Addr) (cap : Nat) (l : List Bx) : Prop where
  row : BxRow w A l
  len : l.length ≤ 9223372036854775807
  room : l.length ≤ cap
  room2 : cap ≤ 9223372036854775807
  nil : A = none → cap = 0
section
variable {H : Type} {enc : TypeId × Value → H} {w : World} {held : Bool}
theorem each_box {a : Addr} {n : Nat} {cs : List Value} {y : DataW H × List MemPlace} (hc : w.cells? 0 a 6 = some cs) (ht : DataW.trod enc Tryz.prog w 0 (fun _ => true) held n 52 cs = some y) :
    ∃ x : Bx, ∀ j u, (bxc x)[j]? = some u → w.cell? (a.add j) = some u := by
  obtain ⟨ys, n', _, _, hlen, hyl, hf⟩ := DataW.trod_struct Tryz.underlying52 ht
  obtain ⟨_, hcl, hat⟩ := World.cells?_some hc
  match cs, hcl, hat with
  | [c0, c1, c2, c3, c4, c5], _, hat =>
    have e3 : Tryz.prog.cellsOf 3 = 1 := by kernel_rfl
    match ys, hyl, hf with
    | [y0, y1, y2], _, hf =>
      have h0 : DataW.trod enc Tryz.prog w 0 (fun _ => true) held n' 33 [c0, c1, c2, c3] = some y0 := by have := hf 0 _ rfl; simpa [e3, cellsRect] using this
      have h1 : DataW.trod enc Tryz.prog w 0 (fun _ => true) held n' 3 [c4] = some y1 := by have := hf 1 _ rfl; simpa [e3, cellsRect] using this
      have h2 : DataW.trod enc Tryz.prog w 0 (fun _ => true) held n' 3 [c5] = some y2 := by have := hf 2 _ rfl; simpa [e3, cellsRect] using this
      obtain ⟨zs, n2, _, _, _, hzl, hg⟩ := DataW.trod_struct Tryz.underlying33 h0
      match zs, hzl, hg with
      | [z0, z1, z2, z3], _, hg =>
        have g0 : DataW.trod enc Tryz.prog w 0 (fun _ => true) held n2 3 [c0] = some z0 := by have := hg 0 _ rfl; simpa [e3] using this
        have g1 : DataW.trod enc Tryz.prog w 0 (fun _ => true) held n2 3 [c1] = some z1 := by have := hg 1 _ rfl; simpa [e3] using this
        have g2 : DataW.trod enc Tryz.prog w 0 (fun _ => true) held n2 3 [c2] = some z2 := by have := hg 2 _ rfl; simpa [e3] using this
        have g3 : DataW.trod enc Tryz.prog w 0 (fun _ => true) held n2 3 [c3] = some z3 := by have := hg 3 _ rfl; simpa [e3] using this
        obtain ⟨A, hA, _, _⟩ := DataW.trod_int Tryz.underlying3 g0
        obtain ⟨B, hB, _, _⟩ := DataW.trod_int Tryz.underlying3 g1
        obtain ⟨C, hC, _, _⟩ := DataW.trod_int Tryz.underlying3 g2
        obtain ⟨D, hD, _, _⟩ := DataW.trod_int Tryz.underlying3 g3
        obtain ⟨E, hE, _, _⟩ := DataW.trod_int Tryz.underlying3 h1
        obtain ⟨F, hF, _, _⟩ := DataW.trod_int Tryz.underlying3 h2
        obtain rfl : c0 = .int .i64 A := by simpa using hA
        obtain rfl : c1 = .int .i64 B := by simpa using hB
        obtain rfl : c2 = .int .i64 C := by simpa using hC
        obtain rfl : c3 = .int .i64 D := by simpa using hD
        obtain rfl : c4 = .int .i64 E := by simpa using hE
        obtain rfl : c5 = .int .i64 F := by simpa using hF
        refine ⟨⟨⟨A, B, C, D⟩, E, F⟩, fun j u hu => ?_⟩
        have hj : j < 6 := by have := (List.getElem?_eq_some_iff.1 hu).1; simpa [bxc] using this
        rw [hat j hj]; exact hu
theorem open_boxes {v : Value} {d : DataW H} {p : List MemPlace} {r : Reach} {b0 : Nat} (hv : Value.okWide Tryz.prog w r b0 26 v) (h : DataW.Trod enc Tryz.prog w 0 (fun _ => true) held 26 v d p) :
    ∃ (A : Option Addr) (c : Nat) (l : List Bx), v = .slice A l.length c ∧ BIn w A c l := by
  obtain ⟨a0, len0, cap0, rfl⟩ := okWide_slice Tryz.underlying26 hv
  obtain ⟨fuel, hf⟩ := h
  rcases open_slice Tryz.underlying26 hf with ⟨hcs, _⟩ | ⟨a, len, cap, m, n, D, Pl, hcs, _, hl, hm, hmm, _, hi⟩
  · simp [Value.cells] at hcs
    obtain ⟨rfl, rfl, rfl⟩ := hcs
    exact ⟨none, 0, [], rfl, BxRow.nil _ _, by simp, by simp, by omega, fun _ => rfl⟩
  · simp [Value.cells] at hcs
    obtain ⟨rfl, rfl, rfl⟩ := hcs
    simp at hmm
    subst hmm
    rw [cellsBox] at hi
    obtain ⟨l, hll, hp⟩ := list_of (P := fun i (x : Bx) => ∀ j u, (bxc x)[j]? = some u → w.cell? ((a.add (i * 6)).add j) = some u) len0 (fun i hlt => by
        obtain ⟨cs', hc, ht⟩ := hi i (by omega)
        exact each_box hc ht)
    refine ⟨some a, m, l, by rw [hll], ⟨fun hn => ?_, by unfold maxLen at hm; omega, by omega, by unfold maxLen at hm; omega, fun h => by cases h⟩⟩
    obtain ⟨b, off, spot⟩ := a
    have hc0 := hp 0 hn
    have h0 := hc0 0 _ rfl
    have hspot : spot = none := by simpa [Addr.add] using World.cell?_spot h0
    subst hspot
    refine ⟨b, off, rfl, ?_, fun j hj => ?_⟩
    · have := World.block_lt_of_cell? w _ h0
      rw [add_at, add_at] at this
      exact this
    · have hc := hp j hj
      have hcc : ∀ q u, (bxc l[j])[q]? = some u → w.cell? ⟨b, off + j * 6 + q, none⟩ = some u := fun q u hu => by
        have := hc q u hu
        rw [add_at, add_at] at this
        exact this
      exact ⟨hcc 0 _ rfl, hcc 1 _ rfl, hcc 2 _ rfl, hcc 3 _ rfl, hcc 4 _ rfl, hcc 5 _ rfl⟩
end
end Go.Proofs.YtkjblmfmaenllaaGreat
