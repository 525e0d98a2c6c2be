/-
  Contracts of the reference of layer 6 (2): what combine's contracts say.
  Contracts of the program's layer 6 (4): slices of rectangles that the call made; the rows that column works on.
  From what is handed in to what the walks of layer 10 ask: a list of planes.
-/
import Derived.Test.YtkjblmfmaenllaaGreatRd
import Derived.BigQuiet
import Derived.Laws.AppendOwn
import Derived.Test.YtkjblmfmaenllaaGreatRj
import Derived.Test.YtkjblmfmaenllaaGreatRi
set_option linter.unusedVariables false
set_option maxRecDepth 100000
namespace Go.Proofs.YtkjblmfmaenllaaGreat
open Go.RowKit

theorem infoInt : (Tryz.prog.info? 3).map (fun i => (i.zero, i.size, i.bytes)) = some (some (.int .i64 0), 1, 8) := by kernel_rfl
/-- a slice of ints that the call made, and nothing that was there has turned. -/
structure OwnI (v : Value) (l : List Int) (w wr : World) : Prop where
  own : wr.ownsRow w.heap.size 3 1 v l.length (icells l)
  bel : Below w.heap.size w wr
theorem OwnI.drewN {v : Value} {l : List Int} {w wr : World} (h : OwnI v l w wr) (n : Nat) : OwnI v l w (wr.drewN n) := by
  refine ⟨?_, below_drewN h.bel n⟩
  obtain ⟨h1, h2⟩ := h.own
  exact ⟨h1, h2⟩
theorem icells_snoc (l : List Int) (x : Int) : icells (l ++ [x]) = icells l ++ [.int .i64 x] := by simp [icells]
theorem tmod_even {p : Nat} (h : p % 2 = 0) : Int.tmod (p : Int) 2 = 0 ∧ Int.tmod ((p : Int) + 1) 2 = 1 := by
  rw [Int.tmod_eq_emod_of_nonneg (by omega), Int.tmod_eq_emod_of_nonneg (by omega)]; omega
theorem tmod_odd {p : Nat} (h : p % 2 = 1) : Int.tmod (p : Int) 2 = 1 ∧ Int.tmod ((p : Int) + 1) 2 = 0 := by
  rw [Int.tmod_eq_emod_of_nonneg (by omega), Int.tmod_eq_emod_of_nonneg (by omega)]; omega
/-- where the loop stands. -/
def CombAt (op : Bool → Bool → Bool) (a b : List Int) (p q : Nat) (P Q : Bool) (l : List Int) : Prop := l ++ combGo op (a.drop p) (b.drop q) P Q (op P Q) = comb op a b
theorem drop_at {l : List Int} {p : Nat} (h : p < l.length) : l.drop p = l[p] :: l.drop (p + 1) := List.drop_eq_getElem_cons h
end Go.Proofs.YtkjblmfmaenllaaGreat
namespace Go.Proofs.YtkjblmfmaenllaaGreat
open Go.RowKit

theorem RRow.some {w : World} {b o : Nat} {l : List Rc} (h : RRow w (Option.some ⟨b, o, none⟩) l) : 0 < l.length → b < w.heap.size ∧ ∀ j (h : j < l.length), w.cell? ⟨b, o + j * 4, none⟩ = some (.int .i64 l[j].X0) ∧ w.cell? ⟨b, o + j * 4 + 1, none⟩ = some (.int .i64 l[j].Y0) ∧ w.cell? ⟨b, o + j * 4 + 2, none⟩ = some (.int .i64 l[j].X1) ∧ w.cell? ⟨b, o + j * 4 + 3, none⟩ = some (.int .i64 l[j].Y1) := fun h0 => by
  obtain ⟨b', o', e, hb, hc⟩ := h h0
  simp only [Option.some.injEq, Addr.mk.injEq, and_true] at e
  obtain ⟨rfl, rfl⟩ := e
  exact ⟨hb, hc⟩
theorem RRow.take {w : World} {A : Option Addr} {l : List Rc} (h : RRow w A l) (n : Nat) : RRow w A (l.take n) := fun h0 => by
  rw [List.length_take] at h0
  obtain ⟨b, o, rfl, hb, hc⟩ := h (by omega)
  exact ⟨b, o, rfl, hb, fun j hj => by rw [List.length_take] at hj; simpa using hc j (by omega)⟩
theorem RRow.drop {w : World} {b o : Nat} {l : List Rc} (h : RRow w (Option.some ⟨b, o, none⟩) l) (n : Nat) : RRow w (Option.some ⟨b, o + n * 4, none⟩) (l.drop n) := fun h0 => by
  rw [List.length_drop] at h0
  obtain ⟨hb, hc⟩ := h.some (by omega)
  refine ⟨b, o + n * 4, rfl, hb, fun j hj => ?_⟩
  rw [List.length_drop] at hj
  have := hc (n + j) (by omega)
  rw [List.getElem_drop, show o + n * 4 + j * 4 = o + (n + j) * 4 by omega]
  exact this
theorem RRow.nil (w : World) (A : Option Addr) : RRow w A [] := fun h => absurd h (by simp)
theorem infoRect : (Tryz.prog.info? 33).map (fun i => (i.zero, i.size, i.bytes)) = some (some (.agg #[.int .i64 0, .int .i64 0, .int .i64 0, .int .i64 0]), 4, 32) := by kernel_rfl
theorem infoEdge : (Tryz.prog.info? 129).map (fun i => (i.zero, i.size, i.bytes)) = some (some (.agg #[.int .i64 0, .int .i64 0, .int .i64 0, .int .i64 0, .int .i64 0]), 5, 40) := by kernel_rfl
/-- a slice's own block is one of another world, too, where that block is. -/
theorem own_stays {w w' : World} {B e size n : Nat} {v : Value} {xs : List Value} (h : w.ownsRow B e size v n xs) (hk : ∀ g, v.ownBlock = some g → w'.heap[g]? = w.heap[g]?) : w'.ownsRow B e size v n xs := by
  obtain ⟨h1, h2⟩ := h
  refine ⟨h1, ?_⟩
  rcases h2 with ⟨rfl, h3⟩ | ⟨g, cap, cur, rfl, hB, hg, h4⟩
  · exact Or.inl ⟨rfl, h3⟩
  · exact Or.inr ⟨g, cap, cur, rfl, hB, by rw [hk g rfl]; exact hg, h4⟩
theorem own_go {w w' : World} {B e size n : Nat} {v : Value} {xs : List Value} (h : w.ownsRow B e size v n xs) (hb : Below w.heap.size w w') : w'.ownsRow B e size v n xs :=
  own_stays h (fun g hg => hb.block g (h.lt g hg).2)
theorem own_base {w : World} {B B' e size n : Nat} {v : Value} {xs : List Value} (h : w.ownsRow B e size v n xs) (hB : B' ≤ B) : w.ownsRow B' e size v n xs := by
  obtain ⟨h1, h2⟩ := h
  refine ⟨h1, ?_⟩
  rcases h2 with h2 | ⟨g, cap, cur, rfl, hB2, h4⟩
  · exact Or.inl h2
  · exact Or.inr ⟨g, cap, cur, rfl, Nat.le_trans hB hB2, h4⟩
theorem set_other (wr : World) (a : Addr) (x : Value) (g : Nat) (h : g ≠ a.block) : (wr.setCell a x).heap[g]? = wr.heap[g]? := by
  simp [World.setCell, Array.getElem?_modify]; intro e; exact absurd e.symm h
def rcells (l : List Rc) : List Value := l.flatMap fun r => [.int .i64 r.X0, .int .i64 r.Y0, .int .i64 r.X1, .int .i64 r.Y1]
theorem rcells_len (l : List Rc) : (rcells l).length = l.length * 4 := by
  induction l with
  | nil => rfl
  | cons r l ih => show (_ :: _ :: _ :: _ :: rcells l).length = _; simp [ih]; omega
theorem rcells_append (l m : List Rc) : rcells (l ++ m) = rcells l ++ rcells m := by simp [rcells]
theorem rcells_at : ∀ (l : List Rc) (j : Nat) (h : j < l.length), (rcells l)[j * 4]? = some (.int .i64 l[j].X0) ∧ (rcells l)[j * 4 + 1]? = some (.int .i64 l[j].Y0) ∧ (rcells l)[j * 4 + 2]? = some (.int .i64 l[j].X1) ∧ (rcells l)[j * 4 + 3]? = some (.int .i64 l[j].Y1) := by
  intro l
  induction l with
  | nil => intro j h; simp at h
  | cons r l ih =>
    intro j h
    cases j with
    | zero => exact ⟨rfl, rfl, rfl, rfl⟩
    | succ j =>
      have := ih j (by simpa using h)
      rw [show (j + 1) * 4 = j * 4 + 1 + 1 + 1 + 1 by omega]
      exact this
theorem rcells_one : ∀ (l : List Rc), ∀ u ∈ rcells l, u.oneCell' = true := by
  intro l u hu
  obtain ⟨r, _, hu⟩ := List.mem_flatMap.1 hu
  simp at hu
  rcases hu with rfl | rfl | rfl | rfl <;> rfl
/-- the cells with one side turned. -/
theorem rcells_set : ∀ (l : List Rc) (j : Nat) (h : j < l.length) (x : Int), (rcells l).set (j * 4 + 2) (.int .i64 x) = rcells (l.set j ⟨l[j].X0, l[j].Y0, x, l[j].Y1⟩) ∧ (rcells l).set (j * 4 + 3) (.int .i64 x) = rcells (l.set j ⟨l[j].X0, l[j].Y0, l[j].X1, x⟩) := by
  intro l
  induction l with
  | nil => intro j h; simp at h
  | cons r l ih =>
    intro j h x
    cases j with
    | zero => exact ⟨rfl, rfl⟩
    | succ j =>
      have := ih j (by simpa using h) x
      rw [show (j + 1) * 4 + 2 = (j * 4 + 2) + 1 + 1 + 1 + 1 by omega, show (j + 1) * 4 + 3 = (j * 4 + 3) + 1 + 1 + 1 + 1 by omega]
      show _ :: _ :: _ :: _ :: (rcells l).set _ _ = _ ∧ _ :: _ :: _ :: _ :: (rcells l).set _ _ = _
      rw [this.1, this.2]
      exact ⟨rfl, rfl⟩
/-- a slice that a call made, as a list of rectangles. -/
theorem own_rects {w : World} {B : Nat} {v : Value} {l : List Rc} (h : w.ownsRow B 33 4 v l.length (rcells l)) :
    ∃ A cap, v = .slice A l.length cap ∧ RRow w A l ∧ l.length ≤ cap ∧ cap ≤ 9223372036854775807 ∧ (0 < l.length → ∃ g, A = some ⟨g, 0, none⟩ ∧ B ≤ g ∧ g < w.heap.size) ∧ (A = none → cap = 0) := by
  have hh := h
  obtain ⟨h1, h2⟩ := h
  rcases h2 with ⟨rfl, h3⟩ | ⟨g, cap, cur, rfl, hB, hg, h4⟩
  · rw [h3]
    exact ⟨none, 0, rfl, fun h => by omega, Nat.le_refl _, by omega, fun h => absurd h (Nat.lt_irrefl _), fun _ => rfl⟩
  · have hlt : g < w.heap.size := by
      rcases Nat.lt_or_ge g w.heap.size with hlt | hge
      · exact hlt
      · rw [Array.getElem?_eq_none hge] at hg; cases hg
    refine ⟨_, cap, rfl, fun h0 => ⟨g, 0, rfl, hlt, fun j hj => ?_⟩, ?_, ?_, fun _ => ⟨g, rfl, hB, hlt⟩, fun h => by cases h⟩
    · have c := fun i (hi : i < l.length * 4) => World.ownsRow.cellAt hh i hi
      obtain ⟨e0, e1, e2, e3⟩ := rcells_at l j hj
      rw [Nat.zero_add]
      exact ⟨(c _ (by omega)).trans e0, (c _ (by omega)).trans e1, (c _ (by omega)).trans e2, (c _ (by omega)).trans e3⟩
    · exact h4.1
    · have := h4.2.1; unfold maxLen at this; omega
end Go.Proofs.YtkjblmfmaenllaaGreat
namespace Go.Proofs.YtkjblmfmaenllaaGreat
open Go.RowKit Go.ChangeShapes Go.WideShapes Go.ChangeAt Go.Joins Go.Deep

theorem cellsPlane : Tryz.prog.cellsOf 47 = 4 := by kernel_rfl
section
variable {H : Type} {enc : TypeId × Value → H} {w : World} {held : Bool}
theorem each_plane {a : Addr} {n : Nat} {cs : List Value} {y : DataW H × List MemPlace} (hc : w.cells? 0 a 4 = some cs) (ht : DataW.trod enc Tryz.prog w 0 (fun _ => true) held n 47 cs = some y) :
    ∃ x : Pl, ∀ j u, [Value.int .i64 x.s, .int .i64 x.b, .int .i64 x.n, .int .i64 x.d][j]? = some u → w.cell? (a.add j) = some u := by
  obtain ⟨ys, n', _, _, hlen, hyl, hf⟩ := DataW.trod_struct Tryz.underlying47 ht
  obtain ⟨_, hcl, hat⟩ := World.cells?_some hc
  match cs, hcl, hat with
  | [c0, c1, c2, c3], _, hat =>
    have e3 : Tryz.prog.cellsOf 3 = 1 := by kernel_rfl
    match ys, hyl, hf with
    | [y0, y1, y2, y3], _, hf =>
      have h0 : DataW.trod enc Tryz.prog w 0 (fun _ => true) held n' 3 [c0] = some y0 := by have := hf 0 _ rfl; simpa [e3] using this
      have h1 : DataW.trod enc Tryz.prog w 0 (fun _ => true) held n' 3 [c1] = some y1 := by have := hf 1 _ rfl; simpa [e3] using this
      have h2 : DataW.trod enc Tryz.prog w 0 (fun _ => true) held n' 3 [c2] = some y2 := by have := hf 2 _ rfl; simpa [e3] using this
      have h3 : DataW.trod enc Tryz.prog w 0 (fun _ => true) held n' 3 [c3] = some y3 := by have := hf 3 _ rfl; simpa [e3] using this
      obtain ⟨A, hA, _, wA⟩ := DataW.trod_int Tryz.underlying3 h0
      obtain ⟨B, hB, _, wB⟩ := DataW.trod_int Tryz.underlying3 h1
      obtain ⟨C, hC, _, wC⟩ := DataW.trod_int Tryz.underlying3 h2
      obtain ⟨D, hD, _, wD⟩ := DataW.trod_int Tryz.underlying3 h3
      obtain rfl : c0 = .int .i64 A := by simpa using hA
      obtain rfl : c1 = .int .i64 B := by simpa using hB
      obtain rfl : c2 = .int .i64 C := by simpa using hC
      obtain rfl : c3 = .int .i64 D := by simpa using hD
      refine ⟨⟨A, B, C, D⟩, fun j u hu => ?_⟩
      have hj : j < 4 := by have := (List.getElem?_eq_some_iff.1 hu).1; simpa using this
      rw [hat j hj]; exact hu

theorem open_planes {v : Value} {d : DataW H} {p : List MemPlace} {r : Reach} {b0 : Nat} (hv : Value.okWide Tryz.prog w r b0 34 v) (h : DataW.Trod enc Tryz.prog w 0 (fun _ => true) held 34 v d p) :
    ∃ (A : Option Addr) (c : Nat) (l : List Pl), v = .slice A l.length c ∧ PlRow w A l ∧ l.length ≤ 9223372036854775807 ∧ l.length ≤ c ∧ c ≤ 9223372036854775807 ∧ (A = none → c = 0) := by
  obtain ⟨a0, len0, cap0, rfl⟩ := okWide_slice Tryz.underlying34 hv
  obtain ⟨fuel, hf⟩ := h
  rcases open_slice Tryz.underlying34 hf with ⟨hcs, _⟩ | ⟨a, len, cap, m, n, D, Pq, hcs, _, hl, hm, hmm, _, hi⟩
  · simp [Value.cells] at hcs
    obtain ⟨rfl, rfl, rfl⟩ := hcs
    exact ⟨none, 0, [], rfl, (fun h => absurd h (by simp)), by simp, by simp, by omega, fun _ => rfl⟩
  · simp [Value.cells] at hcs
    obtain ⟨rfl, rfl, rfl⟩ := hcs
    simp at hmm
    subst hmm
    rw [cellsPlane] at hi
    obtain ⟨l, hll, hp⟩ := list_of (P := fun i (x : Pl) => ∀ j u, [Value.int .i64 x.s, .int .i64 x.b, .int .i64 x.n, .int .i64 x.d][j]? = some u → w.cell? ((a.add (i * 4)).add j) = some u) len0 (fun i hlt => by
        obtain ⟨cs', hc, ht⟩ := hi i (by omega)
        exact each_plane hc ht)
    refine ⟨some a, m, l, by rw [hll], fun hn => ?_, by unfold maxLen at hm; omega, by omega, by unfold maxLen at hm; omega, fun h => by cases h⟩
    · obtain ⟨b, off, spot⟩ := a
      have hc0 := hp 0 hn
      have h0 := hc0 0 _ rfl
      have hspot : spot = none := by simpa [Addr.add] using World.cell?_spot h0
      subst hspot
      refine ⟨b, off, rfl, ?_, fun j hj => ?_⟩
      · have := World.block_lt_of_cell? w _ h0
        rw [add_at, add_at] at this
        exact this
      · have hc := hp j hj
        have hcc : ∀ q u, [Value.int .i64 l[j].s, .int .i64 l[j].b, .int .i64 l[j].n, .int .i64 l[j].d][q]? = some u → w.cell? ⟨b, off + j * 4 + q, none⟩ = some u := fun q u hu => by
          have := hc q u hu
          rw [add_at, add_at] at this
          exact this
        exact ⟨hcc 0 _ rfl, hcc 1 _ rfl, hcc 2 _ rfl, hcc 3 _ rfl⟩
end
end Go.Proofs.YtkjblmfmaenllaaGreat
