/-
  Contracts of the program's layer 6 (13): connected and Parts of a region whose rectangles don't touch.
  Contracts of the program's layer 8 (6): the sort and the compaction that changes calls (the library's).
  From what is handed in to what the walks of layer 10 ask: a list of planes.
-/
import Derived.Test.YtkjblmfmaenllaaGreatW0
import Derived.Test.YtkjblmfmaenllaaGreatWz
import Derived.Test.YtkjblmfmaenllaaGreatWs
import Derived.Test.YtkjblmfmaenllaaGreatRv
import Derived.Test.YtkjblmfmaenllaaGreatRj
import Derived.Test.YtkjblmfmaenllaaGreatRi
set_option linter.unusedVariables false
set_option maxRecDepth 100000
namespace Go.Proofs.YtkjblmfmaenllaaGreat
open Go.RowKit

def bcells (l : List Bool) : List Value := l.map Value.bool
def Tx (rb j pb eb : Nat) (u v : Rc) (w0 w : World) : Prop := w.cell? ⟨rb, j, none⟩ = some (.bool false) ∧ w.cell? ⟨pb, 0, none⟩ = some (.int .i64 u.X0) ∧ w.cell? ⟨pb, 1, none⟩ = some (.int .i64 u.Y0) ∧ w.cell? ⟨pb, 2, none⟩ = some (.int .i64 u.X1) ∧ w.cell? ⟨pb, 3, none⟩ = some (.int .i64 u.Y1) ∧ w.cell? ⟨eb, 0, none⟩ = some (.int .i64 v.X0) ∧ w.cell? ⟨eb, 1, none⟩ = some (.int .i64 v.Y0) ∧ w.cell? ⟨eb, 2, none⟩ = some (.int .i64 v.X1) ∧ w.cell? ⟨eb, 3, none⟩ = some (.int .i64 v.Y1) ∧ rb < w.heap.size ∧ pb < w.heap.size ∧ eb < w.heap.size ∧ Hid (Below w0.heap.size w0 w)
theorem Tx.go {rb j pb eb : Nat} {u v : Rc} {w0 w w' : World} (h : Tx rb j pb eb u v w0 w) (hb : Below w.heap.size w w') : Tx rb j pb eb u v w0 w' := by
  obtain ⟨h0, a0, a1, a2, a3, b0, b1, b2, b3, l0, l1, l2, hh⟩ := h
  have c := fun b o (hb2 : b < w.heap.size) => hb.cell (p := ⟨b, o, none⟩) hb2
  exact ⟨(c _ _ l0).trans h0, (c _ _ l1).trans a0, (c _ _ l1).trans a1, (c _ _ l1).trans a2, (c _ _ l1).trans a3, (c _ _ l2).trans b0, (c _ _ l2).trans b1, (c _ _ l2).trans b2, (c _ _ l2).trans b3, Nat.lt_of_lt_of_le l0 hb.size, Nat.lt_of_lt_of_le l1 hb.size, Nat.lt_of_lt_of_le l2 hb.size, Lib.hid (hh.out.trans (hb.mono hh.out.size))⟩
theorem Tx.drewN {rb j pb eb : Nat} {u v : Rc} {w0 w : World} (h : Tx rb j pb eb u v w0 w) (n : Nat) : Tx rb j pb eb u v w0 (w.drewN n) := h.go (below_drewN (Below.refl _ _) n)
/-- what connected keeps: the part's only rectangle, who is reached, and all else. -/
structure CO (pb rb n : Nat) (u : Rc) (R : List Bool) (w wr : World) : Prop where
  part : RcAt wr pb u
  flags : wr.ownsRow rb 4 1 (.slice (some ⟨rb, 0, none⟩) n n) n (bcells R)
  grown : w.grownBy wr (some rb)
theorem grown_trans {w w1 w2 : World} {r : Nat} (h : w.grownBy w1 (some r)) (k : w1.grownBy w2 (some r)) : w.grownBy w2 (some r) :=
  ⟨k.os.trans h.os, k.tape.trans h.tape, k.output.trans h.output, Nat.le_trans h.size k.size, fun i hi hne => (k.block i (Nat.lt_of_lt_of_le hi h.size) hne).trans (h.block i hi hne)⟩
theorem grown_below {w w1 w2 : World} {r : Nat} (h : w.grownBy w1 (some r)) (k : Below w1.heap.size w1 w2) : w.grownBy w2 (some r) :=
  grown_trans h ⟨k.os, k.tape, k.output, k.size, fun i hi _ => k.block i hi⟩
theorem CO.go {pb rb n : Nat} {u : Rc} {R : List Bool} {w wr w' : World} (h : CO pb rb n u R w wr) (hb : Below wr.heap.size wr w') : CO pb rb n u R w w' := ⟨h.part.below hb h.part.lt, own_go h.flags hb, grown_below h.grown hb⟩
end Go.Proofs.YtkjblmfmaenllaaGreat
namespace Go.Proofs.YtkjblmfmaenllaaGreat
open Go.RowKit Go.Shelf Go.Lib Go.Sort

theorem holds_own {w : World} {B g cap : Nat} {l : List Int} (h : w.ownsRow B 3 1 (.slice (some ⟨g, 0, none⟩) l.length cap) l.length (icells l)) : Holds (Value.int .i64) w g 0 l.toArray := fun j hj => by
  have hj' : j < l.length := by simpa using hj
  refine ⟨?_, h.frozenAt _⟩
  rw [Nat.zero_add, h.cellAt j (by omega)]
  simp [icells, hj']
theorem gsort_holds (B g cap : Nat) (l : List Int) (w : World) (h : w.ownsRow B 3 1 (.slice (some ⟨g, 0, none⟩) l.length cap) l.length (icells l)) (hl : l.length ≤ 1099511627776) :
    Calls Tryz.prog 95 #[.slice (some ⟨g, 0, none⟩) l.length cap] w fun e w' => e = .returned (.tuple #[]) ∧ ∃ S : List Int, S.Perm l ∧ SrtN S ∧ Holds (Value.int .i64) w' g 0 S.toArray ∧ w.grownBy w' (some g) := by
  have hg : g < w.heap.size := (h.lt g rfl).2
  have hH := holds_own h
  refine (Go.Proofs.Tryz.slices_Sort_int g 0 cap l w hH hg (by omega)).mono ?_
  rintro e w' ⟨rfl, n, os, rfl⟩
  have hp := List.mergeSort_perm l (fun x y => decide (x ≤ y))
  refine ⟨rfl, l.mergeSort fun x y => decide (x ≤ y), hp, ?_, holds_grow _ _ _ _ _ _ (by simpa using hg) (holds_putRow _ _ _ _ l.toArray _ (holds_ahead _ _ _ _ _ _ hH) (by simp [hp.length_eq])), grownBy_sort⟩
  have hs := List.pairwise_mergeSort (le := fun x y : Int => decide (x ≤ y)) (fun a b c h1 h2 => by simp at *; omega) (fun a b => by simp; omega) l
  intro i j hi hj hij
  rcases Nat.lt_or_ge i j with hlt | hge
  · have := List.pairwise_iff_getElem.1 hs i j hi hj hlt
    simpa using this
  · obtain rfl : i = j := by omega
    exact Int.le_refl _
theorem ycompact_any (g cap : Nat) (S : List Int) (w : World) (hH : Holds (Value.int .i64) w g 0 S.toArray) (hg : g < w.heap.size) (hs : SrtN S) (hl : S.length ≤ 1099511627776) (hc : S.length ≤ cap) :
    Calls Tryz.prog 96 #[.slice (some ⟨g, 0, none⟩) S.length cap] w fun e w' => e = .returned (.slice (some ⟨g, 0, none⟩) (Lib.compact S).length cap) ∧ (∀ j (h : j < (Lib.compact S).length), w'.cell? ⟨g, j, none⟩ = some (.int .i64 (Lib.compact S)[j])) ∧ w.grownBy w' (some g) := by
  refine (Go.Proofs.Tryz.slices_Compact_int g 0 cap S w hH (by omega) hc).mono ?_
  rintro e w' ⟨rfl, q, rfl⟩
  have hcl := (compact_is hs).2.2
  refine ⟨rfl, fun j hj => ?_, rfl, rfl, rfl, by simp [putRow, mapBlock, Sort.ahead], fun k hk hne => ?_⟩
  · have := cell?_putRow (Value.int .i64) (Sort.ahead w q) g 0 S.toArray (Lib.compact S ++ List.replicate (S.length - (Lib.compact S).length) 0).toArray (holds_ahead _ _ _ _ _ _ hH) (by simp; omega) j (by simp; omega)
    rw [Nat.zero_add] at this
    rw [this, getElem!_pos _ j (by simp; omega)]
    simp [hj]
  · have : k ≠ g := fun e => hne (by rw [e])
    simp [putRow, mapBlock, Sort.ahead, Array.getElem?_modify]; intro e; exact absurd e.symm this
theorem gsort_none (A : Option Addr) (cap : Nat) (w : World) : Calls Tryz.prog 95 #[.slice A 0 cap] w fun e w' => e = .returned (.tuple #[]) ∧ w' = w := Go.Proofs.Tryz.slices_Sort_int_none A cap w
theorem ycompact_none (A : Option Addr) (cap : Nat) (w : World) : Calls Tryz.prog 96 #[.slice A 0 cap] w fun e w' => e = .returned (.slice A 0 cap) ∧ w' = w := Go.Proofs.Tryz.slices_Compact_int_empty A cap w
end Go.Proofs.YtkjblmfmaenllaaGreat
namespace Go.Proofs.YtkjblmfmaenllaaGreat
open Go.RowKit Go.ChangeShapes Go.WideShapes Go.ChangeAt Go.Joins Go.Deep

theorem cellsPlane : Tryz.prog.cellsOf 47 = 4 := by kernel_rfl
section
variable {H : Type} {enc : TypeId × Value → H} {w : World} {held : Bool}
theorem each_plane {a : Addr} {n : Nat} {cs : List Value} {y : DataW H × List MemPlace} (hc : w.cells? 0 a 4 = some cs) (ht : DataW.trod enc Tryz.prog w 0 (fun _ => true) held n 47 cs = some y) :
    ∃ x : Pl, ∀ j u, [Value.int .i64 x.s, .int .i64 x.b, .int .i64 x.n, .int .i64 x.d][j]? = some u → w.cell? (a.add j) = some u := by
  obtain ⟨ys, n', _, _, hlen, hyl, hf⟩ := DataW.trod_struct Tryz.underlying47 ht
  obtain ⟨_, hcl, hat⟩ := World.cells?_some hc
  match cs, hcl, hat with
  | [c0, c1, c2, c3], _, hat =>
    have e3 : Tryz.prog.cellsOf 3 = 1 := by kernel_rfl
    match ys, hyl, hf with
    | [y0, y1, y2, y3], _, hf =>
      have h0 : DataW.trod enc Tryz.prog w 0 (fun _ => true) held n' 3 [c0] = some y0 := by have := hf 0 _ rfl; simpa [e3] using this
      have h1 : DataW.trod enc Tryz.prog w 0 (fun _ => true) held n' 3 [c1] = some y1 := by have := hf 1 _ rfl; simpa [e3] using this
      have h2 : DataW.trod enc Tryz.prog w 0 (fun _ => true) held n' 3 [c2] = some y2 := by have := hf 2 _ rfl; simpa [e3] using this
      have h3 : DataW.trod enc Tryz.prog w 0 (fun _ => true) held n' 3 [c3] = some y3 := by have := hf 3 _ rfl; simpa [e3] using this
      obtain ⟨A, hA, _, wA⟩ := DataW.trod_int Tryz.underlying3 h0
      obtain ⟨B, hB, _, wB⟩ := DataW.trod_int Tryz.underlying3 h1
      obtain ⟨C, hC, _, wC⟩ := DataW.trod_int Tryz.underlying3 h2
      obtain ⟨D, hD, _, wD⟩ := DataW.trod_int Tryz.underlying3 h3
      obtain rfl : c0 = .int .i64 A := by simpa using hA
      obtain rfl : c1 = .int .i64 B := by simpa using hB
      obtain rfl : c2 = .int .i64 C := by simpa using hC
      obtain rfl : c3 = .int .i64 D := by simpa using hD
      refine ⟨⟨A, B, C, D⟩, fun j u hu => ?_⟩
      have hj : j < 4 := by have := (List.getElem?_eq_some_iff.1 hu).1; simpa using this
      rw [hat j hj]; exact hu

theorem open_planes {v : Value} {d : DataW H} {p : List MemPlace} {r : Reach} {b0 : Nat} (hv : Value.okWide Tryz.prog w r b0 34 v) (h : DataW.Trod enc Tryz.prog w 0 (fun _ => true) held 34 v d p) :
    ∃ (A : Option Addr) (c : Nat) (l : List Pl), v = .slice A l.length c ∧ PlRow w A l ∧ l.length ≤ 9223372036854775807 ∧ l.length ≤ c ∧ c ≤ 9223372036854775807 ∧ (A = none → c = 0) := by
  obtain ⟨a0, len0, cap0, rfl⟩ := okWide_slice Tryz.underlying34 hv
  obtain ⟨fuel, hf⟩ := h
  rcases open_slice Tryz.underlying34 hf with ⟨hcs, _⟩ | ⟨a, len, cap, m, n, D, Pq, hcs, _, hl, hm, hmm, _, hi⟩
  · simp [Value.cells] at hcs
    obtain ⟨rfl, rfl, rfl⟩ := hcs
    exact ⟨none, 0, [], rfl, (fun h => absurd h (by simp)), by simp, by simp, by omega, fun _ => rfl⟩
  · simp [Value.cells] at hcs
    obtain ⟨rfl, rfl, rfl⟩ := hcs
    simp at hmm
    subst hmm
    rw [cellsPlane] at hi
    obtain ⟨l, hll, hp⟩ := list_of (P := fun i (x : Pl) => ∀ j u, [Value.int .i64 x.s, .int .i64 x.b, .int .i64 x.n, .int .i64 x.d][j]? = some u → w.cell? ((a.add (i * 4)).add j) = some u) len0 (fun i hlt => by
        obtain ⟨cs', hc, ht⟩ := hi i (by omega)
        exact each_plane hc ht)
    refine ⟨some a, m, l, by rw [hll], fun hn => ?_, by unfold maxLen at hm; omega, by omega, by unfold maxLen at hm; omega, fun h => by cases h⟩
    · obtain ⟨b, off, spot⟩ := a
      have hc0 := hp 0 hn
      have h0 := hc0 0 _ rfl
      have hspot : spot = none := by simpa [Addr.add] using World.cell?_spot h0
      subst hspot
      refine ⟨b, off, rfl, ?_, fun j hj => ?_⟩
      · have := World.block_lt_of_cell? w _ h0
        rw [add_at, add_at] at this
        exact this
      · have hc := hp j hj
        have hcc : ∀ q u, [Value.int .i64 l[j].s, .int .i64 l[j].b, .int .i64 l[j].n, .int .i64 l[j].d][q]? = some u → w.cell? ⟨b, off + j * 4 + q, none⟩ = some u := fun q u hu => by
          have := hc q u hu
          rw [add_at, add_at] at this
          exact this
        exact ⟨hcc 0 _ rfl, hcc 1 _ rfl, hcc 2 _ rfl, hcc 3 _ rfl⟩
end
end Go.Proofs.YtkjblmfmaenllaaGreat
