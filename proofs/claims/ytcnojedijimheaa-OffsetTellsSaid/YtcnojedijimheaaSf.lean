/-
  Contracts of the program's layer 8 (1): lists of spans in memory.
-/
import Derived.Test.YtcnojedijimheaaHj
import Derived.Test.YtcnojedijimheaaSa
set_option linter.unusedVariables false
set_option maxRecDepth 100000
namespace Go.Proofs.Ytcnojedijimheaa
open Go.RowKit

theorem infoSpan : (Try.prog.info? 63).map (fun i => (i.zero, i.size, i.bytes)) = some (some (.agg #[.int .i64 0, .int .i64 0]), 2, 16) := by kernel_rfl
def scells (P : List (Int × Int)) : List Value := P.flatMap fun p => [.int .i64 p.1, .int .i64 p.2]
theorem scells_len (P : List (Int × Int)) : (scells P).length = P.length * 2 := by
  induction P with
  | nil => rfl
  | cons p P ih => show (_ :: _ :: scells P).length = _; simp [ih]; omega
theorem scells_append (P Q : List (Int × Int)) : scells (P ++ Q) = scells P ++ scells Q := by simp [scells]
theorem scells_at : ∀ (P : List (Int × Int)) (j : Nat) (h : j < P.length), (scells P)[j * 2]? = some (.int .i64 P[j].1) ∧ (scells P)[j * 2 + 1]? = some (.int .i64 P[j].2) := by
  intro P
  induction P with
  | nil => intro j h; simp at h
  | cons p P ih =>
    intro j h
    cases j with
    | zero => exact ⟨rfl, rfl⟩
    | succ j =>
      have := ih j (by simpa using h)
      rw [show (j + 1) * 2 = j * 2 + 1 + 1 by omega]
      exact this
theorem scells_one : ∀ (P : List (Int × Int)), ∀ u ∈ scells P, u.oneCell' = true := by
  intro P u hu
  obtain ⟨p, _, hu⟩ := List.mem_flatMap.1 hu
  simp at hu
  rcases hu with rfl | rfl <;> rfl
/-- a list of spans at an address, in a block from B on. -/
def SpRow (w : World) (B : Nat) (A : Option Addr) (P : List (Int × Int)) : Prop := 0 < P.length → ∃ b off, A = some ⟨b, off, none⟩ ∧ B ≤ b ∧ b < w.heap.size ∧ ∀ j (h : j < P.length), w.cell? ⟨b, off + j * 2, none⟩ = some (.int .i64 P[j].1) ∧ w.cell? ⟨b, off + j * 2 + 1, none⟩ = some (.int .i64 P[j].2)
theorem SpRow.nil (w : World) (B : Nat) (A : Option Addr) : SpRow w B A [] := fun h => absurd h (by simp)
theorem SpRow.below {w w' : World} {B : Nat} {A : Option Addr} {P : List (Int × Int)} (h : SpRow w B A P) (hb : Below w.heap.size w w') : SpRow w' B A P := fun h0 => by
  obtain ⟨b, off, rfl, hB, hl, hc⟩ := h h0
  exact ⟨b, off, rfl, hB, Nat.lt_of_lt_of_le hl hb.size, fun j hj => ⟨(hb.cell (p := ⟨b, off + j * 2, none⟩) hl).trans (hc j hj).1, (hb.cell (p := ⟨b, off + j * 2 + 1, none⟩) hl).trans (hc j hj).2⟩⟩
theorem SpRow.base {w : World} {B B' : Nat} {A : Option Addr} {P : List (Int × Int)} (h : SpRow w B A P) (hB : B' ≤ B) : SpRow w B' A P := fun h0 => by
  obtain ⟨b, off, rfl, h1, h2, h3⟩ := h h0
  exact ⟨b, off, rfl, by omega, h2, h3⟩
/-- a slice that a call made, as a list of spans. -/
theorem own_spans {w : World} {B : Nat} {v : Value} {P : List (Int × Int)} (h : w.ownsRow B 63 2 v P.length (scells P)) :
    ∃ A cap, v = .slice A P.length cap ∧ SpRow w B A P ∧ P.length ≤ cap ∧ cap ≤ 9223372036854775807 ∧ (A = none → cap = 0) := by
  have hh := h
  obtain ⟨h1, h2⟩ := h
  rcases h2 with ⟨rfl, h3⟩ | ⟨g, cap, cur, rfl, hB, hg, h4⟩
  · rw [h3]
    exact ⟨none, 0, rfl, fun h => by omega, Nat.le_refl _, by omega, fun _ => rfl⟩
  · have hlt : g < w.heap.size := by
      rcases Nat.lt_or_ge g w.heap.size with hlt | hge
      · exact hlt
      · rw [Array.getElem?_eq_none hge] at hg; cases hg
    refine ⟨_, cap, rfl, fun h0 => ⟨g, 0, rfl, hB, hlt, fun j hj => ?_⟩, h4.1, ?_, fun h => by cases h⟩
    · have c := fun i (hi : i < P.length * 2) => World.ownsRow.cellAt hh i hi
      obtain ⟨e0, e1⟩ := scells_at P j hj
      rw [Nat.zero_add]
      exact ⟨(c _ (by omega)).trans e0, (c _ (by omega)).trans e1⟩
    · have := h4.2.1; unfold maxLen at this; omega
/-- a list of spans that the call made. -/
def SpIs (P : List (Int × Int)) (w : World) (e : Ending) (w' : World) : Prop := ∃ v, e = .returned v ∧ w'.ownsRow w.heap.size 63 2 v P.length (scells P) ∧ Below w.heap.size w w'
/-- the spans so far. -/
structure OwnS (v : Value) (P : List (Int × Int)) (w wr : World) : Prop where
  own : wr.ownsRow w.heap.size 63 2 v P.length (scells P)
  bel : Below w.heap.size w wr
theorem OwnS.go {v : Value} {P : List (Int × Int)} {w wr w' : World} (h : OwnS v P w wr) (hb : Below wr.heap.size wr w') : OwnS v P w w' := ⟨own_go h.own hb, h.bel.trans (hb.mono h.bel.size)⟩
theorem OwnS.start (w : World) : OwnS (.slice none 0 0) [] w w := ⟨World.ownsRow_nil _ _ _ _, Below.refl _ _⟩
theorem OwnS.grown {v v' : Value} {P P' : List (Int × Int)} {w wr w' : World} (h : OwnS v P w wr) (ho : w'.ownsRow w.heap.size 63 2 v' P'.length (scells P')) (hg : wr.grownBy w' v.ownBlock) : OwnS v' P' w w' :=
  ⟨ho, Below.grown h.bel hg h.bel.size (fun k hk => (h.own.lt k hk).1)⟩
/-- the rectangles so far. -/
structure OwnR (v : Value) (l : List Rc) (w wr : World) : Prop where
  own : wr.ownsRow w.heap.size 41 4 v l.length (rcells l)
  bel : Below w.heap.size w wr
theorem OwnR.go {v : Value} {l : List Rc} {w wr w' : World} (h : OwnR v l w wr) (hb : Below wr.heap.size wr w') : OwnR v l w w' := ⟨own_go h.own hb, h.bel.trans (hb.mono h.bel.size)⟩
theorem OwnR.start (w : World) : OwnR (.slice none 0 0) [] w w := ⟨World.ownsRow_nil _ _ _ _, Below.refl _ _⟩
theorem OwnR.grown {v v' : Value} {l l' : List Rc} {w wr w' : World} (h : OwnR v l w wr) (ho : w'.ownsRow w.heap.size 41 4 v' l'.length (rcells l')) (hg : wr.grownBy w' v.ownBlock) : OwnR v' l' w w' :=
  ⟨ho, Below.grown h.bel hg h.bel.size (fun k hk => (h.own.lt k hk).1)⟩
theorem spansR_len (l : List Rc) : (spansR l).length = l.length := by simp [spansR]
theorem spansR_at (l : List Rc) (j : Nat) (h : j < l.length) : (spansR l)[j]'(by rw [spansR_len]; exact h) = (l[j].Y0, l[j].Y1) := by simp [spansR]
end Go.Proofs.Ytcnojedijimheaa
