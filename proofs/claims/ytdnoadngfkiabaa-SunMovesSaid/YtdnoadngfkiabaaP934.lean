/-
  Contracts of the reference of layer 6 (5): column.
-/
import Derived.Test.YtdnoadngfkiabaaP905
import Derived.Test.YtdnoadngfkiabaaP918
import Derived.BigQuiet
import Derived.Maps.AppendAt
import Derived.Deep.AppendLies
import Derived.Deep.RegionHeld3
import Derived.Lib.MinMax
import Derived.StillTailTactics
set_option linter.unusedVariables false
set_option maxRecDepth 100000
namespace Go.Proofs.Ytdnoadngfkiabaa
open Go.RowKit

theorem own_stays' {w w' : World} {B e size n : Nat} {v : Value} {xs : List Value} (h : w.ownsRow B e size v n xs) (hk : ∀ g, v.ownBlock = some g → w'.heap[g]? = w.heap[g]?) : w'.ownsRow B e size v n xs := by
  obtain ⟨h1, h2⟩ := h
  refine ⟨h1, ?_⟩
  rcases h2 with ⟨rfl, h3⟩ | ⟨g, cap, cur, rfl, hB, hg, h4⟩
  · exact Or.inl ⟨rfl, h3⟩
  · exact Or.inr ⟨g, cap, cur, rfl, hB, by rw [hk g rfl]; exact hg, h4⟩
/-- two lists of ints that the call made, in two blocks. -/
structure CoW (vf vt : Value) (F T : List Int) (w wr : World) : Prop where
  o1 : wr.ownsRow w.heap.size 3 1 vf F.length (icells F)
  o2 : wr.ownsRow w.heap.size 3 1 vt T.length (icells T)
  ap : ∀ g, vf.ownBlock = some g → vt.ownBlock ≠ some g
  bel : Below w.heap.size w wr
section
variable {vf vt : Value} {F T : List Int} {w wr w' : World}
theorem CoW.go (h : CoW vf vt F T w wr) (hb : Below wr.heap.size wr w') : CoW vf vt F T w w' :=
  ⟨own_stays' h.o1 (fun g hg => hb.block g (h.o1.lt g hg).2), own_stays' h.o2 (fun g hg => hb.block g (h.o2.lt g hg).2), h.ap, h.bel.trans (hb.mono h.bel.size)⟩
theorem CoW.swap (h : CoW vf vt F T w wr) : CoW vt vf T F w wr := ⟨h.o2, h.o1, fun g h1 h2 => h.ap g h2 h1, h.bel⟩
theorem CoW.grow {vf' : Value} {F' : List Int} (h : CoW vf vt F T w wr) (ho : w'.ownsRow w.heap.size 3 1 vf' F'.length (icells F')) (hg : wr.grownBy w' vf.ownBlock) (hat : vf'.ownBlock = vf.ownBlock ∨ vf'.ownBlock = some wr.heap.size) : CoW vf' vt F' T w w' := by
  refine ⟨ho, own_stays' h.o2 (fun g hg2 => hg.block g (h.o2.lt g hg2).2 (fun e => h.ap g e.symm hg2)), fun g h1 h2 => ?_, Below.grown h.bel hg h.bel.size (fun k hk => (h.o1.lt k hk).1)⟩
  rcases hat with e | e
  · exact h.ap g (by rw [← e]; exact h1) h2
  · rw [e] at h1
    have := (h.o2.lt g h2).2
    have e2 : wr.heap.size = g := by simpa using h1
    omega
theorem CoW.set {g n c : Nat} (h : CoW (.slice (some ⟨g, 0, none⟩) n c) vt F T w wr) (hn : n = F.length) (j : Nat) (x : Int) : CoW (.slice (some ⟨g, 0, none⟩) n c) vt (F.set j x) T w (wr.setCell ⟨g, j, none⟩ (.int .i64 x)) := by
  subst hn
  obtain ⟨h1, h2⟩ := h.o1.stored j (.int .i64 x)
  refine ⟨?_, own_stays' h.o2 (fun g2 hg2 => ?_), h.ap, h.bel.setCell (by have := (h.o1.lt g rfl).1; simp only; omega) _⟩
  · have e : (icells F).set j (.int .i64 x) = icells (F.set j x) := by simp [icells, List.map_set]
    rw [e] at h1
    rw [List.length_set]; exact h1
  · have hne : g ≠ g2 := fun e => h.ap g rfl (by rw [e]; exact hg2)
    simp [World.setCell, Array.getElem?_modify]; intro e; exact absurd e hne
theorem CoW.cell (h : CoW vf vt F T w wr) {g n c : Nat} (hv : vf = .slice (some ⟨g, 0, none⟩) n c) (j : Nat) (hj : j < F.length) : wr.cell? ⟨g, j, none⟩ = some (.int .i64 F[j]) := by
  subst hv
  have hn : n = F.length := by
    rcases h.o1.2 with ⟨e, _⟩ | ⟨g', cap, cur, e, _⟩
    · cases e
    · injection e with e1 e2 e3
  subst hn
  rw [h.o1.cellAt j (by omega)]; simp [icells, hj]
theorem CoW.froz (h : CoW vf vt F T w wr) {g n c : Nat} (hv : vf = .slice (some ⟨g, 0, none⟩) n c) (j : Nat) : wr.frozen? ⟨g, j, none⟩ = false := by
  subst hv
  have hn : n = F.length := by
    rcases h.o1.2 with ⟨e, _⟩ | ⟨g', cap, cur, e, _⟩
    · cases e
    · injection e with e1 e2 e3
  subst hn
  exact h.o1.frozenAt j
end
/-- what the region of a round reads. -/
def R3 (b p b' q : Nat) (xa xb : Int) (w : World) : Prop := w.cell? ⟨b, p, none⟩ = some (.int .i64 xa) ∧ w.cell? ⟨b', q, none⟩ = some (.int .i64 xb) ∧ b < w.heap.size ∧ b' < w.heap.size
theorem R3.go {b p b' q : Nat} {xa xb : Int} {w w' : World} (h : R3 b p b' q xa xb w) (hb : Below w.heap.size w w') : R3 b p b' q xa xb w' := by
  obtain ⟨h0, h1, l0, l1⟩ := h
  exact ⟨(hb.cell (p := ⟨b, p, none⟩) l0).trans h0, (hb.cell (p := ⟨b', q, none⟩) l1).trans h1, Nat.lt_of_lt_of_le l0 hb.size, Nat.lt_of_lt_of_le l1 hb.size⟩
theorem R3.drewN {b p b' q : Nat} {xa xb : Int} {w : World} (h : R3 b p b' q xa xb w) (n : Nat) : R3 b p b' q xa xb (w.drewN n) := h.go (below_drewN (Below.refl _ _) n)
theorem R3.grow {b p b' q : Nat} {xa xb : Int} {w w' : World} {row : Option Nat} (h : R3 b p b' q xa xb w) (hg : w.grownBy w' row) (hn : ∀ g, row = some g → g ≠ b ∧ g ≠ b') : R3 b p b' q xa xb w' := by
  obtain ⟨h0, h1, l0, l1⟩ := h
  have e0 : ∀ o, w'.cell? ⟨b, o, none⟩ = w.cell? ⟨b, o, none⟩ := fun o => World.cell?_of_block (hg.block b l0 (fun e => (hn b e.symm).1 rfl))
  have e1 : ∀ o, w'.cell? ⟨b', o, none⟩ = w.cell? ⟨b', o, none⟩ := fun o => World.cell?_of_block (hg.block b' l1 (fun e => (hn b' e.symm).2 rfl))
  exact ⟨(e0 _).trans h0, (e1 _).trans h1, Nat.lt_of_lt_of_le l0 hg.size, Nat.lt_of_lt_of_le l1 hg.size⟩
theorem OwnI.base {v : Value} {l : List Int} {w w1 w2 : World} (h : OwnI v l w1 w2) (hb : Below w.heap.size w w1) : OwnI v l w w2 := by
  refine ⟨?_, hb.trans (h.bel.mono hb.size)⟩
  obtain ⟨h1, h2⟩ := h.own
  refine ⟨h1, ?_⟩
  rcases h2 with h2 | ⟨g, cap, cur, h3, hB, h4⟩
  · exact Or.inl h2
  · exact Or.inr ⟨g, cap, cur, h3, Nat.le_trans hb.size hB, h4⟩
end Go.Proofs.Ytdnoadngfkiabaa
