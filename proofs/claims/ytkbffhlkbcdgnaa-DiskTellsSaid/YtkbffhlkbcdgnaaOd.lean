/-
  The program's disk and the reference's, side by side.
-/
import Derived.Test.YtkbffhlkbcdgnaaOc
set_option linter.unusedVariables false
set_option maxRecDepth 100000
namespace Go.Proofs.Ytkbffhlkbcdgnaa
open Go.RowKit

/-- a step of the reference leaves the program's disk. -/
theorem DAt.ref {r : Nat} {L : Lay} {d : Dk} {n B : Nat} {w w' : World} (h : DAt r L d n w) (k : RFr B w w') : DAt r L d n w' := h.kept fun b c z T hT hl => k.block b hl (.inr fun c' z' => by
  rcases hT with ho | ⟨hb, rfl⟩
  · exact ⟨fun e => h.int_free e (by decide) (by decide) (by decide) (by decide) ho, fun e => h.int_free e (by decide) (by decide) (by decide) (by decide) ho⟩
  · rw [hb]
    exact ⟨fun e => by simp at e, fun e => by simp at e⟩)
/-- a step of the program's disk leaves the reference's. -/
theorem RAt.step {r B : Nat} {s : RSt} {r2 : Nat} {L L' : Lay} {d : Dk} {n : Nat} {w w' : World} (h : RAt r B s w) (hd : DAt r2 L d n w) (k : PStep r2 L L' w w') : RAt r B s w' := by
  obtain ⟨F, Q, K, h1, h2, h3, h4, h5⟩ := h
  refine ⟨F, Q, K, (k.fr.block r (brow_lt h1) (hd.int_free h1 (by decide) (by decide) (by decide) (by decide))).trans h1, own_keep h2 ?_, own_keep h3 ?_, own_keep h4 ?_, h5⟩
  all_goals intro g c z hg; exact k.fr.block g (brow_lt hg) (hd.int_free hg (by decide) (by decide) (by decide) (by decide))
/-- a step of the program's disk leaves what came in, and a step of the reference's too. -/
theorem RFr.bel {W w w' : World} (h : Below W.heap.size W w) (k : RFr W.heap.size w w') : Below W.heap.size W w' :=
  h.trans ⟨k.os, k.tape, k.output, k.size, fun i hi => k.block i (Nat.lt_of_lt_of_le hi h.size) (.inl hi)⟩
theorem Held.ref {W : World} {r : Nat} {L : Lay} {d : Dk} {n : Nat} {w w' : World} (h : Held W r L d n w) (k : RFr W.heap.size w w') : Held W r L d n w' := ⟨h.at_.ref k, k.bel h.bel, h.own⟩

end Go.Proofs.Ytkbffhlkbcdgnaa
