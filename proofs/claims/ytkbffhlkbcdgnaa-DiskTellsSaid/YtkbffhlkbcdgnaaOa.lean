/-
  tell: the reference's step for an act.
-/
import Derived.Test.YtkbffhlkbcdgnaaNd
import Derived.Test.YtkbffhlkbcdgnaaRj
import Derived.Test.YtkbffhlkbcdgnaaRm
set_option linter.unusedVariables false
set_option maxRecDepth 100000
namespace Go.Proofs.Ytkbffhlkbcdgnaa
open Go.RowKit

/-- the reference's step for an act. -/
def rstep (s : RSt) (x : DAct) : RSt × Int :=
  if x.k % 8 = 2 then s.synced x.f else if x.k % 8 = 3 then s.cut x.f x.n else if x.k % 8 = 4 then ({ s with lost := (x.n % 4).toNat }, 0)
  else if x.k % 8 = 5 then ({ s with armed := x.n.toNat, keep := x.kl }, 0) else if x.k % 8 = 6 then (s.crashed x.kl, 0) else if x.k % 8 = 7 then ({ s with down := false }, 0) else s.wrote x.f x.n x.s.data.toList

theorem rep_step {s : RSt} {d : Dk} (h : Rep s d) (x : DAct) : Rep (rstep s x).1 (astep d x).1 ∧ (rstep s x).2 = (astep d x).2 := by
  unfold rstep astep Dk.step
  have hc : x.k % 8 = 0 ∨ x.k % 8 = 1 ∨ x.k % 8 = 2 ∨ x.k % 8 = 3 ∨ x.k % 8 = 4 ∨ x.k % 8 = 5 ∨ x.k % 8 = 6 ∨ x.k % 8 = 7 := by omega
  rcases hc with k | k | k | k | k | k | k | k
  all_goals rw [k]
  · exact rep_wrote h x.f x.n x.s.data.toList
  · exact rep_wrote h x.f x.n x.s.data.toList
  · exact rep_synced h x.f
  · exact rep_cut h x.f x.n
  · exact ⟨rep_lose h (x.n % 4), rfl⟩
  · exact ⟨rep_armed h x.n x.kl, rfl⟩
  · exact ⟨rep_crashed h x.kl, rfl⟩
  · exact ⟨rep_start h, rfl⟩

end Go.Proofs.Ytkbffhlkbcdgnaa
