/-
  Contracts of the reference of layer 6 (6): Form.
-/
import Derived.Test.YtdnoadngfkiabaaP933
import Derived.Test.YtdnoadngfkiabaaP934
import Derived.Test.YtdnoadngfkiabaaP918
import Derived.Test.YtdnoadngfkiabaaP901
import Derived.Test.YtdnoadngfkiabaaP903
import Derived.BigQuiet
import Derived.Deep.AppendLies
import Derived.Deep.RegionHeld3
set_option linter.unusedVariables false
set_option maxRecDepth 100000
namespace Go.Proofs.Ytdnoadngfkiabaa
open Go.RowKit

theorem vown_apart {w : World} {B B' e e' s s' n n' : Nat} {v v' : Value} {xs xs' : List Value} (h : w.ownsRow B e s v n xs) (h' : w.ownsRow B' e' s' v' n' xs') (hne : e ≠ e') : ∀ g, v.ownBlock = some g → v'.ownBlock ≠ some g := by
  intro g hg hg'
  obtain ⟨_, h⟩ := h
  obtain ⟨_, h'⟩ := h'
  rcases h with ⟨rfl, _⟩ | ⟨g1, cap, cur, rfl, _, hc, _⟩
  · simp [Value.ownBlock] at hg
  · rcases h' with ⟨rfl, _⟩ | ⟨g2, cap2, cur2, rfl, _, hc2, _⟩
    · simp [Value.ownBlock] at hg'
    · simp only [Value.ownBlock, Option.some.injEq] at hg hg'
      subst hg; subst hg'
      rw [hc] at hc2
      simp only [Option.some.injEq, Obj.cells.injEq] at hc2
      exact hne hc2.2.1
theorem vown_kept {w w' : World} {B B' e e' s s' n n' : Nat} {v v' : Value} {xs xs' : List Value} (h : w.ownsRow B e s v n xs) (h' : w.ownsRow B' e' s' v' n' xs') (hne : e' ≠ e) (hg : w.grownBy w' v.ownBlock) : w'.ownsRow B' e' s' v' n' xs' :=
  own_stays h' (fun g hgb => hg.block g (h'.lt g hgb).2 (fun e => vown_apart h' h hne g hgb e.symm))
/-- what Form works on: the rectangles so far, the column before, the edges; all in the call's own memory. -/
structure FoW (vo vw vx : Value) (F : List Rc) (W E : List Int) (w wr : World) : Prop where
  o1 : wr.ownsRow w.heap.size 43 4 vo F.length (rcells F)
  o2 : wr.ownsRow w.heap.size 3 1 vw W.length (icells W)
  o3 : wr.ownsRow w.heap.size 3 1 vx E.length (icells E)
  bel : Below w.heap.size w wr
section
variable {vo vw vx : Value} {F : List Rc} {W E : List Int} {w wr w' : World}
theorem FoW.go (h : FoW vo vw vx F W E w wr) (hb : Below wr.heap.size wr w') : FoW vo vw vx F W E w w' :=
  ⟨own_go h.o1 hb, own_go h.o2 hb, own_go h.o3 hb, h.bel.trans (hb.mono h.bel.size)⟩
theorem FoW.grow {vo' : Value} {F' : List Rc} (h : FoW vo vw vx F W E w wr) (ho : w'.ownsRow w.heap.size 43 4 vo' F'.length (rcells F')) (hg : wr.grownBy w' vo.ownBlock) : FoW vo' vw vx F' W E w w' :=
  ⟨ho, vown_kept h.o1 h.o2 (by decide) hg, vown_kept h.o1 h.o3 (by decide) hg, Below.grown h.bel hg h.bel.size (fun k hk => (h.o1.lt k hk).1)⟩
theorem FoW.set {g n cap : Nat} (h : FoW (.slice (some ⟨g, 0, none⟩) n cap) vw vx F W E w wr) (hn : n = F.length) {j : Nat} {x : Int} {F' : List Rc} (hl : F'.length = F.length) (he : (rcells F).set j (.int .i64 x) = rcells F') : FoW (.slice (some ⟨g, 0, none⟩) n cap) vw vx F' W E w (wr.setCell ⟨g, j, none⟩ (.int .i64 x)) := by
  subst hn
  have hg := (h.o1.lt g rfl).1
  obtain ⟨h1, h2⟩ := h.o1.stored j (.int .i64 x)
  refine ⟨?_, own_stays h.o2 (fun g2 hg2 => set_other _ _ _ _ ?_), own_stays h.o3 (fun g2 hg2 => set_other _ _ _ _ ?_), h.bel.setCell hg _⟩
  · rw [he] at h1; rw [hl]; exact h1
  · intro e
    exact vown_apart h.o1 h.o2 (by decide) g rfl (by rw [hg2, e])
  · intro e
    exact vown_apart h.o1 h.o3 (by decide) g rfl (by rw [hg2, e])
theorem FoW.col {vc : Value} {C : List Int} (h : FoW vo vw vx F W E w wr) (ho : wr.ownsRow w.heap.size 3 1 vc C.length (icells C)) : FoW vo vc vx F C E w wr := ⟨h.o1, ho, h.o3, h.bel⟩
end
/-- what the region of the columns reads. -/
def E1 (b p : Nat) (x : Int) (w : World) : Prop := w.cell? ⟨b, p, none⟩ = some (.int .i64 x) ∧ b < w.heap.size
theorem E1.go {b p : Nat} {x : Int} {w w' : World} (h : E1 b p x w) (hb : Below w.heap.size w w') : E1 b p x w' := ⟨(hb.cell (p := ⟨b, p, none⟩) h.2).trans h.1, Nat.lt_of_lt_of_le h.2 hb.size⟩
theorem E1.drewN {b p : Nat} {x : Int} {w : World} (h : E1 b p x w) (n : Nat) : E1 b p x (w.drewN n) := h.go (below_drewN (Below.refl _ _) n)
/-- what the region of a new rectangle reads. -/
def E4 (b p q c r s : Nat) (x y u v : Int) (w : World) : Prop := w.cell? ⟨b, p, none⟩ = some (.int .i64 x) ∧ w.cell? ⟨b, q, none⟩ = some (.int .i64 y) ∧ w.cell? ⟨c, r, none⟩ = some (.int .i64 u) ∧ w.cell? ⟨c, s, none⟩ = some (.int .i64 v) ∧ b < w.heap.size ∧ c < w.heap.size
section
variable {b p q c r s : Nat} {x y u v : Int} {w w' : World}
theorem E4.go (h : E4 b p q c r s x y u v w) (hb : Below w.heap.size w w') : E4 b p q c r s x y u v w' := by
  obtain ⟨h0, h1, h2, h3, l0, l1⟩ := h
  exact ⟨(hb.cell (p := ⟨b, p, none⟩) l0).trans h0, (hb.cell (p := ⟨b, q, none⟩) l0).trans h1, (hb.cell (p := ⟨c, r, none⟩) l1).trans h2, (hb.cell (p := ⟨c, s, none⟩) l1).trans h3, Nat.lt_of_lt_of_le l0 hb.size, Nat.lt_of_lt_of_le l1 hb.size⟩
theorem E4.drewN (h : E4 b p q c r s x y u v w) (n : Nat) : E4 b p q c r s x y u v (w.drewN n) := h.go (below_drewN (Below.refl _ _) n)
theorem E4.grow {row : Option Nat} (h : E4 b p q c r s x y u v w) (hg : w.grownBy w' row) (hn : ∀ g, row = some g → g ≠ b ∧ g ≠ c) : E4 b p q c r s x y u v w' := by
  obtain ⟨h0, h1, h2, h3, l0, l1⟩ := h
  have e0 : ∀ o, w'.cell? ⟨b, o, none⟩ = w.cell? ⟨b, o, none⟩ := fun o => World.cell?_of_block (hg.block b l0 (fun e => (hn b e.symm).1 rfl))
  have e1 : ∀ o, w'.cell? ⟨c, o, none⟩ = w.cell? ⟨c, o, none⟩ := fun o => World.cell?_of_block (hg.block c l1 (fun e => (hn c e.symm).2 rfl))
  exact ⟨(e0 _).trans h0, (e0 _).trans h1, (e1 _).trans h2, (e1 _).trans h3, Nat.lt_of_lt_of_le l0 hg.size, Nat.lt_of_lt_of_le l1 hg.size⟩
end
end Go.Proofs.Ytdnoadngfkiabaa
