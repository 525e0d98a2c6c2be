/-
  Contracts of the program's layer 6 (5): what column works on: the counts of the lists, and the rectangles so far.
-/
import Derived.Test.YtkjblmfmaenllaaHj
import Derived.Test.YtkjblmfmaenllaaHg
set_option linter.unusedVariables false
set_option maxRecDepth 100000
namespace Go.Proofs.Ytkjblmfmaenllaa
open Go.RowKit

/-- a list of sides that can be read, in a block below B. -/
def EdRow (w : World) (B : Nat) (A : Option Addr) (E : List Ed) : Prop := 0 < E.length → ∃ b off, A = some ⟨b, off, none⟩ ∧ b < B ∧ b < w.heap.size ∧
  ∀ j (h : j < E.length), w.cell? ⟨b, off + j * 5, none⟩ = some (.int .i64 E[j].x0) ∧ w.cell? ⟨b, off + j * 5 + 1, none⟩ = some (.int .i64 E[j].x1) ∧ w.cell? ⟨b, off + j * 5 + 2, none⟩ = some (.int .i64 E[j].y) ∧ w.cell? ⟨b, off + j * 5 + 3, none⟩ = some (.int .i64 (E[j].l : Int)) ∧ w.cell? ⟨b, off + j * 5 + 4, none⟩ = some (.int .i64 E[j].s)
theorem EdRow.below {w w' : World} {B B' : Nat} {A : Option Addr} {E : List Ed} (h : EdRow w B A E) (hb : Below B' w w') (hB : B ≤ B') : EdRow w' B A E := fun h0 => by
  obtain ⟨b, off, rfl, hB2, hl, hc⟩ := h h0
  have e := fun o => hb.cell (p := ⟨b, o, none⟩) (show b < B' by omega)
  refine ⟨b, off, rfl, hB2, Nat.lt_of_lt_of_le hl hb.size, fun j hj => ?_⟩
  obtain ⟨h0, h1, h2, h3, h4⟩ := hc j hj
  exact ⟨(e _).trans h0, (e _).trans h1, (e _).trans h2, (e _).trans h3, (e _).trans h4⟩
structure CW (nb m cn : Nat) (c : List Int) (v : Value) (l : List Rc) (w wr : World) : Prop where
  n : wr.ownsRow nb 3 1 (.slice (some ⟨nb, 0, none⟩) m cn) m (icells c)
  own : wr.ownsRow w.heap.size 35 4 v l.length (rcells l)
  bel : Below nb w wr
  lt : nb < w.heap.size
section
variable {nb m cn : Nat} {c : List Int} {v : Value} {l : List Rc} {w wr w' : World}
theorem CW.go (h : CW nb m cn c v l w wr) (hb : Below wr.heap.size wr w') : CW nb m cn c v l w w' :=
  ⟨own_go h.n hb, own_go h.own hb, h.bel.trans (hb.mono (Nat.le_of_lt (Nat.lt_of_lt_of_le h.lt h.bel.size))), h.lt⟩
theorem CW.len (h : CW nb m cn c v l w wr) : c.length = m := by have := h.n.1; simpa [icells] using this
theorem CW.cell (h : CW nb m cn c v l w wr) (j : Nat) (hj : j < c.length) : wr.cell? ⟨nb, j, none⟩ = some (.int .i64 c[j]) := by
  have := h.len
  rw [h.n.cellAt j (by omega)]; simp [icells, hj]
theorem CW.irow (h : CW nb m cn c v l w wr) : IRow wr (some ⟨nb, 0, none⟩) c := fun _ =>
  ⟨nb, 0, rfl, (h.n.lt nb rfl).2, fun j hj => by rw [Nat.zero_add]; exact h.cell j hj⟩
theorem CW.setn (h : CW nb m cn c v l w wr) (j : Nat) (x : Int) : CW nb m cn (c.set j x) v l w (wr.setCell ⟨nb, j, none⟩ (.int .i64 x)) := by
  obtain ⟨h1, h2⟩ := h.n.stored j (.int .i64 x)
  refine ⟨?_, own_stays h.own (fun g hg => set_other _ _ _ _ ?_), h.bel.setCell (Nat.le_refl _) _, h.lt⟩
  · rw [show icells (c.set j x) = (icells c).set j (.int .i64 x) by simp [icells, List.map_set]]; exact h1
  · have := (h.own.lt g hg).1; have := h.lt; simp only; omega
theorem CW.grown (h : CW nb m cn c v l w wr) {v' : Value} {l' : List Rc} (ho : w'.ownsRow w.heap.size 35 4 v' l'.length (rcells l')) (hg : wr.grownBy w' v.ownBlock) : CW nb m cn c v' l' w w' := by
  refine ⟨own_stays h.n (fun g hg2 => ?_), ho, Below.grown h.bel hg (Nat.le_of_lt (Nat.lt_of_lt_of_le h.lt h.bel.size)) (fun k hk => ?_), h.lt⟩
  · obtain rfl : nb = g := by simpa [Value.ownBlock] using hg2
    refine hg.block nb (h.n.lt nb rfl).2 (fun e => ?_)
    have := (h.own.lt nb e.symm).1; have := h.lt; omega
  · have := (h.own.lt k hk).1; have := h.lt; omega
theorem CW.setr (h : CW nb m cn c v l w wr) {g cap : Nat} (hv : v = .slice (some ⟨g, 0, none⟩) l.length cap) {j : Nat} {x : Int} {l' : List Rc} (hl : l'.length = l.length) (he : (rcells l).set j (.int .i64 x) = rcells l') : CW nb m cn c v l' w (wr.setCell ⟨g, j, none⟩ (.int .i64 x)) := by
  subst hv
  have hg := (h.own.lt g rfl).1
  have hn := h.lt
  obtain ⟨h1, h2⟩ := h.own.stored j (.int .i64 x)
  refine ⟨own_stays h.n (fun g2 hg2 => set_other _ _ _ _ ?_), ?_, h.bel.setCell (show nb ≤ g by omega) _, h.lt⟩
  · obtain rfl : nb = g2 := by simpa [Value.ownBlock] using hg2
    simp only; omega
  · rw [he] at h1; rw [hl]; exact h1
end
theorem cnt_bound (a b : Int) (k : Nat) {E : List Ed} (h : ∀ e ∈ E, e.s = 1 ∨ e.s = -1) : -(E.length : Int) ≤ sumE (ctE a b k) E ∧ sumE (ctE a b k) E ≤ E.length := by
  induction E with
  | nil => exact ⟨by simp [sumE], by simp [sumE]⟩
  | cons e E ih =>
    have h1 := h e List.mem_cons_self
    obtain ⟨h2, h3⟩ := ih (fun g hg => h g (List.mem_cons_of_mem _ hg))
    show _ ≤ ctE a b k e + sumE (ctE a b k) E ∧ ctE a b k e + sumE (ctE a b k) E ≤ _
    have h4 : -1 ≤ ctE a b k e ∧ ctE a b k e ≤ 1 := by unfold ctE; split <;> omega
    simp only [List.length_cons]
    omega
theorem cnts_next (a b : Int) (m : Nat) (E : List Ed) (k : Nat) (h : k < E.length) : cntsE a b m (E.take (k + 1)) = if E[k].x0 ≤ a ∧ b ≤ E[k].x1 then (cntsE a b m (E.take k)).modify E[k].l (· + E[k].s) else cntsE a b m (E.take k) := by
  rw [List.take_succ_eq_append_getElem h, cntsE_snoc]
theorem modify_set (c : List Int) (j : Nat) (h : j < c.length) (s : Int) : c.modify j (· + s) = c.set j (c[j] + s) := by
  apply List.ext_getElem
  · simp
  · intro i h1 h2
    rw [List.getElem_modify, List.getElem_set]
    by_cases e : j = i
    · subst e; simp
    · simp [e]
end Go.Proofs.Ytkjblmfmaenllaa
