/-
  Mathematics of the laws of layer 11: what Blocked and Ray say of a solid's cubes; unions, steps, multiples, moves, samples.
  The laws' examples (small).
-/
import Derived.Test.YtdnoadngfkiabaaU24
import Derived.Test.YtdnoadngfkiabaaU04
import Derived.Test.YtdnoadngfkiabaaU07
import Derived.Test.YtdnoadngfkiabaaU26
set_option linter.unusedVariables false
set_option maxRecDepth 100000
namespace Go.Proofs.Ytdnoadngfkiabaa
open Go.RowKit

/-! ### unions -/
/-! ### steps -/
/-! ### multiples -/
/-! ### moves -/
/-! ### samples -/
end Go.Proofs.Ytdnoadngfkiabaa
namespace Go.Proofs.Ytdnoadngfkiabaa
open Go.RowKit

/-- a result that can be read: a region's list and an error. -/
def RR (l : List Rc) (n : Nat) (er : Int) (w : World) (e : Ending) (w' : World) : Prop := ∃ A c, e = .returned (.tuple #[.slice A n c, .int .i64 er]) ∧ RIn w' A c l ∧ Below w.heap.size w w'
theorem ResIs.rr {x : List Rc × Int} {w : World} {e : Ending} {w' : World} (h : ResIs x w e w') (hl : x.1.length ≤ 1099511627776) : RR x.1 x.1.length x.2 w e w' := by
  obtain ⟨v, rfl, h1, h2⟩ := h
  obtain ⟨A, cap, rfl, r1, r2, r3, _⟩ := own_rects h1
  exact ⟨A, cap, rfl, ⟨r1, hl, r2, r3⟩, h2⟩
/-- a block of rectangles. -/
def RB (w : World) (b : Nat) (l : List Rc) : Prop := w.heap[b]? = some (.cells (rcells l).toArray 43 (0, 0))
theorem RB.lt {w : World} {b : Nat} {l : List Rc} (h : RB w b l) : b < w.heap.size := (Array.getElem?_eq_some_iff.1 h).1
theorem RB.below {w w' : World} {b : Nat} {l : List Rc} (h : RB w b l) (hb : Below w.heap.size w w') : RB w' b l := (hb.block b h.lt).trans h
theorem RB.row {w : World} {b : Nat} {l : List Rc} (h : RB w b l) (hl : l.length ≤ 1099511627776) : RIn w (some ⟨b, 0, none⟩) l.length l := by
  refine ⟨fun _ => ⟨b, 0, rfl, h.lt, fun j hj => ?_⟩, hl, Nat.le_refl _, by omega⟩
  obtain ⟨e0, e1, e2, e3⟩ := rcells_at l j hj
  rw [Nat.zero_add]
  have c := fun i v (hv : (rcells l)[i]? = some v) => show w.cell? ⟨b, i, none⟩ = some v by
    rw [Lib.cell_of_heap h]; simpa using hv
  exact ⟨c _ _ e0, c _ _ e1, c _ _ e2, c _ _ e3⟩
theorem RB.new (w : World) (l : List Rc) (o : Array Value) (ho : o = (rcells l).toArray) : RB (w.alloc (.cells o 43)) w.heap.size l := by subst ho; exact heap_alloc_new w _
def L1 : List Rc := [⟨0, 0, 2, 2⟩, ⟨1, 1, 3, 3⟩]
def L2 : List Rc := [⟨0, 0, 3, 3⟩]
/-- what the walk keeps: blocks of rectangles, lists at slices, and that nothing that was there has turned. -/
def SK (L : List (Nat × List Rc)) (M : List (Option Addr × Nat × List Rc)) (w0 w : World) : Prop := (∀ p ∈ L, RB w p.1 p.2) ∧ (∀ p ∈ M, RIn w p.1 p.2.1 p.2.2) ∧ Below w0.heap.size w0 w
theorem SK.go {L : List (Nat × List Rc)} {M : List (Option Addr × Nat × List Rc)} {w0 w w' : World} (h : SK L M w0 w) (hb : Below w.heap.size w w') : SK L M w0 w' :=
  ⟨fun p hp => (h.1 p hp).below hb, fun p hp => (h.2.1 p hp).below hb, h.2.2.trans (hb.mono h.2.2.size)⟩
theorem SK.new {L : List (Nat × List Rc)} {M : List (Option Addr × Nat × List Rc)} {w0 w : World} (h : SK L M w0 w) (l : List Rc) (o : Array Value) (ho : o = (rcells l).toArray) (k : Nat) (hk : k = w.heap.size) : SK ((k, l) :: L) M w0 (w.alloc (.cells o 43)) := by
  subst hk
  have hg : Below w.heap.size w (w.alloc (.cells o 43)) := (Below.refl _ _).alloc (Nat.le_refl _) _
  have h2 := h.go hg
  refine ⟨fun p hp => ?_, h2.2⟩
  rcases List.mem_cons.1 hp with rfl | hp
  · exact RB.new w l o ho
  · exact h2.1 p hp
theorem SK.add {L : List (Nat × List Rc)} {M : List (Option Addr × Nat × List Rc)} {w0 w w' : World} (h : SK L M w0 w) (hb : Below w.heap.size w w') {A : Option Addr} {c : Nat} {l : List Rc} (hr : RIn w' A c l) : SK L ((A, c, l) :: M) w0 w' := by
  have h2 := h.go hb
  refine ⟨h2.1, fun p hp => ?_, h2.2.2⟩
  rcases List.mem_cons.1 hp with rfl | hp
  · exact hr
  · exact h2.2.1 p hp
end Go.Proofs.Ytdnoadngfkiabaa
