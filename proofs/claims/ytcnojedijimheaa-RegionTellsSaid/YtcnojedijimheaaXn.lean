/-
  Small texts of the reference's walks: Right as a bool, a new rectangle's cells, a slice of rectangles that grows.
-/
import Derived.Test.YtcnojedijimheaaGw
set_option linter.unusedVariables false
set_option maxRecDepth 100000
namespace Go.Proofs.Ytcnojedijimheaa
open Go.RowKit

theorem vRight_dec (A : Option Addr) (cap : Nat) (l : List Rc) (w : World) (h : RIn w A cap l) : Calls Try.prog 26 #[.slice A l.length cap] w (BlIs (decide (RegP l)) w) := by
  by_cases hr : RegP l
  · rw [decide_eq_true hr]; exact vRight_yes A cap l w h.row h.len hr
  · rw [decide_eq_false hr]; exact vRight_no A cap l w h.row h.len hr
theorem new_rect (w : World) (r : Rc) (g : Nat) (hg : g = w.heap.size) : ∀ t u, [Value.int .i64 r.X0, .int .i64 r.Y0, .int .i64 r.X1, .int .i64 r.Y1][t]? = some u → (w.alloc (.cells #[.int .i64 r.X0, .int .i64 r.Y0, .int .i64 r.X1, .int .i64 r.Y1] 41)).cell? ((⟨g, 0, none⟩ : Addr).add t) = some u := by
  subst hg
  intro t u ht
  match t, ht with
  | 0, ht => simp at ht; subst ht; simp [Addr.add]
  | 1, ht => simp at ht; subst ht; simp [Addr.add]
  | 2, ht => simp at ht; subst ht; simp [Addr.add]
  | 3, ht => simp at ht; subst ht; simp [Addr.add]
theorem InR_of {r : Rc} (h : ROk r) : InR r := by unfold ROk Span at h; unfold InR In64; omega
/-- a slice of rectangles that the call made, and nothing that was there has turned. -/
structure OwnQ (v : Value) (l : List Rc) (w wr : World) : Prop where
  own : wr.ownsRow w.heap.size 41 4 v l.length (rcells l)
  bel : Below w.heap.size w wr
theorem OwnQ.go {v : Value} {l : List Rc} {w wr w' : World} (h : OwnQ v l w wr) (hb : Below wr.heap.size wr w') : OwnQ v l w w' := ⟨own_go h.own hb, h.bel.trans (hb.mono h.bel.size)⟩
theorem OwnQ.snoc {v v' : Value} {l : List Rc} {r : Rc} {n : Nat} {w wr w' : World} (h : OwnQ v l w wr) (hn : n = l.length + 1) (ho : w'.ownsRow w.heap.size 41 4 v' n (rcells l ++ [.int .i64 r.X0, .int .i64 r.Y0, .int .i64 r.X1, .int .i64 r.Y1])) (hg : wr.grownBy w' v.ownBlock) : OwnQ v' (l ++ [r]) w w' :=
  ⟨by rw [rcells_append, List.length_append]; rw [hn] at ho; exact ho, Below.grown h.bel hg h.bel.size (fun k hk => (h.own.lt k hk).1)⟩
end Go.Proofs.Ytcnojedijimheaa
