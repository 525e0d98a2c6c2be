/-
  PlaneRooms: the walk.
-/
import Derived.Test.YtkjblmfmaenllaaGreatR4
import Derived.Test.YtkjblmfmaenllaaGreatW3
import Derived.Test.YtkjblmfmaenllaaGreatW2
set_option linter.unusedVariables false
set_option maxRecDepth 100000
namespace Go.Proofs.YtkjblmfmaenllaaGreat
open Go.RowKit

/-- the rectangle in its box, the planes, and that nothing that was there has turned. -/
structure LK (r : Rc) (A : Option Addr) (cap : Nat) (l : List Pl) (w w' : World) : Prop where
  r : RcAt w' w.heap.size r
  p : PlIn w' A cap l
  b : Below w.heap.size w w'
theorem LK.go {r : Rc} {A : Option Addr} {cap : Nat} {l : List Pl} {w w1 w' : World} (h : LK r A cap l w w1) (hb : Below w1.heap.size w1 w') : LK r A cap l w w' := ⟨h.r.below hb h.r.lt, h.p.below hb, h.b.trans (hb.mono h.b.size)⟩
theorem LK.start {r : Rc} {A : Option Addr} {cap : Nat} {l : List Pl} {w : World} (h : PlIn w A cap l) : LK r A cap l w (w.alloc (.cells #[.int .i64 r.X0, .int .i64 r.Y0, .int .i64 r.X1, .int .i64 r.Y1] 33)) :=
  have hb := (Below.refl w.heap.size w).alloc (Nat.le_refl _) (.cells #[.int .i64 r.X0, .int .i64 r.Y0, .int .i64 r.X1, .int .i64 r.Y1] 33)
  ⟨RcAt.new w r _ rfl, h.below hb, hb⟩
theorem ArgOk.take {r : Rc} {l : List Pl} (h : ArgOk r l) (n : Nat) : ArgOk r (l.take n) := ⟨h.1, fun p hp => h.2 p (List.mem_of_mem_take hp)⟩
/-- what the slice of some planes reads. -/
def Rx5 (gb : Nat) (r : Rc) (W w' : World) : Prop := w'.cell? ⟨gb, 0, none⟩ = some (.int .i64 r.X0) ∧ w'.cell? ⟨gb, 1, none⟩ = some (.int .i64 r.Y0) ∧ w'.cell? ⟨gb, 2, none⟩ = some (.int .i64 r.X1) ∧ w'.cell? ⟨gb, 3, none⟩ = some (.int .i64 r.Y1) ∧ gb < w'.heap.size ∧ Hid (Below W.heap.size W w')
theorem Rx5.go {gb : Nat} {r : Rc} {W w w' : World} (h : Rx5 gb r W w) (hb : Below w.heap.size w w') : Rx5 gb r W w' := by
  obtain ⟨c0, c1, c2, c3, l2, h5⟩ := h
  have wd := fun o => hb.cell (p := ⟨gb, o, none⟩) l2
  exact ⟨(wd _).trans c0, (wd _).trans c1, (wd _).trans c2, (wd _).trans c3, Nat.lt_of_lt_of_le l2 hb.size, Lib.hid (h5.out.trans (hb.mono h5.out.size))⟩
theorem Rx5.drewN {gb : Nat} {r : Rc} {W w : World} (h : Rx5 gb r W w) (n : Nat) : Rx5 gb r W (w.drewN n) := h.go (below_drewN (Below.refl _ _) n)
theorem Rx5.bel {gb : Nat} {r : Rc} {W w : World} (h : Rx5 gb r W w) : Below W.heap.size W w := h.2.2.2.2.2.out
def RmN (F : List Rc) (n : Nat) (er : Int) (w : World) (e : Ending) (w' : World) : Prop := ∃ A, e = .returned (.tuple #[.slice A n n, .int .i64 er]) ∧ RIn w' A n F ∧ Below w.heap.size w w'
theorem RmE.n {x : List Rc × Int} (hl : x.1.length ≤ 1) {w w' : World} {e : Ending} (h : RmE x w e w') : RmN x.1 x.1.length x.2 w e w' := by
  obtain ⟨A, rfl, hr, hb⟩ := h
  exact ⟨A, rfl, ⟨hr, by omega, Nat.le_refl _, by omega⟩, hb⟩
end Go.Proofs.YtkjblmfmaenllaaGreat
