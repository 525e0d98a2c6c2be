/-
  The laws' examples of layer 5 (small).
-/
import Derived.Test.YtpbkmphpgjdpfaaEl
import Derived.Test.YtpbkmphpgjdpfaaEm
import Derived.Test.YtpbkmphpgjdpfaaEn
import Derived.Test.YtpbkmphpgjdpfaaEo
import Derived.Test.YtpbkmphpgjdpfaaEp
set_option linter.unusedVariables false
set_option maxRecDepth 100000
namespace Go.Proofs.Ytpbkmphpgjdpfaa
open Go.RowKit

theorem RcAt.c0 {w : World} {b : Nat} {p q r s : Int} (h : RcAt w b ⟨p, q, r, s⟩) : w.cell? ⟨b, 0, none⟩ = some (.int .i64 p) := h.cell0
theorem RcAt.c1 {w : World} {b : Nat} {p q r s : Int} (h : RcAt w b ⟨p, q, r, s⟩) : w.cell? ⟨b, 1, none⟩ = some (.int .i64 q) := h.cell1
theorem RcAt.c2 {w : World} {b : Nat} {p q r s : Int} (h : RcAt w b ⟨p, q, r, s⟩) : w.cell? ⟨b, 2, none⟩ = some (.int .i64 r) := h.cell2
theorem RcAt.c3 {w : World} {b : Nat} {p q r s : Int} (h : RcAt w b ⟨p, q, r, s⟩) : w.cell? ⟨b, 3, none⟩ = some (.int .i64 s) := h.cell3
/-- the rectangles at these blocks, and that nothing that was there at w0 has turned. -/
def Keep : List (Nat × Rc) → World → World → Prop
  | [], w0, w => Below w0.heap.size w0 w
  | (b, r) :: L, w0, w => RcAt w b r ∧ Keep L w0 w
theorem Keep.go : ∀ {L : List (Nat × Rc)} {w0 w w' : World}, Keep L w0 w → Below w.heap.size w w' → Keep L w0 w'
  | [], _, _, _, h, hb => Below.trans h (Below.mono hb (Below.size h))
  | (_, _) :: _, _, _, _, h, hb => ⟨h.1.below hb h.1.lt, Keep.go h.2 hb⟩
theorem Keep.below : ∀ {L : List (Nat × Rc)} {w0 w : World}, Keep L w0 w → Below w0.heap.size w0 w
  | [], _, _, h => h
  | (_, _) :: _, _, _, h => Keep.below h.2
theorem Keep.alloc {L : List (Nat × Rc)} {w0 w : World} (h : Keep L w0 w) (o : Obj) : Keep L w0 (w.alloc o) := h.go ((Below.refl _ _).alloc (Nat.le_refl _) o)
theorem Keep.drewN {L : List (Nat × Rc)} {w0 w : World} (h : Keep L w0 w) (n : Nat) : Keep L w0 (w.drewN n) := h.go (below_drewN (Below.refl _ _) n)
theorem Keep.new {L : List (Nat × Rc)} {w0 w : World} (h : Keep L w0 w) (r : Rc) : Keep ((w.heap.size, r) :: L) w0 (w.alloc (.cells #[.int .i64 r.X0, .int .i64 r.Y0, .int .i64 r.X1, .int .i64 r.Y1] 23)) := ⟨RcAt.new w r _ rfl, h.alloc _⟩
theorem Keep.new' {L : List (Nat × Rc)} {w0 w : World} (h : Keep L w0 w) (r : Rc) (k : Nat) (hk : k = w.heap.size) : Keep ((k, r) :: L) w0 (w.alloc (.cells #[.int .i64 r.X0, .int .i64 r.Y0, .int .i64 r.X1, .int .i64 r.Y1] 23)) := ⟨RcAt.new w r k hk, h.alloc _⟩
theorem Keep.nil (w : World) : Keep [] w w := Below.refl _ _
theorem in64_small {n : Int} (h : -100 ≤ n ∧ n ≤ 100) : In64 n := ⟨by omega, by omega⟩
theorem inR_small {a b c d : Int} (h : (-100 ≤ a ∧ a ≤ 100) ∧ (-100 ≤ b ∧ b ≤ 100) ∧ (-100 ≤ c ∧ c ≤ 100) ∧ -100 ≤ d ∧ d ≤ 100) : InR ⟨a, b, c, d⟩ := ⟨in64_small h.1, in64_small h.2.1, in64_small h.2.2.1, in64_small h.2.2.2⟩
theorem ex1 (w : World) : Calls Try.prog 10 #[.agg #[.int .i64 0, .int .i64 0, .int .i64 3, .int .i64 2], .agg #[.int .i64 2, .int .i64 1, .int .i64 9, .int .i64 9]] w (RbIs (⟨2, 1, 3, 2⟩, true) w) := by
  have := tinter_any ⟨0, 0, 3, 2⟩ ⟨2, 1, 9, 9⟩ w
  rwa [show interR ⟨0, 0, 3, 2⟩ ⟨2, 1, 9, 9⟩ = (⟨2, 1, 3, 2⟩, true) from by decide +kernel] at this
theorem ex2 (w : World) : Calls Try.prog 12 #[.agg #[.int .i64 1, .int .i64 5, .int .i64 2, .int .i64 6], .int .i64 3] w (RbIs (⟨0, 2, 5, 9⟩, true) w) := by
  have := tgrow_any ⟨1, 5, 2, 6⟩ 3 (in64_small (by decide)) w
  rwa [show growR ⟨1, 5, 2, 6⟩ 3 = (⟨0, 2, 5, 9⟩, true) from by decide +kernel] at this
theorem ex3 (w : World) : Calls Try.prog 14 #[.agg #[.int .i64 0, .int .i64 0, .int .i64 5, .int .i64 3], .int .i64 1] w (RbIs (⟨1, 1, 4, 2⟩, true) w) := by
  have := tshrink_any ⟨0, 0, 5, 3⟩ 1 (in64_small (by decide)) w
  rwa [show shrinkR ⟨0, 0, 5, 3⟩ 1 = (⟨1, 1, 4, 2⟩, true) from by decide +kernel] at this
theorem ex4 (w : World) : Calls Try.prog 14 #[.agg #[.int .i64 0, .int .i64 0, .int .i64 5, .int .i64 3], .int .i64 2] w (RbIs (⟨0, 0, 0, 0⟩, false) w) := by
  have := tshrink_any ⟨0, 0, 5, 3⟩ 2 (in64_small (by decide)) w
  rwa [show shrinkR ⟨0, 0, 5, 3⟩ 2 = (⟨0, 0, 0, 0⟩, false) from by decide +kernel] at this
theorem ex5 (w : World) (A : Option Addr) (c : Nat) (h : RRow w A [⟨1, 1, 1, 2⟩]) : Calls Try.prog 28 #[.slice A 1 c] w (RbIs (⟨0, 0, 0, 0⟩, false) w) := by
  have := tbounds_any A c [⟨1, 1, 1, 2⟩] w (by simp) h
  rwa [show boundsR [⟨1, 1, 1, 2⟩] = (⟨0, 0, 0, 0⟩, false) from by decide +kernel] at this
theorem ex6 (w : World) (A : Option Addr) (c : Nat) (h : RRow w A [⟨5, 0, 6, 1⟩, ⟨0, 0, 0, 0⟩, ⟨3, 2, 4, 4⟩]) : Calls Try.prog 28 #[.slice A 3 c] w (RbIs (⟨3, 0, 6, 4⟩, true) w) := by
  have := tbounds_any A c [⟨5, 0, 6, 1⟩, ⟨0, 0, 0, 0⟩, ⟨3, 2, 4, 4⟩] w (by simp) h
  rwa [show boundsR [⟨5, 0, 6, 1⟩, ⟨0, 0, 0, 0⟩, ⟨3, 2, 4, 4⟩] = (⟨3, 0, 6, 4⟩, true) from by decide +kernel] at this
theorem ex7 (w : World) : Calls Try.prog 18 #[.agg #[.int .i64 0, .int .i64 0, .int .i64 3, .int .i64 2]] w (InIs 6 w) := by
  have := tarea_any ⟨0, 0, 3, 2⟩ (inR_small (by decide)) w
  rwa [show areaR ⟨0, 0, 3, 2⟩ = 6 from by decide +kernel] at this
theorem ex8 (w : World) : Calls Try.prog 26 #[.agg #[.int .i64 0, .int .i64 0, .int .i64 3, .int .i64 2], .agg #[.int .i64 3, .int .i64 2, .int .i64 4, .int .i64 4]] w (InIs (0) w) := by
  have := tgap_any ⟨0, 0, 3, 2⟩ ⟨3, 2, 4, 4⟩ w
  rwa [show gapR ⟨0, 0, 3, 2⟩ ⟨3, 2, 4, 4⟩ = 0 from by decide +kernel] at this
theorem ex9 (w : World) : Calls Try.prog 26 #[.agg #[.int .i64 0, .int .i64 0, .int .i64 3, .int .i64 2], .agg #[.int .i64 5, .int .i64 0, .int .i64 6, .int .i64 1]] w (InIs (2) w) := by
  have := tgap_any ⟨0, 0, 3, 2⟩ ⟨5, 0, 6, 1⟩ w
  rwa [show gapR ⟨0, 0, 3, 2⟩ ⟨5, 0, 6, 1⟩ = 2 from by decide +kernel] at this
theorem ex10 (w : World) : Calls Try.prog 26 #[.agg #[.int .i64 0, .int .i64 0, .int .i64 3, .int .i64 2], .agg #[.int .i64 0, .int .i64 0, .int .i64 0, .int .i64 0]] w (InIs (-1) w) := by
  have := tgap_any ⟨0, 0, 3, 2⟩ ⟨0, 0, 0, 0⟩ w
  rwa [show gapR ⟨0, 0, 3, 2⟩ ⟨0, 0, 0, 0⟩ = -1 from by decide +kernel] at this
theorem ex11 (w : World) : Calls Try.prog 24 #[.agg #[.int .i64 0, .int .i64 0, .int .i64 3, .int .i64 2], .agg #[.int .i64 3, .int .i64 2, .int .i64 4, .int .i64 4]] w (BlIs false w) := by
  have := ttouch_any ⟨0, 0, 3, 2⟩ ⟨3, 2, 4, 4⟩ w
  rwa [show decide (TouchR ⟨0, 0, 3, 2⟩ ⟨3, 2, 4, 4⟩) = false from by decide +kernel] at this
theorem ex12 (w : World) : Calls Try.prog 24 #[.agg #[.int .i64 0, .int .i64 0, .int .i64 3, .int .i64 2], .agg #[.int .i64 3, .int .i64 1, .int .i64 4, .int .i64 4]] w (BlIs true w) := by
  have := ttouch_any ⟨0, 0, 3, 2⟩ ⟨3, 1, 4, 4⟩ w
  rwa [show decide (TouchR ⟨0, 0, 3, 2⟩ ⟨3, 1, 4, 4⟩) = true from by decide +kernel] at this
end Go.Proofs.Ytpbkmphpgjdpfaa
