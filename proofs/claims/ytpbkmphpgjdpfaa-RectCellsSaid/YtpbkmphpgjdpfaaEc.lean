/-
  What contracts over rectangles say, and contracts of the reference of layer 5: span, Right, Area, Has, Inside, apart.
-/
import Derived.Test.YtpbkmphpgjdpfaaProg
import Derived.Test.YtpbkmphpgjdpfaaEb
import Derived.WalkKit
import Derived.Lib.Hide
import Derived.WalkLawsBesides
import Derived.WalkSpells
import Derived.Outline
import Derived.BigQuiet
import Derived.Deep.QuietTactic
import Derived.OwnWalk
set_option linter.unusedVariables false
set_option maxRecDepth 100000
namespace Go.Proofs.Ytpbkmphpgjdpfaa
open Go.RowKit

def In64 (n : Int) : Prop := -9223372036854775808 ≤ n ∧ n ≤ 9223372036854775807
def InR (r : Rc) : Prop := In64 r.X0 ∧ In64 r.Y0 ∧ In64 r.X1 ∧ In64 r.Y1
theorem bcell {W w1 : World} (hb : Below W.heap.size W w1) : (∀ b o, b < W.heap.size → w1.cell? ⟨b, o, none⟩ = W.cell? ⟨b, o, none⟩) ∧ (∀ b o, b < W.heap.size → w1.frozen? ⟨b, o, none⟩ = W.frozen? ⟨b, o, none⟩) :=
  ⟨fun b o h => hb.cell (p := ⟨b, o, none⟩) h, fun b o h => hb.frozen (p := ⟨b, o, none⟩) h⟩
theorem ret_i64 {a b : Int} (h : a = b) : Ending.returned (.int .i64 a) = .returned (.int .i64 b) := by rw [h]
theorem ret_bl {a b : Bool} (h : a = b) : Ending.returned (.bool a) = .returned (.bool b) := by rw [h]
/-- a bool, a number, a rectangle with a bool: in new memory. -/
def BlIs (b : Bool) (w : World) (e : Ending) (w' : World) : Prop := e = .returned (.bool b) ∧ Below w.heap.size w w'
def InIs (n : Int) (w : World) (e : Ending) (w' : World) : Prop := e = .returned (.int .i64 n) ∧ Below w.heap.size w w'
def RbIs (x : Rc × Bool) (w : World) (e : Ending) (w' : World) : Prop := e = .returned (.tuple #[.agg #[.int .i64 x.1.X0, .int .i64 x.1.Y0, .int .i64 x.1.X1, .int .i64 x.1.Y1], .bool x.2]) ∧ Below w.heap.size w w'
theorem RbIs.of {x : Rc × Bool} {w w' : World} {a b c d : Int} {f : Bool} (ha : a = x.1.X0) (hb : b = x.1.Y0) (hc : c = x.1.X1) (hd : d = x.1.Y1) (hf : f = x.2) (h : Below w.heap.size w w') :
    RbIs x w (.returned (.tuple #[.agg #[.int .i64 a, .int .i64 b, .int .i64 c, .int .i64 d], .bool f])) w' := by subst ha; subst hb; subst hc; subst hd; subst hf; exact ⟨rfl, h⟩
theorem InIs.of {n m : Int} {w w' : World} (h : n = m) (hb : Below w.heap.size w w') : InIs m w (.returned (.int .i64 n)) w' := by subst h; exact ⟨rfl, hb⟩

instance (a b : Int) : Decidable (Span a b) := by unfold Span; infer_instance
def spanB (a b : Int) : Bool := decide (Span a b)
theorem rok_span (r : Rc) : rokB r = (spanB r.X0 r.X1 && spanB r.Y0 r.Y1) := by
  rw [Bool.eq_iff_iff, rokB_iff]; simp [spanB, ROk]
theorem span_any (a b : Int) (w : World) : Calls Try.prog 35 #[.int .i64 a, .int .i64 b] w fun e w' => e = .returned (.bool (spanB a b)) ∧ w = w' := by
  by_cases h1 : 0 ≤ a
  · by_cases h2 : a < b
    · by_cases h3 : b ≤ 1048576
      · rw [show spanB a b = true from decide_eq_true ⟨h1, h2, h3⟩]
        go_enter Try.func35, Try.ntmps35
        go_wp2
        go_ret
        exact ⟨rfl, rfl⟩
      · rw [show spanB a b = false from decide_eq_false (fun h => h3 h.2.2)]
        go_enter Try.func35, Try.ntmps35
        go_wp2
        go_ret
        exact ⟨rfl, rfl⟩
    · rw [show spanB a b = false from decide_eq_false (fun h => h2 h.2.1)]
      go_enter Try.func35, Try.ntmps35
      go_wp2
      go_ret
      exact ⟨rfl, rfl⟩
  · rw [show spanB a b = false from decide_eq_false (fun h => h1 h.1)]
    go_enter Try.func35, Try.ntmps35
    go_wp2
    go_ret
    exact ⟨rfl, rfl⟩

set_option maxHeartbeats 2000000 in
theorem uright_nd (X0 Y0 X1 Y1 : Int) (w : World) : Calls Try.prog 17 #[.agg #[.int .i64 X0, .int .i64 Y0, .int .i64 X1, .int .i64 Y1]] w (BlIs (rokB ⟨X0, Y0, X1, Y1⟩) w) := by
  rw [rok_span]
  cases h1 : spanB X0 X1 <;> cases h2 : spanB Y0 Y1
  all_goals
    go_enter Try.func17, Try.ntmps17
    go_wp2_with (go_at_call 35; refine (span_any _ _ _).mono ?_; rintro e w1 ⟨rfl, rfl⟩)
    go_ret
    exact ⟨rfl, by (repeat' first | exact Below.refl _ _ | assumption | (apply below_drewN) | (refine Below.setCell ?_ (by (try simp); (try omega)) _) | (refine Below.alloc ?_ (by (try simp); (try omega)) _) | (refine Below.trans ?_ (Below.mono (Hid.out (by assumption)) (by (try simp); (try omega)))))⟩

theorem apart_any (a b c d : Int) (ha : In64 a) (hb : -9223372036854775808 ≤ b ∧ b ≤ 1048576 ∧ 0 ≤ b) (hc : 0 ≤ c ∧ c ≤ 1048576) (hd : 0 ≤ d ∧ d ≤ 1048576) (ha2 : 0 ≤ a ∧ a ≤ 1048576) (w : World) :
    Calls Try.prog 37 #[.int .i64 a, .int .i64 b, .int .i64 c, .int .i64 d] w fun e w' => e = .returned (.int .i64 (apartI a b c d)) ∧ w' = w := by
  obtain ⟨hb1, hb2, hb3⟩ := hb
  obtain ⟨hc1, hc2⟩ := hc
  obtain ⟨hd1, hd2⟩ := hd
  obtain ⟨ha1, ha2⟩ := ha2
  unfold apartI
  by_cases h1 : b ≤ c
  · rw [if_pos h1]
    go_enter Try.func37, Try.ntmps37
    go_wp2
    go_ret
    exact ⟨ret_i64 (by omega), rfl⟩
  · rw [if_neg h1]
    by_cases h2 : d ≤ a
    · rw [if_pos h2]
      go_enter Try.func37, Try.ntmps37
      go_wp2
      go_ret
      exact ⟨ret_i64 (by omega), rfl⟩
    · rw [if_neg h2]
      go_enter Try.func37, Try.ntmps37
      go_wp2
      go_ret
      exact ⟨rfl, rfl⟩
end Go.Proofs.Ytpbkmphpgjdpfaa
