/-
  Contracts of the program's layer 9, 1: isRange, continues, bases, area.
-/
import Derived.Test.YtdnoadngfkiabaaU16
set_option linter.unusedVariables false
set_option maxRecDepth 100000
namespace Go.Proofs.Ytdnoadngfkiabaa
open Go.RowKit

theorem bisr_any (a b : Int) (w : World) : Calls Try.prog 33 #[.int .i64 a, .int .i64 b] w (BlIs (decide (HOk a b)) w) := by
  by_cases c0 : 0 ≤ a
  · by_cases c1 : a < b
    · by_cases c2 : b ≤ 4096
      · rw [show decide (HOk a b) = true from decide_eq_true ⟨c0, c1, c2⟩]
        go_enter Try.func33, Try.ntmps33
        go_wp2
        go_ret
        exact ⟨rfl, by (repeat' first | exact Below.refl _ _ | assumption | (apply below_drewN) | (refine Below.setCell ?_ (by (try simp); (try omega)) _) | (refine Below.alloc ?_ (by (try simp); (try omega)) _) | (refine Below.trans ?_ (Below.mono (Hid.out (by assumption)) (by (try simp); (try omega)))))⟩
      · rw [show decide (HOk a b) = false from decide_eq_false (fun h => c2 h.2.2)]
        go_enter Try.func33, Try.ntmps33
        go_wp2
        go_ret
        exact ⟨by first | rfl | (apply ret_bl; rw [decide_eq_false_iff_not]; omega), by (repeat' first | exact Below.refl _ _ | assumption | (apply below_drewN) | (refine Below.setCell ?_ (by (try simp); (try omega)) _) | (refine Below.alloc ?_ (by (try simp); (try omega)) _) | (refine Below.trans ?_ (Below.mono (Hid.out (by assumption)) (by (try simp); (try omega)))))⟩
    · rw [show decide (HOk a b) = false from decide_eq_false (fun h => c1 h.2.1)]
      go_enter Try.func33, Try.ntmps33
      go_wp2
      go_ret
      exact ⟨by first | rfl | (apply ret_bl; rw [decide_eq_false_iff_not]; omega), by (repeat' first | exact Below.refl _ _ | assumption | (apply below_drewN) | (refine Below.setCell ?_ (by (try simp); (try omega)) _) | (refine Below.alloc ?_ (by (try simp); (try omega)) _) | (refine Below.trans ?_ (Below.mono (Hid.out (by assumption)) (by (try simp); (try omega)))))⟩
  · rw [show decide (HOk a b) = false from decide_eq_false (fun h => c0 h.1)]
    go_enter Try.func33, Try.ntmps33
    go_wp2
    go_ret
    exact ⟨by first | rfl | (apply ret_bl; rw [decide_eq_false_iff_not]; omega), by (repeat' first | exact Below.refl _ _ | assumption | (apply below_drewN) | (refine Below.setCell ?_ (by (try simp); (try omega)) _) | (refine Below.alloc ?_ (by (try simp); (try omega)) _) | (refine Below.trans ?_ (Below.mono (Hid.out (by assumption)) (by (try simp); (try omega)))))⟩
set_option maxHeartbeats 4000000 in
theorem bcont_any (a0 a1 b0 b1 : Int) (A1 : Option Addr) (c1 : Nat) (A2 : Option Addr) (c2 : Nat) (l m : List Rc) (w : World) (h1 : RRow w A1 l) (h2 : RRow w A2 m) (hl : l.length ≤ 1099511627776) (hm : m.length ≤ 1099511627776) :
    Calls Try.prog 44 #[.agg #[.int .i64 a0, .int .i64 a1, .slice A1 l.length c1], .agg #[.int .i64 b0, .int .i64 b1, .slice A2 m.length c2]] w (BlIs (decide (a1 = b0 ∧ l = m)) w) := by
  by_cases e : a1 = b0
  · have HS := Lib.hid (fun w' (hb : Below w.heap.size w w') => gsame_any A1 c1 A2 c2 l m w' (h1.below hb) (h2.below hb) hl hm)
    have E : Hid (decide (a1 = b0 ∧ l = m) = decide (l = m)) := Lib.hid (by simp [e])
    have d : (a1 == b0) = true := by simp [e]
    clear h1 h2 e
    rw [E.out]
    generalize decide (l = m) = r at *
    go_enter Try.func44, Try.ntmps44
    go_wp2_with fail
    refine (HS.out _ (by (repeat' first | exact Below.refl _ _ | assumption | (apply below_drewN) | (refine Below.setCell ?_ (by (try simp); (try omega)) _) | (refine Below.alloc ?_ (by (try simp); (try omega)) _) | (refine Below.trans ?_ (Below.mono (Hid.out (by assumption)) (by (try simp); (try omega))))))).mono ?_
    rintro e1 w1 ⟨rfl, hb1⟩
    have HB : Hid (Below w.heap.size w w1) := Lib.hid ((show Below w.heap.size w _ from by (repeat' first | exact Below.refl _ _ | assumption | (apply below_drewN) | (refine Below.setCell ?_ (by (try simp); (try omega)) _) | (refine Below.alloc ?_ (by (try simp); (try omega)) _) | (refine Below.trans ?_ (Below.mono (Hid.out (by assumption)) (by (try simp); (try omega)))))).trans (hb1.mono (by simp; try omega)))
    clear hb1 HS
    go_wp2_with fail
    go_ret
    exact ⟨rfl, HB.out⟩
  · have d : (a1 == b0) = false := by simp [e]
    rw [show decide (a1 = b0 ∧ l = m) = false from decide_eq_false (fun h => e h.1)]
    clear h1 h2 e
    go_enter Try.func44, Try.ntmps44
    go_wp2_with fail
    go_ret
    exact ⟨rfl, by (repeat' first | exact Below.refl _ _ | assumption | (apply below_drewN) | (refine Below.setCell ?_ (by (try simp); (try omega)) _) | (refine Below.alloc ?_ (by (try simp); (try omega)) _) | (refine Below.trans ?_ (Below.mono (Hid.out (by assumption)) (by (try simp); (try omega)))))⟩
/-- a list of boxes that can be read. -/
def BxRow (w : World) (A : Option Addr) (l : List Bx) : Prop := 0 < l.length → ∃ b off, A = some ⟨b, off, none⟩ ∧ b < w.heap.size ∧ ∀ j (h : j < l.length), w.cell? ⟨b, off + j * 6, none⟩ = some (.int .i64 l[j].r.X0) ∧ w.cell? ⟨b, off + j * 6 + 1, none⟩ = some (.int .i64 l[j].r.Y0) ∧ w.cell? ⟨b, off + j * 6 + 2, none⟩ = some (.int .i64 l[j].r.X1) ∧ w.cell? ⟨b, off + j * 6 + 3, none⟩ = some (.int .i64 l[j].r.Y1) ∧ w.cell? ⟨b, off + j * 6 + 4, none⟩ = some (.int .i64 l[j].z0) ∧ w.cell? ⟨b, off + j * 6 + 5, none⟩ = some (.int .i64 l[j].z1)
theorem BxRow.below {w w' : World} {A : Option Addr} {l : List Bx} (h : BxRow w A l) (hb : Below w.heap.size w w') : BxRow w' A l := fun h0 => by
  obtain ⟨b, off, e, hl, hc⟩ := h h0
  refine ⟨b, off, e, Nat.lt_of_lt_of_le hl hb.size, fun j hj => ?_⟩
  obtain ⟨c0, c1, c2, c3, c4, c5⟩ := hc j hj
  have wc := fun o => hb.cell (p := ⟨b, o, none⟩) hl
  exact ⟨(wc _).trans c0, (wc _).trans c1, (wc _).trans c2, (wc _).trans c3, (wc _).trans c4, (wc _).trans c5⟩
theorem BxRow.nil (w : World) (A : Option Addr) : BxRow w A [] := fun h => absurd h (by simp)
end Go.Proofs.Ytdnoadngfkiabaa
