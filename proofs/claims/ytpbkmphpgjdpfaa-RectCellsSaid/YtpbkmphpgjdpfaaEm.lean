/-
  Contracts of the program's layer 5: Inside.
-/
import Derived.Test.YtpbkmphpgjdpfaaEl
set_option linter.unusedVariables false
set_option maxRecDepth 100000
namespace Go.Proofs.Ytpbkmphpgjdpfaa
open Go.RowKit

instance : DecidableEq Rc := fun a b => decidable_of_iff (a.X0 = b.X0 ∧ a.Y0 = b.Y0 ∧ a.X1 = b.X1 ∧ a.Y1 = b.Y1) ⟨fun h => Rc.eq h.1 h.2.1 h.2.2.1 h.2.2.2, fun h => by subst h; exact ⟨rfl, rfl, rfl, rfl⟩⟩
set_option maxHeartbeats 8000000 in
theorem tinside_any (a b : Rc) (w : World) : Calls Try.prog 22 #[.agg #[.int .i64 a.X0, .int .i64 a.Y0, .int .i64 a.X1, .int .i64 a.Y1], .agg #[.int .i64 b.X0, .int .i64 b.Y0, .int .i64 b.X1, .int .i64 b.Y1]] w (BlIs (decide (InsideR a b)) w) := by
  have HI := Lib.hid (fun w => tinter_any a b w)
  by_cases hm : MeetR a b
  · have e : interR a b = (meetR a b, true) := by unfold interR; rw [if_pos hm]
    have hd : decide (InsideR a b) = decide (meetR a b = a) := by
      rw [decide_eq_decide, inside_iff, e]
      exact ⟨fun h => h.2.2, fun h => ⟨hm.1, rfl, h⟩⟩
    rw [hd]; rw [e] at HI
    clear hm e hd
    generalize meetR a b = m at *
    obtain ⟨m0, m1, m2, m3⟩ := m
    obtain ⟨a0, a1, a2, a3⟩ := a
    by_cases c0 : m0 = a0
    · by_cases c1 : m1 = a1
      · by_cases c2 : m2 = a2
        · by_cases c3 : m3 = a3
          · subst c0; subst c1; subst c2; subst c3
            rw [decide_eq_true rfl]
            go_enter Try.func22, Try.ntmps22
            go_wp2_with (go_at_call 10; refine (HI.out _).mono ?_; rintro e w1 ⟨rfl, hb⟩; obtain ⟨hc, hf⟩ := bcell hb; have hz := hb.size; (try simp at hz); have hz0 : w.heap.size < w1.heap.size := (by omega); have hz1 : w.heap.size + 1 < w1.heap.size := (by omega); have HBl := Lib.hid hb; clear hb)
            go_ret
            exact ⟨rfl, by (repeat' first | exact Below.refl _ _ | assumption | (apply below_drewN) | (refine Below.setCell ?_ (by (try simp); (try omega)) _) | (refine Below.alloc ?_ (by (try simp); (try omega)) _) | (refine Below.trans ?_ (Below.mono (Hid.out (by assumption)) (by (try simp); (try omega)))))⟩
          · rw [decide_eq_false (fun h => c3 (congrArg Rc.Y1 h))]
            have n3 : (m3 == a3) = false := by simp [c3]
            go_enter Try.func22, Try.ntmps22
            go_wp2_with (go_at_call 10; refine (HI.out _).mono ?_; rintro e w1 ⟨rfl, hb⟩; obtain ⟨hc, hf⟩ := bcell hb; have hz := hb.size; (try simp at hz); have hz0 : w.heap.size < w1.heap.size := (by omega); have hz1 : w.heap.size + 1 < w1.heap.size := (by omega); have HBl := Lib.hid hb; clear hb)
            go_ret
            exact ⟨rfl, by (repeat' first | exact Below.refl _ _ | assumption | (apply below_drewN) | (refine Below.setCell ?_ (by (try simp); (try omega)) _) | (refine Below.alloc ?_ (by (try simp); (try omega)) _) | (refine Below.trans ?_ (Below.mono (Hid.out (by assumption)) (by (try simp); (try omega)))))⟩
        · rw [decide_eq_false (fun h => c2 (congrArg Rc.X1 h))]
          have n2 : (m2 == a2) = false := by simp [c2]
          go_enter Try.func22, Try.ntmps22
          go_wp2_with (go_at_call 10; refine (HI.out _).mono ?_; rintro e w1 ⟨rfl, hb⟩; obtain ⟨hc, hf⟩ := bcell hb; have hz := hb.size; (try simp at hz); have hz0 : w.heap.size < w1.heap.size := (by omega); have hz1 : w.heap.size + 1 < w1.heap.size := (by omega); have HBl := Lib.hid hb; clear hb)
          go_ret
          exact ⟨rfl, by (repeat' first | exact Below.refl _ _ | assumption | (apply below_drewN) | (refine Below.setCell ?_ (by (try simp); (try omega)) _) | (refine Below.alloc ?_ (by (try simp); (try omega)) _) | (refine Below.trans ?_ (Below.mono (Hid.out (by assumption)) (by (try simp); (try omega)))))⟩
      · rw [decide_eq_false (fun h => c1 (congrArg Rc.Y0 h))]
        have n1 : (m1 == a1) = false := by simp [c1]
        go_enter Try.func22, Try.ntmps22
        go_wp2_with (go_at_call 10; refine (HI.out _).mono ?_; rintro e w1 ⟨rfl, hb⟩; obtain ⟨hc, hf⟩ := bcell hb; have hz := hb.size; (try simp at hz); have hz0 : w.heap.size < w1.heap.size := (by omega); have hz1 : w.heap.size + 1 < w1.heap.size := (by omega); have HBl := Lib.hid hb; clear hb)
        go_ret
        exact ⟨rfl, by (repeat' first | exact Below.refl _ _ | assumption | (apply below_drewN) | (refine Below.setCell ?_ (by (try simp); (try omega)) _) | (refine Below.alloc ?_ (by (try simp); (try omega)) _) | (refine Below.trans ?_ (Below.mono (Hid.out (by assumption)) (by (try simp); (try omega)))))⟩
    · rw [decide_eq_false (fun h => c0 (congrArg Rc.X0 h))]
      have n0 : (m0 == a0) = false := by simp [c0]
      go_enter Try.func22, Try.ntmps22
      go_wp2_with (go_at_call 10; refine (HI.out _).mono ?_; rintro e w1 ⟨rfl, hb⟩; obtain ⟨hc, hf⟩ := bcell hb; have hz := hb.size; (try simp at hz); have hz0 : w.heap.size < w1.heap.size := (by omega); have hz1 : w.heap.size + 1 < w1.heap.size := (by omega); have HBl := Lib.hid hb; clear hb)
      go_ret
      exact ⟨rfl, by (repeat' first | exact Below.refl _ _ | assumption | (apply below_drewN) | (refine Below.setCell ?_ (by (try simp); (try omega)) _) | (refine Below.alloc ?_ (by (try simp); (try omega)) _) | (refine Below.trans ?_ (Below.mono (Hid.out (by assumption)) (by (try simp); (try omega)))))⟩
  · rw [decide_eq_false (fun h => hm (by have := (inside_iff a b).1 h; unfold interR at this; by_cases k : MeetR a b; exact k; rw [if_neg k] at this; exact absurd this.2.1 (by simp)))]
    rw [inter_none hm] at HI
    clear hm
    go_enter Try.func22, Try.ntmps22
    go_wp2_with (go_at_call 10; refine (HI.out _).mono ?_; rintro e w1 ⟨rfl, hb⟩; obtain ⟨hc, hf⟩ := bcell hb; have hz := hb.size; (try simp at hz); have hz0 : w.heap.size < w1.heap.size := (by omega); have hz1 : w.heap.size + 1 < w1.heap.size := (by omega); have HBl := Lib.hid hb; clear hb)
    go_ret
    exact ⟨rfl, by (repeat' first | exact Below.refl _ _ | assumption | (apply below_drewN) | (refine Below.setCell ?_ (by (try simp); (try omega)) _) | (refine Below.alloc ?_ (by (try simp); (try omega)) _) | (refine Below.trans ?_ (Below.mono (Hid.out (by assumption)) (by (try simp); (try omega)))))⟩
end Go.Proofs.Ytpbkmphpgjdpfaa
