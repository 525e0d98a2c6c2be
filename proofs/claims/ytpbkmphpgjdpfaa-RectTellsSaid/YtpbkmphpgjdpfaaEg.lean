/-
  Contracts of the reference of layer 5 (5): Gap.
-/
import Derived.Test.YtpbkmphpgjdpfaaEc
import Derived.IntWalk
set_option linter.unusedVariables false
set_option maxRecDepth 100000
namespace Go.Proofs.Ytpbkmphpgjdpfaa
open Go.RowKit

set_option maxHeartbeats 8000000 in
theorem ugap_any (a b : Rc) (ia : InR a) (ib : InR b) (w : World) : Calls Try.prog 27 #[.agg #[.int .i64 a.X0, .int .i64 a.Y0, .int .i64 a.X1, .int .i64 a.Y1], .agg #[.int .i64 b.X0, .int .i64 b.Y0, .int .i64 b.X1, .int .i64 b.Y1]] w (InIs (gapR a b) w) := by
  by_cases ka : ROk a
  · have oa : rokB ⟨a.X0, a.Y0, a.X1, a.Y1⟩ = true := (rokB_iff a).2 ka
    by_cases kb : ROk b
    · have ob : rokB ⟨b.X0, b.Y0, b.X1, b.Y1⟩ = true := (rokB_iff b).2 kb
      rw [show gapR a b = max 0 (max (apartI a.X0 a.X1 b.X0 b.X1) (apartI a.Y0 a.Y1 b.Y0 b.Y1) - 1) from by unfold gapR; rw [if_pos ⟨ka, kb⟩]]
      obtain ⟨⟨a1, a2, a3⟩, a4, a5, a6⟩ := ka
      obtain ⟨⟨b1, b2, b3⟩, b4, b5, b6⟩ := kb
      have q1 : 0 ≤ apartI a.X0 a.X1 b.X0 b.X1 ∧ apartI a.X0 a.X1 b.X0 b.X1 ≤ 1048577 := ⟨apart_nn, by unfold apartI; split <;> (try split) <;> omega⟩
      have q2 : 0 ≤ apartI a.Y0 a.Y1 b.Y0 b.Y1 ∧ apartI a.Y0 a.Y1 b.Y0 b.Y1 ≤ 1048577 := ⟨apart_nn, by unfold apartI; split <;> (try split) <;> omega⟩
      go_enter Try.func27, Try.ntmps27
      go_wp2_with (go_at_call 17; refine (uright_nd _ _ _ _ _).mono ?_; rintro e w1 ⟨rfl, hb⟩; obtain ⟨hc, hf⟩ := bcell hb; have hz := hb.size; (try simp at hz); have hz0 : w.heap.size < w1.heap.size := (by omega); have hz1 : w.heap.size + 1 < w1.heap.size := (by omega); have HBl := Lib.hid hb; clear hb)
      go_quiet ((go_at_call 37; exact Calls.quiet_of_same (apart_any _ _ _ _ (by unfold In64; omega) (by omega) (by omega) (by omega) (by omega) _)))
      all_goals go_wp2
      all_goals go_ret
      all_goals exact InIs.of (by omega) (by (repeat' first | exact Below.refl _ _ | assumption | (apply below_drewN) | (refine Below.setCell ?_ (by (try simp); (try omega)) _) | (refine Below.alloc ?_ (by (try simp); (try omega)) _) | (refine Below.trans ?_ (Below.mono (Hid.out (by assumption)) (by (try simp); (try omega))))))
    · have ob : rokB ⟨b.X0, b.Y0, b.X1, b.Y1⟩ = false := (rokB_no b).2 kb
      rw [show gapR a b = -1 from by unfold gapR; rw [if_neg (fun h => kb h.2)]]
      clear kb
      go_enter Try.func27, Try.ntmps27
      go_wp2_with (go_at_call 17; refine (uright_nd _ _ _ _ _).mono ?_; rintro e w1 ⟨rfl, hb⟩; obtain ⟨hc, hf⟩ := bcell hb; have hz := hb.size; (try simp at hz); have hz0 : w.heap.size < w1.heap.size := (by omega); have hz1 : w.heap.size + 1 < w1.heap.size := (by omega); have HBl := Lib.hid hb; clear hb)
      go_ret
      exact ⟨rfl, by (repeat' first | exact Below.refl _ _ | assumption | (apply below_drewN) | (refine Below.setCell ?_ (by (try simp); (try omega)) _) | (refine Below.alloc ?_ (by (try simp); (try omega)) _) | (refine Below.trans ?_ (Below.mono (Hid.out (by assumption)) (by (try simp); (try omega)))))⟩
  · have oa : rokB ⟨a.X0, a.Y0, a.X1, a.Y1⟩ = false := (rokB_no a).2 ka
    rw [show gapR a b = -1 from by unfold gapR; rw [if_neg (fun h => ka h.1)]]
    clear ka
    go_enter Try.func27, Try.ntmps27
    go_wp2_with (go_at_call 17; refine (uright_nd _ _ _ _ _).mono ?_; rintro e w1 ⟨rfl, hb⟩; obtain ⟨hc, hf⟩ := bcell hb; have hz := hb.size; (try simp at hz); have hz0 : w.heap.size < w1.heap.size := (by omega); have hz1 : w.heap.size + 1 < w1.heap.size := (by omega); have HBl := Lib.hid hb; clear hb)
    go_ret
    exact ⟨rfl, by (repeat' first | exact Below.refl _ _ | assumption | (apply below_drewN) | (refine Below.setCell ?_ (by (try simp); (try omega)) _) | (refine Below.alloc ?_ (by (try simp); (try omega)) _) | (refine Below.trans ?_ (Below.mono (Hid.out (by assumption)) (by (try simp); (try omega)))))⟩
end Go.Proofs.Ytpbkmphpgjdpfaa
