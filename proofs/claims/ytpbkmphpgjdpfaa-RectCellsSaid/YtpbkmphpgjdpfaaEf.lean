/-
  Contracts of the reference of layer 5 (4): Shrink, Gap.
-/
import Derived.Test.YtpbkmphpgjdpfaaEc
import Derived.IntWalk
set_option linter.unusedVariables false
set_option maxRecDepth 100000
namespace Go.Proofs.Ytpbkmphpgjdpfaa
open Go.RowKit

theorem shrink_no {r : Rc} {d : Int} (h : ¬ (ROk r ∧ 0 ≤ d ∧ ROk (shrunkR r d))) : shrinkR r d = (zR, false) := by unfold shrinkR; rw [if_neg h]
set_option maxHeartbeats 8000000 in
theorem ushrink_any (r : Rc) (d : Int) (ir : InR r) (hd : In64 d) (w : World) : Calls Try.prog 15 #[.agg #[.int .i64 r.X0, .int .i64 r.Y0, .int .i64 r.X1, .int .i64 r.Y1], .int .i64 d] w (RbIs (shrinkR r d) w) := by
  by_cases k : ROk r
  · have o : rokB ⟨r.X0, r.Y0, r.X1, r.Y1⟩ = true := (rokB_iff r).2 k
    by_cases hd0 : 0 ≤ d
    · by_cases hbig : d ≤ 1048576
      · by_cases hs : ROk (shrunkR r d)
        · have os : rokB ⟨r.X0 + d, r.Y0 + d, r.X1 - d, r.Y1 - d⟩ = true := (rokB_iff _).2 hs
          rw [show shrinkR r d = (shrunkR r d, true) from by unfold shrinkR; rw [if_pos ⟨k, hd0, hs⟩]]
          obtain ⟨⟨h1, h2, h3⟩, h4, h5, h6⟩ := k
          clear hs
          go_enter Try.func15, Try.ntmps15
          go_wp2_with (go_at_call 17; refine (uright_nd _ _ _ _ _).mono ?_; rintro e w1 ⟨rfl, hb⟩; obtain ⟨hc, hf⟩ := bcell hb; have hz := hb.size; (try simp at hz); have hz0 : w.heap.size < w1.heap.size := (by omega); have hz1 : w.heap.size + 1 < w1.heap.size := (by omega); have HBl := Lib.hid hb; clear hb)
          exact bodyPost_ret (v := .tuple #[.agg #[.int .i64 (r.X0 + d), .int .i64 (r.Y0 + d), .int .i64 (r.X1 - d), .int .i64 (r.Y1 - d)], .bool true]) (by simp [results, Try.results15, go_sem, *]) rfl (RbIs.of rfl rfl rfl rfl rfl (by (repeat' first | exact Below.refl _ _ | assumption | (apply below_drewN) | (refine Below.setCell ?_ (by (try simp); (try omega)) _) | (refine Below.alloc ?_ (by (try simp); (try omega)) _) | (refine Below.trans ?_ (Below.mono (Hid.out (by assumption)) (by (try simp); (try omega)))))))
        · have os : rokB ⟨r.X0 + d, r.Y0 + d, r.X1 - d, r.Y1 - d⟩ = false := (rokB_no _).2 hs
          rw [shrink_no (fun h => hs h.2.2)]
          obtain ⟨⟨h1, h2, h3⟩, h4, h5, h6⟩ := k
          clear hs
          go_enter Try.func15, Try.ntmps15
          go_wp2_with (go_at_call 17; refine (uright_nd _ _ _ _ _).mono ?_; rintro e w1 ⟨rfl, hb⟩; obtain ⟨hc, hf⟩ := bcell hb; have hz := hb.size; (try simp at hz); have hz0 : w.heap.size < w1.heap.size := (by omega); have hz1 : w.heap.size + 1 < w1.heap.size := (by omega); have HBl := Lib.hid hb; clear hb)
          exact bodyPost_ret (v := .tuple #[.agg #[.int .i64 0, .int .i64 0, .int .i64 0, .int .i64 0], .bool false]) (by simp [results, Try.results15, go_sem, *]) rfl (RbIs.of rfl rfl rfl rfl rfl (by (repeat' first | exact Below.refl _ _ | assumption | (apply below_drewN) | (refine Below.setCell ?_ (by (try simp); (try omega)) _) | (refine Below.alloc ?_ (by (try simp); (try omega)) _) | (refine Below.trans ?_ (Below.mono (Hid.out (by assumption)) (by (try simp); (try omega)))))))
      · rw [shrink_no (fun h => by have h1 := h.2.2; have h2 := h.1; unfold ROk Span at h1 h2; simp only [shrunkR] at h1; omega)]
        clear k
        go_enter Try.func15, Try.ntmps15
        go_wp2_with (go_at_call 17; refine (uright_nd _ _ _ _ _).mono ?_; rintro e w1 ⟨rfl, hb⟩; obtain ⟨hc, hf⟩ := bcell hb; have hz := hb.size; (try simp at hz); have hz0 : w.heap.size < w1.heap.size := (by omega); have hz1 : w.heap.size + 1 < w1.heap.size := (by omega); have HBl := Lib.hid hb; clear hb)
        exact bodyPost_ret (v := .tuple #[.agg #[.int .i64 0, .int .i64 0, .int .i64 0, .int .i64 0], .bool false]) (by simp [results, Try.results15, go_sem, *]) rfl (RbIs.of rfl rfl rfl rfl rfl (by (repeat' first | exact Below.refl _ _ | assumption | (apply below_drewN) | (refine Below.setCell ?_ (by (try simp); (try omega)) _) | (refine Below.alloc ?_ (by (try simp); (try omega)) _) | (refine Below.trans ?_ (Below.mono (Hid.out (by assumption)) (by (try simp); (try omega)))))))
    · rw [shrink_no (fun h => hd0 h.2.1)]
      clear k
      go_enter Try.func15, Try.ntmps15
      go_wp2_with (go_at_call 17; refine (uright_nd _ _ _ _ _).mono ?_; rintro e w1 ⟨rfl, hb⟩; obtain ⟨hc, hf⟩ := bcell hb; have hz := hb.size; (try simp at hz); have hz0 : w.heap.size < w1.heap.size := (by omega); have hz1 : w.heap.size + 1 < w1.heap.size := (by omega); have HBl := Lib.hid hb; clear hb)
      exact bodyPost_ret (v := .tuple #[.agg #[.int .i64 0, .int .i64 0, .int .i64 0, .int .i64 0], .bool false]) (by simp [results, Try.results15, go_sem, *]) rfl (RbIs.of rfl rfl rfl rfl rfl (by (repeat' first | exact Below.refl _ _ | assumption | (apply below_drewN) | (refine Below.setCell ?_ (by (try simp); (try omega)) _) | (refine Below.alloc ?_ (by (try simp); (try omega)) _) | (refine Below.trans ?_ (Below.mono (Hid.out (by assumption)) (by (try simp); (try omega)))))))
  · have o : rokB ⟨r.X0, r.Y0, r.X1, r.Y1⟩ = false := (rokB_no r).2 k
    rw [shrink_no (fun h => k h.1)]
    clear k
    go_enter Try.func15, Try.ntmps15
    go_wp2_with (go_at_call 17; refine (uright_nd _ _ _ _ _).mono ?_; rintro e w1 ⟨rfl, hb⟩; obtain ⟨hc, hf⟩ := bcell hb; have hz := hb.size; (try simp at hz); have hz0 : w.heap.size < w1.heap.size := (by omega); have hz1 : w.heap.size + 1 < w1.heap.size := (by omega); have HBl := Lib.hid hb; clear hb)
    exact bodyPost_ret (v := .tuple #[.agg #[.int .i64 0, .int .i64 0, .int .i64 0, .int .i64 0], .bool false]) (by simp [results, Try.results15, go_sem, *]) rfl (RbIs.of rfl rfl rfl rfl rfl (by (repeat' first | exact Below.refl _ _ | assumption | (apply below_drewN) | (refine Below.setCell ?_ (by (try simp); (try omega)) _) | (refine Below.alloc ?_ (by (try simp); (try omega)) _) | (refine Below.trans ?_ (Below.mono (Hid.out (by assumption)) (by (try simp); (try omega)))))))
end Go.Proofs.Ytpbkmphpgjdpfaa
