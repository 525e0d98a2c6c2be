/-
  Contracts of the reference of layer 5, for seats with Ge: span, Right, apart, Grow, Shrink, Gap.
-/
import Derived.Test.YtcnojedijimheaaGe
import Derived.IntWalk
set_option linter.unusedVariables false
set_option maxRecDepth 100000
namespace Go.Proofs.Ytcnojedijimheaa
open Go.RowKit

instance (a b : Int) : Decidable (Span a b) := by unfold Span; infer_instance
def spanB (a b : Int) : Bool := decide (Span a b)
theorem rok_span (r : Rc) : rokB r = (spanB r.X0 r.X1 && spanB r.Y0 r.Y1) := by
  rw [Bool.eq_iff_iff, rokB_iff]; simp [spanB, ROk]
theorem span_any (a b : Int) (w : World) : Calls Try.prog 111 #[.int .i64 a, .int .i64 b] w fun e w' => e = .returned (.bool (spanB a b)) ∧ w = w' := by
  by_cases h1 : 0 ≤ a
  · by_cases h2 : a < b
    · by_cases h3 : b ≤ 1048576
      · rw [show spanB a b = true from decide_eq_true ⟨h1, h2, h3⟩]
        go_enter Try.func111, Try.ntmps111
        go_wp2
        go_ret
        exact ⟨rfl, rfl⟩
      · rw [show spanB a b = false from decide_eq_false (fun h => h3 h.2.2)]
        go_enter Try.func111, Try.ntmps111
        go_wp2
        go_ret
        exact ⟨rfl, rfl⟩
    · rw [show spanB a b = false from decide_eq_false (fun h => h2 h.2.1)]
      go_enter Try.func111, Try.ntmps111
      go_wp2
      go_ret
      exact ⟨rfl, rfl⟩
  · rw [show spanB a b = false from decide_eq_false (fun h => h1 h.1)]
    go_enter Try.func111, Try.ntmps111
    go_wp2
    go_ret
    exact ⟨rfl, rfl⟩

set_option maxHeartbeats 2000000 in
theorem uright_nd (X0 Y0 X1 Y1 : Int) (w : World) : Calls Try.prog 93 #[.agg #[.int .i64 X0, .int .i64 Y0, .int .i64 X1, .int .i64 Y1]] w (BlIs (rokB ⟨X0, Y0, X1, Y1⟩) w) := by
  rw [rok_span]
  cases h1 : spanB X0 X1 <;> cases h2 : spanB Y0 Y1
  all_goals
    go_enter Try.func93, Try.ntmps93
    go_wp2_with (go_at_call 111; refine (span_any _ _ _).mono ?_; rintro e w1 ⟨rfl, rfl⟩)
    go_ret
    exact ⟨rfl, by (repeat' first | exact Below.refl _ _ | assumption | (apply below_drewN) | (refine Below.setCell ?_ (by (try simp); (try omega)) _) | (refine Below.alloc ?_ (by (try simp); (try omega)) _) | (refine Below.trans ?_ (Below.mono (Hid.out (by assumption)) (by (try simp); (try omega)))))⟩

theorem apart_any (a b c d : Int) (ha : In64 a) (hb : -9223372036854775808 ≤ b ∧ b ≤ 1048576 ∧ 0 ≤ b) (hc : 0 ≤ c ∧ c ≤ 1048576) (hd : 0 ≤ d ∧ d ≤ 1048576) (ha2 : 0 ≤ a ∧ a ≤ 1048576) (w : World) :
    Calls Try.prog 100 #[.int .i64 a, .int .i64 b, .int .i64 c, .int .i64 d] w fun e w' => e = .returned (.int .i64 (apartI a b c d)) ∧ w' = w := by
  obtain ⟨hb1, hb2, hb3⟩ := hb
  obtain ⟨hc1, hc2⟩ := hc
  obtain ⟨hd1, hd2⟩ := hd
  obtain ⟨ha1, ha2⟩ := ha2
  unfold apartI
  by_cases h1 : b ≤ c
  · rw [if_pos h1]
    go_enter Try.func100, Try.ntmps100
    go_wp2
    go_ret
    exact ⟨ret_i64 (by omega), rfl⟩
  · rw [if_neg h1]
    by_cases h2 : d ≤ a
    · rw [if_pos h2]
      go_enter Try.func100, Try.ntmps100
      go_wp2
      go_ret
      exact ⟨ret_i64 (by omega), rfl⟩
    · rw [if_neg h2]
      go_enter Try.func100, Try.ntmps100
      go_wp2
      go_ret
      exact ⟨rfl, rfl⟩
theorem grown_all {r : Rc} {d : Int} (h : ROk r) (hd : 1048576 < d) : grownR r d = grownR r 1048576 := by
  unfold ROk Span at h
  apply Rc.eq <;> simp only [grownR] <;> omega
set_option maxHeartbeats 8000000 in
theorem ugrow_any (r : Rc) (d : Int) (ir : InR r) (hd : In64 d) (w : World) : Calls Try.prog 55 #[.agg #[.int .i64 r.X0, .int .i64 r.Y0, .int .i64 r.X1, .int .i64 r.Y1], .int .i64 d] w (RbIs (growR r d) w) := by
  by_cases k : ROk r
  · have o : rokB ⟨r.X0, r.Y0, r.X1, r.Y1⟩ = true := (rokB_iff r).2 k
    by_cases hd0 : 0 ≤ d
    · rw [grow_is k hd0]
      by_cases hbig : d ≤ 1048576
      · obtain ⟨⟨h1, h2, h3⟩, h4, h5, h6⟩ := k
        go_enter Try.func55, Try.ntmps55
        go_wp2_with (go_at_call 93; refine (uright_nd _ _ _ _ _).mono ?_; rintro e w1 ⟨rfl, hb⟩; obtain ⟨hc, hf⟩ := bcell hb; have hz := hb.size; (try simp at hz); have hz0 : w.heap.size < w1.heap.size := (by omega); have hz1 : w.heap.size + 1 < w1.heap.size := (by omega); have HBl := Lib.hid hb; clear hb)
        all_goals exact bodyPost_ret (v := .tuple #[.agg #[.int .i64 (grownR r d).X0, .int .i64 (grownR r d).Y0, .int .i64 (grownR r d).X1, .int .i64 (grownR r d).Y1], .bool true]) (by simp [results, Try.results55, go_sem, *, grownR] <;> omega) rfl (RbIs.of rfl rfl rfl rfl rfl (by (repeat' first | exact Below.refl _ _ | assumption | (apply below_drewN) | (refine Below.setCell ?_ (by (try simp); (try omega)) _) | (refine Below.alloc ?_ (by (try simp); (try omega)) _) | (refine Below.trans ?_ (Below.mono (Hid.out (by assumption)) (by (try simp); (try omega)))))))
      · rw [grown_all k (by omega)]
        obtain ⟨⟨h1, h2, h3⟩, h4, h5, h6⟩ := k
        go_enter Try.func55, Try.ntmps55
        go_wp2_with (go_at_call 93; refine (uright_nd _ _ _ _ _).mono ?_; rintro e w1 ⟨rfl, hb⟩; obtain ⟨hc, hf⟩ := bcell hb; have hz := hb.size; (try simp at hz); have hz0 : w.heap.size < w1.heap.size := (by omega); have hz1 : w.heap.size + 1 < w1.heap.size := (by omega); have HBl := Lib.hid hb; clear hb)
        all_goals exact bodyPost_ret (v := .tuple #[.agg #[.int .i64 (grownR r 1048576).X0, .int .i64 (grownR r 1048576).Y0, .int .i64 (grownR r 1048576).X1, .int .i64 (grownR r 1048576).Y1], .bool true]) (by simp [results, Try.results55, go_sem, *, grownR] <;> omega) rfl (RbIs.of rfl rfl rfl rfl rfl (by (repeat' first | exact Below.refl _ _ | assumption | (apply below_drewN) | (refine Below.setCell ?_ (by (try simp); (try omega)) _) | (refine Below.alloc ?_ (by (try simp); (try omega)) _) | (refine Below.trans ?_ (Below.mono (Hid.out (by assumption)) (by (try simp); (try omega)))))))
    · rw [grow_no (fun h => hd0 h.2)]
      clear k
      go_enter Try.func55, Try.ntmps55
      go_wp2_with (go_at_call 93; refine (uright_nd _ _ _ _ _).mono ?_; rintro e w1 ⟨rfl, hb⟩; obtain ⟨hc, hf⟩ := bcell hb; have hz := hb.size; (try simp at hz); have hz0 : w.heap.size < w1.heap.size := (by omega); have hz1 : w.heap.size + 1 < w1.heap.size := (by omega); have HBl := Lib.hid hb; clear hb)
      exact bodyPost_ret (v := .tuple #[.agg #[.int .i64 0, .int .i64 0, .int .i64 0, .int .i64 0], .bool false]) (by simp [results, Try.results55, go_sem, *]) rfl (RbIs.of rfl rfl rfl rfl rfl (by (repeat' first | exact Below.refl _ _ | assumption | (apply below_drewN) | (refine Below.setCell ?_ (by (try simp); (try omega)) _) | (refine Below.alloc ?_ (by (try simp); (try omega)) _) | (refine Below.trans ?_ (Below.mono (Hid.out (by assumption)) (by (try simp); (try omega)))))))
  · have o : rokB ⟨r.X0, r.Y0, r.X1, r.Y1⟩ = false := (rokB_no r).2 k
    rw [grow_no (fun h => k h.1)]
    clear k
    go_enter Try.func55, Try.ntmps55
    go_wp2_with (go_at_call 93; refine (uright_nd _ _ _ _ _).mono ?_; rintro e w1 ⟨rfl, hb⟩; obtain ⟨hc, hf⟩ := bcell hb; have hz := hb.size; (try simp at hz); have hz0 : w.heap.size < w1.heap.size := (by omega); have hz1 : w.heap.size + 1 < w1.heap.size := (by omega); have HBl := Lib.hid hb; clear hb)
    exact bodyPost_ret (v := .tuple #[.agg #[.int .i64 0, .int .i64 0, .int .i64 0, .int .i64 0], .bool false]) (by simp [results, Try.results55, go_sem, *]) rfl (RbIs.of rfl rfl rfl rfl rfl (by (repeat' first | exact Below.refl _ _ | assumption | (apply below_drewN) | (refine Below.setCell ?_ (by (try simp); (try omega)) _) | (refine Below.alloc ?_ (by (try simp); (try omega)) _) | (refine Below.trans ?_ (Below.mono (Hid.out (by assumption)) (by (try simp); (try omega)))))))
theorem shrink_no {r : Rc} {d : Int} (h : ¬ (ROk r ∧ 0 ≤ d ∧ ROk (shrunkR r d))) : shrinkR r d = (zR, false) := by unfold shrinkR; rw [if_neg h]
set_option maxHeartbeats 8000000 in
theorem ushrink_any (r : Rc) (d : Int) (ir : InR r) (hd : In64 d) (w : World) : Calls Try.prog 60 #[.agg #[.int .i64 r.X0, .int .i64 r.Y0, .int .i64 r.X1, .int .i64 r.Y1], .int .i64 d] w (RbIs (shrinkR r d) w) := by
  by_cases k : ROk r
  · have o : rokB ⟨r.X0, r.Y0, r.X1, r.Y1⟩ = true := (rokB_iff r).2 k
    by_cases hd0 : 0 ≤ d
    · by_cases hbig : d ≤ 1048576
      · by_cases hs : ROk (shrunkR r d)
        · have os : rokB ⟨r.X0 + d, r.Y0 + d, r.X1 - d, r.Y1 - d⟩ = true := (rokB_iff _).2 hs
          rw [show shrinkR r d = (shrunkR r d, true) from by unfold shrinkR; rw [if_pos ⟨k, hd0, hs⟩]]
          obtain ⟨⟨h1, h2, h3⟩, h4, h5, h6⟩ := k
          clear hs
          go_enter Try.func60, Try.ntmps60
          go_wp2_with (go_at_call 93; refine (uright_nd _ _ _ _ _).mono ?_; rintro e w1 ⟨rfl, hb⟩; obtain ⟨hc, hf⟩ := bcell hb; have hz := hb.size; (try simp at hz); have hz0 : w.heap.size < w1.heap.size := (by omega); have hz1 : w.heap.size + 1 < w1.heap.size := (by omega); have HBl := Lib.hid hb; clear hb)
          exact bodyPost_ret (v := .tuple #[.agg #[.int .i64 (r.X0 + d), .int .i64 (r.Y0 + d), .int .i64 (r.X1 - d), .int .i64 (r.Y1 - d)], .bool true]) (by simp [results, Try.results60, go_sem, *]) rfl (RbIs.of rfl rfl rfl rfl rfl (by (repeat' first | exact Below.refl _ _ | assumption | (apply below_drewN) | (refine Below.setCell ?_ (by (try simp); (try omega)) _) | (refine Below.alloc ?_ (by (try simp); (try omega)) _) | (refine Below.trans ?_ (Below.mono (Hid.out (by assumption)) (by (try simp); (try omega)))))))
        · have os : rokB ⟨r.X0 + d, r.Y0 + d, r.X1 - d, r.Y1 - d⟩ = false := (rokB_no _).2 hs
          rw [shrink_no (fun h => hs h.2.2)]
          obtain ⟨⟨h1, h2, h3⟩, h4, h5, h6⟩ := k
          clear hs
          go_enter Try.func60, Try.ntmps60
          go_wp2_with (go_at_call 93; refine (uright_nd _ _ _ _ _).mono ?_; rintro e w1 ⟨rfl, hb⟩; obtain ⟨hc, hf⟩ := bcell hb; have hz := hb.size; (try simp at hz); have hz0 : w.heap.size < w1.heap.size := (by omega); have hz1 : w.heap.size + 1 < w1.heap.size := (by omega); have HBl := Lib.hid hb; clear hb)
          exact bodyPost_ret (v := .tuple #[.agg #[.int .i64 0, .int .i64 0, .int .i64 0, .int .i64 0], .bool false]) (by simp [results, Try.results60, go_sem, *]) rfl (RbIs.of rfl rfl rfl rfl rfl (by (repeat' first | exact Below.refl _ _ | assumption | (apply below_drewN) | (refine Below.setCell ?_ (by (try simp); (try omega)) _) | (refine Below.alloc ?_ (by (try simp); (try omega)) _) | (refine Below.trans ?_ (Below.mono (Hid.out (by assumption)) (by (try simp); (try omega)))))))
      · rw [shrink_no (fun h => by have h1 := h.2.2; have h2 := h.1; unfold ROk Span at h1 h2; simp only [shrunkR] at h1; omega)]
        clear k
        go_enter Try.func60, Try.ntmps60
        go_wp2_with (go_at_call 93; refine (uright_nd _ _ _ _ _).mono ?_; rintro e w1 ⟨rfl, hb⟩; obtain ⟨hc, hf⟩ := bcell hb; have hz := hb.size; (try simp at hz); have hz0 : w.heap.size < w1.heap.size := (by omega); have hz1 : w.heap.size + 1 < w1.heap.size := (by omega); have HBl := Lib.hid hb; clear hb)
        exact bodyPost_ret (v := .tuple #[.agg #[.int .i64 0, .int .i64 0, .int .i64 0, .int .i64 0], .bool false]) (by simp [results, Try.results60, go_sem, *]) rfl (RbIs.of rfl rfl rfl rfl rfl (by (repeat' first | exact Below.refl _ _ | assumption | (apply below_drewN) | (refine Below.setCell ?_ (by (try simp); (try omega)) _) | (refine Below.alloc ?_ (by (try simp); (try omega)) _) | (refine Below.trans ?_ (Below.mono (Hid.out (by assumption)) (by (try simp); (try omega)))))))
    · rw [shrink_no (fun h => hd0 h.2.1)]
      clear k
      go_enter Try.func60, Try.ntmps60
      go_wp2_with (go_at_call 93; refine (uright_nd _ _ _ _ _).mono ?_; rintro e w1 ⟨rfl, hb⟩; obtain ⟨hc, hf⟩ := bcell hb; have hz := hb.size; (try simp at hz); have hz0 : w.heap.size < w1.heap.size := (by omega); have hz1 : w.heap.size + 1 < w1.heap.size := (by omega); have HBl := Lib.hid hb; clear hb)
      exact bodyPost_ret (v := .tuple #[.agg #[.int .i64 0, .int .i64 0, .int .i64 0, .int .i64 0], .bool false]) (by simp [results, Try.results60, go_sem, *]) rfl (RbIs.of rfl rfl rfl rfl rfl (by (repeat' first | exact Below.refl _ _ | assumption | (apply below_drewN) | (refine Below.setCell ?_ (by (try simp); (try omega)) _) | (refine Below.alloc ?_ (by (try simp); (try omega)) _) | (refine Below.trans ?_ (Below.mono (Hid.out (by assumption)) (by (try simp); (try omega)))))))
  · have o : rokB ⟨r.X0, r.Y0, r.X1, r.Y1⟩ = false := (rokB_no r).2 k
    rw [shrink_no (fun h => k h.1)]
    clear k
    go_enter Try.func60, Try.ntmps60
    go_wp2_with (go_at_call 93; refine (uright_nd _ _ _ _ _).mono ?_; rintro e w1 ⟨rfl, hb⟩; obtain ⟨hc, hf⟩ := bcell hb; have hz := hb.size; (try simp at hz); have hz0 : w.heap.size < w1.heap.size := (by omega); have hz1 : w.heap.size + 1 < w1.heap.size := (by omega); have HBl := Lib.hid hb; clear hb)
    exact bodyPost_ret (v := .tuple #[.agg #[.int .i64 0, .int .i64 0, .int .i64 0, .int .i64 0], .bool false]) (by simp [results, Try.results60, go_sem, *]) rfl (RbIs.of rfl rfl rfl rfl rfl (by (repeat' first | exact Below.refl _ _ | assumption | (apply below_drewN) | (refine Below.setCell ?_ (by (try simp); (try omega)) _) | (refine Below.alloc ?_ (by (try simp); (try omega)) _) | (refine Below.trans ?_ (Below.mono (Hid.out (by assumption)) (by (try simp); (try omega)))))))
set_option maxHeartbeats 8000000 in
theorem ugap_any (a b : Rc) (ia : InR a) (ib : InR b) (w : World) : Calls Try.prog 62 #[.agg #[.int .i64 a.X0, .int .i64 a.Y0, .int .i64 a.X1, .int .i64 a.Y1], .agg #[.int .i64 b.X0, .int .i64 b.Y0, .int .i64 b.X1, .int .i64 b.Y1]] w (InIs (gapR a b) w) := by
  by_cases ka : ROk a
  · have oa : rokB ⟨a.X0, a.Y0, a.X1, a.Y1⟩ = true := (rokB_iff a).2 ka
    by_cases kb : ROk b
    · have ob : rokB ⟨b.X0, b.Y0, b.X1, b.Y1⟩ = true := (rokB_iff b).2 kb
      rw [show gapR a b = max 0 (max (apartI a.X0 a.X1 b.X0 b.X1) (apartI a.Y0 a.Y1 b.Y0 b.Y1) - 1) from by unfold gapR; rw [if_pos ⟨ka, kb⟩]]
      obtain ⟨⟨a1, a2, a3⟩, a4, a5, a6⟩ := ka
      obtain ⟨⟨b1, b2, b3⟩, b4, b5, b6⟩ := kb
      have q1 : 0 ≤ apartI a.X0 a.X1 b.X0 b.X1 ∧ apartI a.X0 a.X1 b.X0 b.X1 ≤ 1048577 := ⟨apart_nn, by unfold apartI; split <;> (try split) <;> omega⟩
      have q2 : 0 ≤ apartI a.Y0 a.Y1 b.Y0 b.Y1 ∧ apartI a.Y0 a.Y1 b.Y0 b.Y1 ≤ 1048577 := ⟨apart_nn, by unfold apartI; split <;> (try split) <;> omega⟩
      go_enter Try.func62, Try.ntmps62
      go_wp2_with (go_at_call 93; refine (uright_nd _ _ _ _ _).mono ?_; rintro e w1 ⟨rfl, hb⟩; obtain ⟨hc, hf⟩ := bcell hb; have hz := hb.size; (try simp at hz); have hz0 : w.heap.size < w1.heap.size := (by omega); have hz1 : w.heap.size + 1 < w1.heap.size := (by omega); have HBl := Lib.hid hb; clear hb)
      go_quiet ((go_at_call 100; exact Calls.quiet_of_same (apart_any _ _ _ _ (by unfold In64; omega) (by omega) (by omega) (by omega) (by omega) _)))
      all_goals go_wp2
      all_goals go_ret
      all_goals exact InIs.of (by omega) (by (repeat' first | exact Below.refl _ _ | assumption | (apply below_drewN) | (refine Below.setCell ?_ (by (try simp); (try omega)) _) | (refine Below.alloc ?_ (by (try simp); (try omega)) _) | (refine Below.trans ?_ (Below.mono (Hid.out (by assumption)) (by (try simp); (try omega))))))
    · have ob : rokB ⟨b.X0, b.Y0, b.X1, b.Y1⟩ = false := (rokB_no b).2 kb
      rw [show gapR a b = -1 from by unfold gapR; rw [if_neg (fun h => kb h.2)]]
      clear kb
      go_enter Try.func62, Try.ntmps62
      go_wp2_with (go_at_call 93; refine (uright_nd _ _ _ _ _).mono ?_; rintro e w1 ⟨rfl, hb⟩; obtain ⟨hc, hf⟩ := bcell hb; have hz := hb.size; (try simp at hz); have hz0 : w.heap.size < w1.heap.size := (by omega); have hz1 : w.heap.size + 1 < w1.heap.size := (by omega); have HBl := Lib.hid hb; clear hb)
      go_ret
      exact ⟨rfl, by (repeat' first | exact Below.refl _ _ | assumption | (apply below_drewN) | (refine Below.setCell ?_ (by (try simp); (try omega)) _) | (refine Below.alloc ?_ (by (try simp); (try omega)) _) | (refine Below.trans ?_ (Below.mono (Hid.out (by assumption)) (by (try simp); (try omega)))))⟩
  · have oa : rokB ⟨a.X0, a.Y0, a.X1, a.Y1⟩ = false := (rokB_no a).2 ka
    rw [show gapR a b = -1 from by unfold gapR; rw [if_neg (fun h => ka h.1)]]
    clear ka
    go_enter Try.func62, Try.ntmps62
    go_wp2_with (go_at_call 93; refine (uright_nd _ _ _ _ _).mono ?_; rintro e w1 ⟨rfl, hb⟩; obtain ⟨hc, hf⟩ := bcell hb; have hz := hb.size; (try simp at hz); have hz0 : w.heap.size < w1.heap.size := (by omega); have hz1 : w.heap.size + 1 < w1.heap.size := (by omega); have HBl := Lib.hid hb; clear hb)
    go_ret
    exact ⟨rfl, by (repeat' first | exact Below.refl _ _ | assumption | (apply below_drewN) | (refine Below.setCell ?_ (by (try simp); (try omega)) _) | (refine Below.alloc ?_ (by (try simp); (try omega)) _) | (refine Below.trans ?_ (Below.mono (Hid.out (by assumption)) (by (try simp); (try omega)))))⟩
end Go.Proofs.Ytcnojedijimheaa
