/-
  Contracts of the program's layer 5: Grow, Shrink.
-/
import Derived.Test.YtpbkmphpgjdpfaaEk
import Derived.Test.YtpbkmphpgjdpfaaEe
import Derived.Test.YtpbkmphpgjdpfaaEf
set_option linter.unusedVariables false
set_option maxRecDepth 100000
namespace Go.Proofs.Ytpbkmphpgjdpfaa
open Go.RowKit

theorem spread_grown {r : Rc} {d : Int} (h : ROk r) (hd : 0 ≤ d) : validR (spreadR r (min d 1048576)) = (grownR r d, true) := by
  have e : spreadR r (min d 1048576) = grownR r d := by
    unfold ROk Span at h
    apply Rc.eq <;> simp only [spreadR, grownR] <;> omega
  rw [e]; exact if_pos (grown_ok h hd)
theorem spread_shrunk {r : Rc} {d : Int} (h : ROk r) (hd : 0 ≤ d) : validR (spreadR r (-(min d 1048576))) = shrinkR r d := by
  have e : spreadR r (-(min d 1048576)) = shrunkR r (min d 1048576) := by
    unfold ROk Span at h
    apply Rc.eq <;> simp only [spreadR, shrunkR] <;> omega
  rw [e]
  unfold validR shrinkR
  by_cases hb : d ≤ 1048576
  · rw [show min d 1048576 = d by omega]
    by_cases k : ROk (shrunkR r d)
    · rw [if_pos k, if_pos ⟨h, hd, k⟩]
    · rw [if_neg k, if_neg (fun q => k q.2.2)]
  · rw [if_neg (fun q => by unfold ROk Span at h q; simp only [shrunkR] at q; omega), if_neg (fun q => by have q := q.2.2; unfold ROk Span at h q; simp only [shrunkR] at q; omega)]
theorem fit {d : Int} (h : In64 d) (hd : 0 ≤ d) : (min d 1048576 = 1048576 ∧ 1048576 < d) ∨ (min d 1048576 = d ∧ d ≤ 1048576) := by omega
set_option maxHeartbeats 8000000 in
theorem tgrow_any (r : Rc) (d : Int) (hd : In64 d) (w : World) : Calls Try.prog 12 #[.agg #[.int .i64 r.X0, .int .i64 r.Y0, .int .i64 r.X1, .int .i64 r.Y1], .int .i64 d] w (RbIs (growR r d) w) := by
  by_cases k : ROk r
  · have o : rokB ⟨r.X0, r.Y0, r.X1, r.Y1⟩ = true := (rokB_iff r).2 k
    by_cases hd0 : 0 ≤ d
    · rw [grow_is k hd0, ← spread_grown k hd0]
      have HS := Lib.hid (fun w => tspread_any r (min d 1048576) k.grid (by omega) w)
      have HV := Lib.hid (fun w => tvalid_any (spreadR r (min d 1048576)) w)
      generalize validR (spreadR r (min d 1048576)) = v at *
      generalize spreadR r (min d 1048576) = s at *
      obtain ⟨v, f⟩ := v
      clear k
      rcases fit hd hd0 with ⟨e1, e2⟩ | ⟨e1, e2⟩ <;> rw [e1] at HS <;> clear e1
      all_goals
        go_enter Try.func12, Try.ntmps12
        go_wp2_with (first | (go_at_call 16; refine (tright_nd _ _ _ _ _).mono ?_; rintro e w1 ⟨rfl, hb⟩; obtain ⟨hc, hf⟩ := bcell hb; have hz := hb.size; (try simp at hz); have hz0 : w.heap.size < w1.heap.size := (by omega); have hz1 : w.heap.size + 1 < w1.heap.size := (by omega); have HBl := Lib.hid hb; clear hb) | (go_at_call 34; refine (HS.out _).mono ?_; rintro e w1 ⟨rfl, hb⟩; obtain ⟨hc, hf⟩ := bcell hb; have hz := hb.size; (try simp at hz); have hz0 : w.heap.size < w1.heap.size := (by omega); have hz1 : w.heap.size + 1 < w1.heap.size := (by omega); have HBl := Lib.hid hb; clear hb) | (go_at_call 32; refine (HV.out _).mono ?_; rintro e w1 ⟨rfl, hb⟩; obtain ⟨hc, hf⟩ := bcell hb; have hz := hb.size; (try simp at hz); have hz0 : w.heap.size < w1.heap.size := (by omega); have hz1 : w.heap.size + 1 < w1.heap.size := (by omega); have HBl := Lib.hid hb; clear hb))
        exact bodyPost_ret (v := .tuple #[.agg #[.int .i64 v.X0, .int .i64 v.Y0, .int .i64 v.X1, .int .i64 v.Y1], .bool f]) (by simp [results, Try.results12, go_sem, *]) rfl (RbIs.of rfl rfl rfl rfl rfl (by (repeat' first | exact Below.refl _ _ | assumption | (apply below_drewN) | (refine Below.setCell ?_ (by (try simp); (try omega)) _) | (refine Below.alloc ?_ (by (try simp); (try omega)) _) | (refine Below.trans ?_ (Below.mono (Hid.out (by assumption)) (by (try simp); (try omega)))))))
    · rw [grow_no (fun h => hd0 h.2)]
      clear k
      go_enter Try.func12, Try.ntmps12
      go_wp2_with ((go_at_call 16; refine (tright_nd _ _ _ _ _).mono ?_; rintro e w1 ⟨rfl, hb⟩; obtain ⟨hc, hf⟩ := bcell hb; have hz := hb.size; (try simp at hz); have hz0 : w.heap.size < w1.heap.size := (by omega); have hz1 : w.heap.size + 1 < w1.heap.size := (by omega); have HBl := Lib.hid hb; clear hb))
      exact bodyPost_ret (v := .tuple #[.agg #[.int .i64 0, .int .i64 0, .int .i64 0, .int .i64 0], .bool false]) (by simp [results, Try.results12, go_sem, *]) rfl (RbIs.of rfl rfl rfl rfl rfl (by (repeat' first | exact Below.refl _ _ | assumption | (apply below_drewN) | (refine Below.setCell ?_ (by (try simp); (try omega)) _) | (refine Below.alloc ?_ (by (try simp); (try omega)) _) | (refine Below.trans ?_ (Below.mono (Hid.out (by assumption)) (by (try simp); (try omega)))))))
  · have o : rokB ⟨r.X0, r.Y0, r.X1, r.Y1⟩ = false := (rokB_no r).2 k
    rw [grow_no (fun h => k h.1)]
    clear k
    go_enter Try.func12, Try.ntmps12
    go_wp2_with ((go_at_call 16; refine (tright_nd _ _ _ _ _).mono ?_; rintro e w1 ⟨rfl, hb⟩; obtain ⟨hc, hf⟩ := bcell hb; have hz := hb.size; (try simp at hz); have hz0 : w.heap.size < w1.heap.size := (by omega); have hz1 : w.heap.size + 1 < w1.heap.size := (by omega); have HBl := Lib.hid hb; clear hb))
    exact bodyPost_ret (v := .tuple #[.agg #[.int .i64 0, .int .i64 0, .int .i64 0, .int .i64 0], .bool false]) (by simp [results, Try.results12, go_sem, *]) rfl (RbIs.of rfl rfl rfl rfl rfl (by (repeat' first | exact Below.refl _ _ | assumption | (apply below_drewN) | (refine Below.setCell ?_ (by (try simp); (try omega)) _) | (refine Below.alloc ?_ (by (try simp); (try omega)) _) | (refine Below.trans ?_ (Below.mono (Hid.out (by assumption)) (by (try simp); (try omega)))))))
set_option maxHeartbeats 8000000 in
theorem tshrink_any (r : Rc) (d : Int) (hd : In64 d) (w : World) : Calls Try.prog 14 #[.agg #[.int .i64 r.X0, .int .i64 r.Y0, .int .i64 r.X1, .int .i64 r.Y1], .int .i64 d] w (RbIs (shrinkR r d) w) := by
  by_cases k : ROk r
  · have o : rokB ⟨r.X0, r.Y0, r.X1, r.Y1⟩ = true := (rokB_iff r).2 k
    by_cases hd0 : 0 ≤ d
    · rw [← spread_shrunk k hd0]
      have HS := Lib.hid (fun w => tspread_any r (-(min d 1048576)) k.grid (by omega) w)
      have HV := Lib.hid (fun w => tvalid_any (spreadR r (-(min d 1048576))) w)
      generalize validR (spreadR r (-(min d 1048576))) = v at *
      generalize spreadR r (-(min d 1048576)) = s at *
      obtain ⟨v, f⟩ := v
      clear k
      rcases fit hd hd0 with ⟨e1, e2⟩ | ⟨e1, e2⟩ <;> rw [e1] at HS <;> clear e1
      all_goals
        go_enter Try.func14, Try.ntmps14
        go_wp2_with (first | (go_at_call 16; refine (tright_nd _ _ _ _ _).mono ?_; rintro e w1 ⟨rfl, hb⟩; obtain ⟨hc, hf⟩ := bcell hb; have hz := hb.size; (try simp at hz); have hz0 : w.heap.size < w1.heap.size := (by omega); have hz1 : w.heap.size + 1 < w1.heap.size := (by omega); have HBl := Lib.hid hb; clear hb) | (go_at_call 34; refine (HS.out _).mono ?_; rintro e w1 ⟨rfl, hb⟩; obtain ⟨hc, hf⟩ := bcell hb; have hz := hb.size; (try simp at hz); have hz0 : w.heap.size < w1.heap.size := (by omega); have hz1 : w.heap.size + 1 < w1.heap.size := (by omega); have HBl := Lib.hid hb; clear hb) | (go_at_call 32; refine (HV.out _).mono ?_; rintro e w1 ⟨rfl, hb⟩; obtain ⟨hc, hf⟩ := bcell hb; have hz := hb.size; (try simp at hz); have hz0 : w.heap.size < w1.heap.size := (by omega); have hz1 : w.heap.size + 1 < w1.heap.size := (by omega); have HBl := Lib.hid hb; clear hb))
        exact bodyPost_ret (v := .tuple #[.agg #[.int .i64 v.X0, .int .i64 v.Y0, .int .i64 v.X1, .int .i64 v.Y1], .bool f]) (by simp [results, Try.results14, go_sem, *]) rfl (RbIs.of rfl rfl rfl rfl rfl (by (repeat' first | exact Below.refl _ _ | assumption | (apply below_drewN) | (refine Below.setCell ?_ (by (try simp); (try omega)) _) | (refine Below.alloc ?_ (by (try simp); (try omega)) _) | (refine Below.trans ?_ (Below.mono (Hid.out (by assumption)) (by (try simp); (try omega)))))))
    · rw [shrink_no (fun h => hd0 h.2.1)]
      clear k
      go_enter Try.func14, Try.ntmps14
      go_wp2_with ((go_at_call 16; refine (tright_nd _ _ _ _ _).mono ?_; rintro e w1 ⟨rfl, hb⟩; obtain ⟨hc, hf⟩ := bcell hb; have hz := hb.size; (try simp at hz); have hz0 : w.heap.size < w1.heap.size := (by omega); have hz1 : w.heap.size + 1 < w1.heap.size := (by omega); have HBl := Lib.hid hb; clear hb))
      exact bodyPost_ret (v := .tuple #[.agg #[.int .i64 0, .int .i64 0, .int .i64 0, .int .i64 0], .bool false]) (by simp [results, Try.results14, go_sem, *]) rfl (RbIs.of rfl rfl rfl rfl rfl (by (repeat' first | exact Below.refl _ _ | assumption | (apply below_drewN) | (refine Below.setCell ?_ (by (try simp); (try omega)) _) | (refine Below.alloc ?_ (by (try simp); (try omega)) _) | (refine Below.trans ?_ (Below.mono (Hid.out (by assumption)) (by (try simp); (try omega)))))))
  · have o : rokB ⟨r.X0, r.Y0, r.X1, r.Y1⟩ = false := (rokB_no r).2 k
    rw [shrink_no (fun h => k h.1)]
    clear k
    go_enter Try.func14, Try.ntmps14
    go_wp2_with ((go_at_call 16; refine (tright_nd _ _ _ _ _).mono ?_; rintro e w1 ⟨rfl, hb⟩; obtain ⟨hc, hf⟩ := bcell hb; have hz := hb.size; (try simp at hz); have hz0 : w.heap.size < w1.heap.size := (by omega); have hz1 : w.heap.size + 1 < w1.heap.size := (by omega); have HBl := Lib.hid hb; clear hb))
    exact bodyPost_ret (v := .tuple #[.agg #[.int .i64 0, .int .i64 0, .int .i64 0, .int .i64 0], .bool false]) (by simp [results, Try.results14, go_sem, *]) rfl (RbIs.of rfl rfl rfl rfl rfl (by (repeat' first | exact Below.refl _ _ | assumption | (apply below_drewN) | (refine Below.setCell ?_ (by (try simp); (try omega)) _) | (refine Below.alloc ?_ (by (try simp); (try omega)) _) | (refine Below.trans ?_ (Below.mono (Hid.out (by assumption)) (by (try simp); (try omega)))))))
end Go.Proofs.Ytpbkmphpgjdpfaa
