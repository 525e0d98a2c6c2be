/-
  Contracts of the reference of layer 5 (3): Grow, Shrink.
-/
import Derived.Test.YtpbkmphpgjdpfaaEc
set_option linter.unusedVariables false
set_option maxRecDepth 100000
namespace Go.Proofs.Ytpbkmphpgjdpfaa
open Go.RowKit

theorem grown_all {r : Rc} {d : Int} (h : ROk r) (hd : 1048576 < d) : grownR r d = grownR r 1048576 := by
  unfold ROk Span at h
  apply Rc.eq <;> simp only [grownR] <;> omega
set_option maxHeartbeats 8000000 in
theorem ugrow_any (r : Rc) (d : Int) (ir : InR r) (hd : In64 d) (w : World) : Calls Try.prog 13 #[.agg #[.int .i64 r.X0, .int .i64 r.Y0, .int .i64 r.X1, .int .i64 r.Y1], .int .i64 d] w (RbIs (growR r d) w) := by
  by_cases k : ROk r
  · have o : rokB ⟨r.X0, r.Y0, r.X1, r.Y1⟩ = true := (rokB_iff r).2 k
    by_cases hd0 : 0 ≤ d
    · rw [grow_is k hd0]
      by_cases hbig : d ≤ 1048576
      · obtain ⟨⟨h1, h2, h3⟩, h4, h5, h6⟩ := k
        go_enter Try.func13, Try.ntmps13
        go_wp2_with (go_at_call 17; refine (uright_nd _ _ _ _ _).mono ?_; rintro e w1 ⟨rfl, hb⟩; obtain ⟨hc, hf⟩ := bcell hb; have hz := hb.size; (try simp at hz); have hz0 : w.heap.size < w1.heap.size := (by omega); have hz1 : w.heap.size + 1 < w1.heap.size := (by omega); have HBl := Lib.hid hb; clear hb)
        all_goals exact bodyPost_ret (v := .tuple #[.agg #[.int .i64 (grownR r d).X0, .int .i64 (grownR r d).Y0, .int .i64 (grownR r d).X1, .int .i64 (grownR r d).Y1], .bool true]) (by simp [results, Try.results13, go_sem, *, grownR] <;> omega) rfl (RbIs.of rfl rfl rfl rfl rfl (by (repeat' first | exact Below.refl _ _ | assumption | (apply below_drewN) | (refine Below.setCell ?_ (by (try simp); (try omega)) _) | (refine Below.alloc ?_ (by (try simp); (try omega)) _) | (refine Below.trans ?_ (Below.mono (Hid.out (by assumption)) (by (try simp); (try omega)))))))
      · rw [grown_all k (by omega)]
        obtain ⟨⟨h1, h2, h3⟩, h4, h5, h6⟩ := k
        go_enter Try.func13, Try.ntmps13
        go_wp2_with (go_at_call 17; refine (uright_nd _ _ _ _ _).mono ?_; rintro e w1 ⟨rfl, hb⟩; obtain ⟨hc, hf⟩ := bcell hb; have hz := hb.size; (try simp at hz); have hz0 : w.heap.size < w1.heap.size := (by omega); have hz1 : w.heap.size + 1 < w1.heap.size := (by omega); have HBl := Lib.hid hb; clear hb)
        all_goals exact bodyPost_ret (v := .tuple #[.agg #[.int .i64 (grownR r 1048576).X0, .int .i64 (grownR r 1048576).Y0, .int .i64 (grownR r 1048576).X1, .int .i64 (grownR r 1048576).Y1], .bool true]) (by simp [results, Try.results13, go_sem, *, grownR] <;> omega) rfl (RbIs.of rfl rfl rfl rfl rfl (by (repeat' first | exact Below.refl _ _ | assumption | (apply below_drewN) | (refine Below.setCell ?_ (by (try simp); (try omega)) _) | (refine Below.alloc ?_ (by (try simp); (try omega)) _) | (refine Below.trans ?_ (Below.mono (Hid.out (by assumption)) (by (try simp); (try omega)))))))
    · rw [grow_no (fun h => hd0 h.2)]
      clear k
      go_enter Try.func13, Try.ntmps13
      go_wp2_with (go_at_call 17; refine (uright_nd _ _ _ _ _).mono ?_; rintro e w1 ⟨rfl, hb⟩; obtain ⟨hc, hf⟩ := bcell hb; have hz := hb.size; (try simp at hz); have hz0 : w.heap.size < w1.heap.size := (by omega); have hz1 : w.heap.size + 1 < w1.heap.size := (by omega); have HBl := Lib.hid hb; clear hb)
      exact bodyPost_ret (v := .tuple #[.agg #[.int .i64 0, .int .i64 0, .int .i64 0, .int .i64 0], .bool false]) (by simp [results, Try.results13, go_sem, *]) rfl (RbIs.of rfl rfl rfl rfl rfl (by (repeat' first | exact Below.refl _ _ | assumption | (apply below_drewN) | (refine Below.setCell ?_ (by (try simp); (try omega)) _) | (refine Below.alloc ?_ (by (try simp); (try omega)) _) | (refine Below.trans ?_ (Below.mono (Hid.out (by assumption)) (by (try simp); (try omega)))))))
  · have o : rokB ⟨r.X0, r.Y0, r.X1, r.Y1⟩ = false := (rokB_no r).2 k
    rw [grow_no (fun h => k h.1)]
    clear k
    go_enter Try.func13, Try.ntmps13
    go_wp2_with (go_at_call 17; refine (uright_nd _ _ _ _ _).mono ?_; rintro e w1 ⟨rfl, hb⟩; obtain ⟨hc, hf⟩ := bcell hb; have hz := hb.size; (try simp at hz); have hz0 : w.heap.size < w1.heap.size := (by omega); have hz1 : w.heap.size + 1 < w1.heap.size := (by omega); have HBl := Lib.hid hb; clear hb)
    exact bodyPost_ret (v := .tuple #[.agg #[.int .i64 0, .int .i64 0, .int .i64 0, .int .i64 0], .bool false]) (by simp [results, Try.results13, go_sem, *]) rfl (RbIs.of rfl rfl rfl rfl rfl (by (repeat' first | exact Below.refl _ _ | assumption | (apply below_drewN) | (refine Below.setCell ?_ (by (try simp); (try omega)) _) | (refine Below.alloc ?_ (by (try simp); (try omega)) _) | (refine Below.trans ?_ (Below.mono (Hid.out (by assumption)) (by (try simp); (try omega)))))))
end Go.Proofs.Ytpbkmphpgjdpfaa
