/-
  Contracts of the program's layer 5: Intersect.
-/
import Derived.Test.YtpbkmphpgjdpfaaEk
import Derived.Test.YtpbkmphpgjdpfaaEh
set_option linter.unusedVariables false
set_option maxRecDepth 100000
namespace Go.Proofs.Ytpbkmphpgjdpfaa
open Go.RowKit

theorem inter_valid {a b : Rc} (ha : ROk a) (hb : ROk b) : interR a b = validR (meetR a b) := by
  unfold interR validR
  by_cases h : ROk (meetR a b)
  · rw [if_pos ⟨ha, hb, h⟩, if_pos h]
  · rw [if_neg (fun k => h k.2.2), if_neg h]
set_option maxHeartbeats 8000000 in
theorem tinter_any (a b : Rc) (w : World) : Calls Try.prog 10 #[.agg #[.int .i64 a.X0, .int .i64 a.Y0, .int .i64 a.X1, .int .i64 a.Y1], .agg #[.int .i64 b.X0, .int .i64 b.Y0, .int .i64 b.X1, .int .i64 b.Y1]] w (RbIs (interR a b) w) := by
  by_cases ka : ROk a
  · have oa : rokB ⟨a.X0, a.Y0, a.X1, a.Y1⟩ = true := (rokB_iff a).2 ka
    by_cases kb : ROk b
    · have ob : rokB ⟨b.X0, b.Y0, b.X1, b.Y1⟩ = true := (rokB_iff b).2 kb
      rw [inter_valid ka kb]
      have HO := Lib.hid (fun w => toverlap_any a b w)
      clear ka kb
      generalize meetR a b = m at *
      have HV := Lib.hid (fun w => tvalid_any m w)
      generalize validR m = v at *
      obtain ⟨v, f⟩ := v
      go_enter Try.func10, Try.ntmps10
      go_wp2_with (first | (go_at_call 16; refine (tright_nd _ _ _ _ _).mono ?_; rintro e w1 ⟨rfl, hb⟩; obtain ⟨hc, hf⟩ := bcell hb; have hz := hb.size; (try simp at hz); have hz0 : w.heap.size < w1.heap.size := (by omega); have hz1 : w.heap.size + 1 < w1.heap.size := (by omega); have hz2 : w.heap.size + 1 + 1 < w1.heap.size := (by omega); have HBl := Lib.hid hb; clear hb) | (go_at_call 33; refine (HO.out _).mono ?_; rintro e w1 ⟨rfl, hb⟩; obtain ⟨hc, hf⟩ := bcell hb; have hz := hb.size; (try simp at hz); have hz0 : w.heap.size < w1.heap.size := (by omega); have hz1 : w.heap.size + 1 < w1.heap.size := (by omega); have hz2 : w.heap.size + 1 + 1 < w1.heap.size := (by omega); have HBl := Lib.hid hb; clear hb) | (go_at_call 32; refine (HV.out _).mono ?_; rintro e w1 ⟨rfl, hb⟩; obtain ⟨hc, hf⟩ := bcell hb; have hz := hb.size; (try simp at hz); have hz0 : w.heap.size < w1.heap.size := (by omega); have hz1 : w.heap.size + 1 < w1.heap.size := (by omega); have hz2 : w.heap.size + 1 + 1 < w1.heap.size := (by omega); have HBl := Lib.hid hb; clear hb))
      exact bodyPost_ret (v := .tuple #[.agg #[.int .i64 v.X0, .int .i64 v.Y0, .int .i64 v.X1, .int .i64 v.Y1], .bool f]) (by simp [results, Try.results10, go_sem, *]) rfl (RbIs.of rfl rfl rfl rfl rfl (by (repeat' first | exact Below.refl _ _ | assumption | (apply below_drewN) | (refine Below.setCell ?_ (by (try simp); (try omega)) _) | (refine Below.alloc ?_ (by (try simp); (try omega)) _) | (refine Below.trans ?_ (Below.mono (Hid.out (by assumption)) (by (try simp); (try omega)))))))
    · have ob : rokB ⟨b.X0, b.Y0, b.X1, b.Y1⟩ = false := (rokB_no b).2 kb
      rw [inter_none (fun h => kb h.2.1)]
      clear ka kb
      go_enter Try.func10, Try.ntmps10
      go_wp2_with ((go_at_call 16; refine (tright_nd _ _ _ _ _).mono ?_; rintro e w1 ⟨rfl, hb⟩; obtain ⟨hc, hf⟩ := bcell hb; have hz := hb.size; (try simp at hz); have hz0 : w.heap.size < w1.heap.size := (by omega); have hz1 : w.heap.size + 1 < w1.heap.size := (by omega); have hz2 : w.heap.size + 1 + 1 < w1.heap.size := (by omega); have HBl := Lib.hid hb; clear hb))
      exact bodyPost_ret (v := .tuple #[.agg #[.int .i64 0, .int .i64 0, .int .i64 0, .int .i64 0], .bool false]) (by simp [results, Try.results10, go_sem, *]) rfl (RbIs.of rfl rfl rfl rfl rfl (by (repeat' first | exact Below.refl _ _ | assumption | (apply below_drewN) | (refine Below.setCell ?_ (by (try simp); (try omega)) _) | (refine Below.alloc ?_ (by (try simp); (try omega)) _) | (refine Below.trans ?_ (Below.mono (Hid.out (by assumption)) (by (try simp); (try omega)))))))
  · have oa : rokB ⟨a.X0, a.Y0, a.X1, a.Y1⟩ = false := (rokB_no a).2 ka
    rw [inter_none (fun h => ka h.1)]
    clear ka
    go_enter Try.func10, Try.ntmps10
    go_wp2_with ((go_at_call 16; refine (tright_nd _ _ _ _ _).mono ?_; rintro e w1 ⟨rfl, hb⟩; obtain ⟨hc, hf⟩ := bcell hb; have hz := hb.size; (try simp at hz); have hz0 : w.heap.size < w1.heap.size := (by omega); have hz1 : w.heap.size + 1 < w1.heap.size := (by omega); have hz2 : w.heap.size + 1 + 1 < w1.heap.size := (by omega); have HBl := Lib.hid hb; clear hb))
    exact bodyPost_ret (v := .tuple #[.agg #[.int .i64 0, .int .i64 0, .int .i64 0, .int .i64 0], .bool false]) (by simp [results, Try.results10, go_sem, *]) rfl (RbIs.of rfl rfl rfl rfl rfl (by (repeat' first | exact Below.refl _ _ | assumption | (apply below_drewN) | (refine Below.setCell ?_ (by (try simp); (try omega)) _) | (refine Below.alloc ?_ (by (try simp); (try omega)) _) | (refine Below.trans ?_ (Below.mono (Hid.out (by assumption)) (by (try simp); (try omega)))))))
end Go.Proofs.Ytpbkmphpgjdpfaa
