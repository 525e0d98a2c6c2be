/-
  Contracts of the reference of layer 4: Compare, Min, Max, Add, Mul, Floor, Ceil.
-/
import Derived.Test.YtlkpebcmdkmfjaaQg
set_option linter.unusedVariables false
set_option maxRecDepth 100000
namespace Go.Proofs.Ytlkpebcmdkmfjaa
open Go.RowKit

set_option maxHeartbeats 4000000 in
theorem radd_any (a b : Fr) (ia : InF a) (ib : InF b) (w : World) : Calls Try.prog 13 #[.agg #[.int .i64 a.N, .int .i64 a.D], .agg #[.int .i64 b.N, .int .i64 b.D]] w (FrIs (addF a b) w) := by
  obtain ⟨na, da⟩ := ia
  obtain ⟨nb, db⟩ := ib
  by_cases ka : FOk a
  · have oa : okB ⟨a.N, a.D⟩ = true := (okB_iff a).2 ka
    by_cases kb : FOk b
    · have ob : okB ⟨b.N, b.D⟩ = true := (okB_iff b).2 kb
      have m1 := mul_bd ka.abs.1 kb.abs.2
      have m2 := mul_bd kb.abs.1 ka.abs.2
      have m3 := mul_bd ka.abs.2 kb.abs.2
      have hm := fun w => rmake_any (a.N * b.D + b.N * a.D) (a.D * b.D) ⟨by omega, by omega⟩ ⟨by omega, by omega⟩ w
      rw [← addF_ok ka kb] at hm
      generalize addF a b = x at *
      obtain ⟨x, xe⟩ := x
      have HM := Lib.hid hm; clear hm ka kb
      go_enter Try.func13, Try.ntmps13
      go_wp2_with (first | (go_at_call 17; refine (rright_nd _ _ (by assumption) (by assumption) _).mono ?_; rintro e w1 ⟨rfl, hb⟩; obtain ⟨hc, hf⟩ := bcell hb; have hz := hb.size; (try simp at hz); have hz0 : w.heap.size < w1.heap.size := (by omega); have hz1 : w.heap.size + 1 < w1.heap.size := (by omega); have hz2 : w.heap.size + 1 + 1 < w1.heap.size := (by omega); have HBl := Lib.hid hb; clear hb) | (go_at_call 11; refine (HM.out _).mono ?_; rintro e w1 ⟨rfl, hb⟩; obtain ⟨hc, hf⟩ := bcell hb; have hz := hb.size; (try simp at hz); have hz0 : w.heap.size < w1.heap.size := (by omega); have hz1 : w.heap.size + 1 < w1.heap.size := (by omega); have hz2 : w.heap.size + 1 + 1 < w1.heap.size := (by omega); have HBl := Lib.hid hb; clear hb))
      exact bodyPost_ret (v := .tuple #[.agg #[.int .i64 x.N, .int .i64 x.D], .int .i64 xe]) (by simp [results, Try.results13, go_sem, *]) rfl (FrIs.of rfl rfl rfl (by (repeat' first | exact Below.refl _ _ | assumption | (apply below_drewN) | (refine Below.setCell ?_ (by (try simp); (try omega)) _) | (refine Below.alloc ?_ (by (try simp); (try omega)) _) | (refine Below.trans ?_ (Below.mono (Hid.out (by assumption)) (by (try simp); (try omega)))))))
    · have ob : okB ⟨b.N, b.D⟩ = false := (okB_no b).2 kb
      rw [addF_no a b (fun h => kb h.2)]
      clear ka kb
      go_enter Try.func13, Try.ntmps13
      go_wp2_with (go_at_call 17; refine (rright_nd _ _ (by assumption) (by assumption) _).mono ?_; rintro e w1 ⟨rfl, hb⟩; obtain ⟨hc, hf⟩ := bcell hb; have hz := hb.size; (try simp at hz); have hz0 : w.heap.size < w1.heap.size := (by omega); have hz1 : w.heap.size + 1 < w1.heap.size := (by omega); have hz2 : w.heap.size + 1 + 1 < w1.heap.size := (by omega); have HBl := Lib.hid hb; clear hb)
      exact bodyPost_ret (v := .tuple #[.agg #[.int .i64 0, .int .i64 0], .int .i64 1]) (by simp [results, Try.results13, go_sem, *]) rfl (FrIs.of rfl rfl rfl (by (repeat' first | exact Below.refl _ _ | assumption | (apply below_drewN) | (refine Below.setCell ?_ (by (try simp); (try omega)) _) | (refine Below.alloc ?_ (by (try simp); (try omega)) _) | (refine Below.trans ?_ (Below.mono (Hid.out (by assumption)) (by (try simp); (try omega)))))))
  · have oa : okB ⟨a.N, a.D⟩ = false := (okB_no a).2 ka
    rw [addF_no a b (fun h => ka h.1)]
    clear ka
    go_enter Try.func13, Try.ntmps13
    go_wp2_with (go_at_call 17; refine (rright_nd _ _ (by assumption) (by assumption) _).mono ?_; rintro e w1 ⟨rfl, hb⟩; obtain ⟨hc, hf⟩ := bcell hb; have hz := hb.size; (try simp at hz); have hz0 : w.heap.size < w1.heap.size := (by omega); have hz1 : w.heap.size + 1 < w1.heap.size := (by omega); have hz2 : w.heap.size + 1 + 1 < w1.heap.size := (by omega); have HBl := Lib.hid hb; clear hb)
    exact bodyPost_ret (v := .tuple #[.agg #[.int .i64 0, .int .i64 0], .int .i64 1]) (by simp [results, Try.results13, go_sem, *]) rfl (FrIs.of rfl rfl rfl (by (repeat' first | exact Below.refl _ _ | assumption | (apply below_drewN) | (refine Below.setCell ?_ (by (try simp); (try omega)) _) | (refine Below.alloc ?_ (by (try simp); (try omega)) _) | (refine Below.trans ?_ (Below.mono (Hid.out (by assumption)) (by (try simp); (try omega)))))))

set_option maxHeartbeats 4000000 in
theorem rmul_any (a b : Fr) (ia : InF a) (ib : InF b) (w : World) : Calls Try.prog 15 #[.agg #[.int .i64 a.N, .int .i64 a.D], .agg #[.int .i64 b.N, .int .i64 b.D]] w (FrIs (mulF a b) w) := by
  obtain ⟨na, da⟩ := ia
  obtain ⟨nb, db⟩ := ib
  by_cases ka : FOk a
  · have oa : okB ⟨a.N, a.D⟩ = true := (okB_iff a).2 ka
    by_cases kb : FOk b
    · have ob : okB ⟨b.N, b.D⟩ = true := (okB_iff b).2 kb
      have m1 := mul_bd ka.abs.1 kb.abs.1
      have m3 := mul_bd ka.abs.2 kb.abs.2
      have hm := fun w => rmake_any (a.N * b.N) (a.D * b.D) ⟨by omega, by omega⟩ ⟨by omega, by omega⟩ w
      rw [← mulF_ok ka kb] at hm
      generalize mulF a b = x at *
      obtain ⟨x, xe⟩ := x
      have HM := Lib.hid hm; clear hm ka kb
      go_enter Try.func15, Try.ntmps15
      go_wp2_with (first | (go_at_call 17; refine (rright_nd _ _ (by assumption) (by assumption) _).mono ?_; rintro e w1 ⟨rfl, hb⟩; obtain ⟨hc, hf⟩ := bcell hb; have hz := hb.size; (try simp at hz); have hz0 : w.heap.size < w1.heap.size := (by omega); have hz1 : w.heap.size + 1 < w1.heap.size := (by omega); have hz2 : w.heap.size + 1 + 1 < w1.heap.size := (by omega); have HBl := Lib.hid hb; clear hb) | (go_at_call 11; refine (HM.out _).mono ?_; rintro e w1 ⟨rfl, hb⟩; obtain ⟨hc, hf⟩ := bcell hb; have hz := hb.size; (try simp at hz); have hz0 : w.heap.size < w1.heap.size := (by omega); have hz1 : w.heap.size + 1 < w1.heap.size := (by omega); have hz2 : w.heap.size + 1 + 1 < w1.heap.size := (by omega); have HBl := Lib.hid hb; clear hb))
      exact bodyPost_ret (v := .tuple #[.agg #[.int .i64 x.N, .int .i64 x.D], .int .i64 xe]) (by simp [results, Try.results15, go_sem, *]) rfl (FrIs.of rfl rfl rfl (by (repeat' first | exact Below.refl _ _ | assumption | (apply below_drewN) | (refine Below.setCell ?_ (by (try simp); (try omega)) _) | (refine Below.alloc ?_ (by (try simp); (try omega)) _) | (refine Below.trans ?_ (Below.mono (Hid.out (by assumption)) (by (try simp); (try omega)))))))
    · have ob : okB ⟨b.N, b.D⟩ = false := (okB_no b).2 kb
      rw [mulF_no a b (fun h => kb h.2)]
      clear ka kb
      go_enter Try.func15, Try.ntmps15
      go_wp2_with (go_at_call 17; refine (rright_nd _ _ (by assumption) (by assumption) _).mono ?_; rintro e w1 ⟨rfl, hb⟩; obtain ⟨hc, hf⟩ := bcell hb; have hz := hb.size; (try simp at hz); have hz0 : w.heap.size < w1.heap.size := (by omega); have hz1 : w.heap.size + 1 < w1.heap.size := (by omega); have hz2 : w.heap.size + 1 + 1 < w1.heap.size := (by omega); have HBl := Lib.hid hb; clear hb)
      exact bodyPost_ret (v := .tuple #[.agg #[.int .i64 0, .int .i64 0], .int .i64 1]) (by simp [results, Try.results15, go_sem, *]) rfl (FrIs.of rfl rfl rfl (by (repeat' first | exact Below.refl _ _ | assumption | (apply below_drewN) | (refine Below.setCell ?_ (by (try simp); (try omega)) _) | (refine Below.alloc ?_ (by (try simp); (try omega)) _) | (refine Below.trans ?_ (Below.mono (Hid.out (by assumption)) (by (try simp); (try omega)))))))
  · have oa : okB ⟨a.N, a.D⟩ = false := (okB_no a).2 ka
    rw [mulF_no a b (fun h => ka h.1)]
    clear ka
    go_enter Try.func15, Try.ntmps15
    go_wp2_with (go_at_call 17; refine (rright_nd _ _ (by assumption) (by assumption) _).mono ?_; rintro e w1 ⟨rfl, hb⟩; obtain ⟨hc, hf⟩ := bcell hb; have hz := hb.size; (try simp at hz); have hz0 : w.heap.size < w1.heap.size := (by omega); have hz1 : w.heap.size + 1 < w1.heap.size := (by omega); have hz2 : w.heap.size + 1 + 1 < w1.heap.size := (by omega); have HBl := Lib.hid hb; clear hb)
    exact bodyPost_ret (v := .tuple #[.agg #[.int .i64 0, .int .i64 0], .int .i64 1]) (by simp [results, Try.results15, go_sem, *]) rfl (FrIs.of rfl rfl rfl (by (repeat' first | exact Below.refl _ _ | assumption | (apply below_drewN) | (refine Below.setCell ?_ (by (try simp); (try omega)) _) | (refine Below.alloc ?_ (by (try simp); (try omega)) _) | (refine Below.trans ?_ (Below.mono (Hid.out (by assumption)) (by (try simp); (try omega)))))))

set_option maxHeartbeats 4000000 in
theorem rcompare_any (a b : Fr) (ia : InF a) (ib : InF b) (w : World) : Calls Try.prog 19 #[.agg #[.int .i64 a.N, .int .i64 a.D], .agg #[.int .i64 b.N, .int .i64 b.D]] w (InIs (cmpF a b) w) := by
  obtain ⟨na, da⟩ := ia
  obtain ⟨nb, db⟩ := ib
  by_cases ka : FOk a
  · have oa : okB ⟨a.N, a.D⟩ = true := (okB_iff a).2 ka
    by_cases kb : FOk b
    · have ob : okB ⟨b.N, b.D⟩ = true := (okB_iff b).2 kb
      have m1 := mul_bd ka.abs.1 kb.abs.2
      have m2 := mul_bd kb.abs.1 ka.abs.2
      rw [cmpF_ok ka kb]
      clear ka kb
      unfold cmpI
      by_cases h1 : a.N * b.D < b.N * a.D
      · rw [if_pos h1]
        go_enter Try.func19, Try.ntmps19
        go_wp2_with (go_at_call 17; refine (rright_nd _ _ (by assumption) (by assumption) _).mono ?_; rintro e w1 ⟨rfl, hb⟩; obtain ⟨hc, hf⟩ := bcell hb; have hz := hb.size; (try simp at hz); have hz0 : w.heap.size < w1.heap.size := (by omega); have hz1 : w.heap.size + 1 < w1.heap.size := (by omega); have HBl := Lib.hid hb; clear hb)
        go_ret
        exact ⟨rfl, by (repeat' first | exact Below.refl _ _ | assumption | (apply below_drewN) | (refine Below.setCell ?_ (by (try simp); (try omega)) _) | (refine Below.alloc ?_ (by (try simp); (try omega)) _) | (refine Below.trans ?_ (Below.mono (Hid.out (by assumption)) (by (try simp); (try omega)))))⟩
      · rw [if_neg h1]
        by_cases h2 : b.N * a.D < a.N * b.D
        · rw [if_pos h2]
          go_enter Try.func19, Try.ntmps19
          go_wp2_with (go_at_call 17; refine (rright_nd _ _ (by assumption) (by assumption) _).mono ?_; rintro e w1 ⟨rfl, hb⟩; obtain ⟨hc, hf⟩ := bcell hb; have hz := hb.size; (try simp at hz); have hz0 : w.heap.size < w1.heap.size := (by omega); have hz1 : w.heap.size + 1 < w1.heap.size := (by omega); have HBl := Lib.hid hb; clear hb)
          go_ret
          exact ⟨rfl, by (repeat' first | exact Below.refl _ _ | assumption | (apply below_drewN) | (refine Below.setCell ?_ (by (try simp); (try omega)) _) | (refine Below.alloc ?_ (by (try simp); (try omega)) _) | (refine Below.trans ?_ (Below.mono (Hid.out (by assumption)) (by (try simp); (try omega)))))⟩
        · rw [if_neg h2]
          go_enter Try.func19, Try.ntmps19
          go_wp2_with (go_at_call 17; refine (rright_nd _ _ (by assumption) (by assumption) _).mono ?_; rintro e w1 ⟨rfl, hb⟩; obtain ⟨hc, hf⟩ := bcell hb; have hz := hb.size; (try simp at hz); have hz0 : w.heap.size < w1.heap.size := (by omega); have hz1 : w.heap.size + 1 < w1.heap.size := (by omega); have HBl := Lib.hid hb; clear hb)
          go_ret
          exact ⟨rfl, by (repeat' first | exact Below.refl _ _ | assumption | (apply below_drewN) | (refine Below.setCell ?_ (by (try simp); (try omega)) _) | (refine Below.alloc ?_ (by (try simp); (try omega)) _) | (refine Below.trans ?_ (Below.mono (Hid.out (by assumption)) (by (try simp); (try omega)))))⟩
    · have ob : okB ⟨b.N, b.D⟩ = false := (okB_no b).2 kb
      rw [cmpF_no a b (fun h => kb h.2)]
      clear ka kb
      go_enter Try.func19, Try.ntmps19
      go_wp2_with (go_at_call 17; refine (rright_nd _ _ (by assumption) (by assumption) _).mono ?_; rintro e w1 ⟨rfl, hb⟩; obtain ⟨hc, hf⟩ := bcell hb; have hz := hb.size; (try simp at hz); have hz0 : w.heap.size < w1.heap.size := (by omega); have hz1 : w.heap.size + 1 < w1.heap.size := (by omega); have HBl := Lib.hid hb; clear hb)
      go_ret
      exact ⟨rfl, by (repeat' first | exact Below.refl _ _ | assumption | (apply below_drewN) | (refine Below.setCell ?_ (by (try simp); (try omega)) _) | (refine Below.alloc ?_ (by (try simp); (try omega)) _) | (refine Below.trans ?_ (Below.mono (Hid.out (by assumption)) (by (try simp); (try omega)))))⟩
  · have oa : okB ⟨a.N, a.D⟩ = false := (okB_no a).2 ka
    rw [cmpF_no a b (fun h => ka h.1)]
    clear ka
    go_enter Try.func19, Try.ntmps19
    go_wp2_with (go_at_call 17; refine (rright_nd _ _ (by assumption) (by assumption) _).mono ?_; rintro e w1 ⟨rfl, hb⟩; obtain ⟨hc, hf⟩ := bcell hb; have hz := hb.size; (try simp at hz); have hz0 : w.heap.size < w1.heap.size := (by omega); have hz1 : w.heap.size + 1 < w1.heap.size := (by omega); have HBl := Lib.hid hb; clear hb)
    go_ret
    exact ⟨rfl, by (repeat' first | exact Below.refl _ _ | assumption | (apply below_drewN) | (refine Below.setCell ?_ (by (try simp); (try omega)) _) | (refine Below.alloc ?_ (by (try simp); (try omega)) _) | (refine Below.trans ?_ (Below.mono (Hid.out (by assumption)) (by (try simp); (try omega)))))⟩

set_option maxHeartbeats 4000000 in
theorem rmin_any (a b : Fr) (ia : InF a) (ib : InF b) (w : World) : Calls Try.prog 21 #[.agg #[.int .i64 a.N, .int .i64 a.D], .agg #[.int .i64 b.N, .int .i64 b.D]] w (FIs (minF a b) w) := by
  obtain ⟨na, da⟩ := ia
  obtain ⟨nb, db⟩ := ib
  by_cases ka : FOk a
  · have oa : okB ⟨a.N, a.D⟩ = true := (okB_iff a).2 ka
    by_cases kb : FOk b
    · have ob : okB ⟨b.N, b.D⟩ = true := (okB_iff b).2 kb
      rw [minF_ok ka kb]
      have HM := Lib.hid (fun w => rcompare_any b a ⟨nb, db⟩ ⟨na, da⟩ w)
      clear ka kb
      unfold minR
      by_cases h1 : cmpF b a < 0
      · rw [if_pos h1]
        generalize cmpF b a = c at *
        go_enter Try.func21, Try.ntmps21
        go_wp2_with (first | (go_at_call 17; refine (rright_nd _ _ (by assumption) (by assumption) _).mono ?_; rintro e w1 ⟨rfl, hb⟩; obtain ⟨hc, hf⟩ := bcell hb; have hz := hb.size; (try simp at hz); have hz0 : w.heap.size < w1.heap.size := (by omega); have hz1 : w.heap.size + 1 < w1.heap.size := (by omega); have hz2 : w.heap.size + 1 + 1 < w1.heap.size := (by omega); have HBl := Lib.hid hb; clear hb) | (go_at_call 19; refine (HM.out _).mono ?_; rintro e w1 ⟨rfl, hb⟩; obtain ⟨hc, hf⟩ := bcell hb; have hz := hb.size; (try simp at hz); have hz0 : w.heap.size < w1.heap.size := (by omega); have hz1 : w.heap.size + 1 < w1.heap.size := (by omega); have hz2 : w.heap.size + 1 + 1 < w1.heap.size := (by omega); have HBl := Lib.hid hb; clear hb))
        exact bodyPost_ret (v := .agg #[.int .i64 b.N, .int .i64 b.D]) (by simp [results, Try.results21, go_sem, *]) rfl ⟨rfl, by (repeat' first | exact Below.refl _ _ | assumption | (apply below_drewN) | (refine Below.setCell ?_ (by (try simp); (try omega)) _) | (refine Below.alloc ?_ (by (try simp); (try omega)) _) | (refine Below.trans ?_ (Below.mono (Hid.out (by assumption)) (by (try simp); (try omega)))))⟩
      · rw [if_neg h1]
        generalize cmpF b a = c at *
        go_enter Try.func21, Try.ntmps21
        go_wp2_with (first | (go_at_call 17; refine (rright_nd _ _ (by assumption) (by assumption) _).mono ?_; rintro e w1 ⟨rfl, hb⟩; obtain ⟨hc, hf⟩ := bcell hb; have hz := hb.size; (try simp at hz); have hz0 : w.heap.size < w1.heap.size := (by omega); have hz1 : w.heap.size + 1 < w1.heap.size := (by omega); have hz2 : w.heap.size + 1 + 1 < w1.heap.size := (by omega); have HBl := Lib.hid hb; clear hb) | (go_at_call 19; refine (HM.out _).mono ?_; rintro e w1 ⟨rfl, hb⟩; obtain ⟨hc, hf⟩ := bcell hb; have hz := hb.size; (try simp at hz); have hz0 : w.heap.size < w1.heap.size := (by omega); have hz1 : w.heap.size + 1 < w1.heap.size := (by omega); have hz2 : w.heap.size + 1 + 1 < w1.heap.size := (by omega); have HBl := Lib.hid hb; clear hb))
        exact bodyPost_ret (v := .agg #[.int .i64 a.N, .int .i64 a.D]) (by simp [results, Try.results21, go_sem, *]) rfl ⟨rfl, by (repeat' first | exact Below.refl _ _ | assumption | (apply below_drewN) | (refine Below.setCell ?_ (by (try simp); (try omega)) _) | (refine Below.alloc ?_ (by (try simp); (try omega)) _) | (refine Below.trans ?_ (Below.mono (Hid.out (by assumption)) (by (try simp); (try omega)))))⟩
    · have ob : okB ⟨b.N, b.D⟩ = false := (okB_no b).2 kb
      rw [minF_no a b (fun h => kb h.2)]
      clear ka kb
      go_enter Try.func21, Try.ntmps21
      go_wp2_with (go_at_call 17; refine (rright_nd _ _ (by assumption) (by assumption) _).mono ?_; rintro e w1 ⟨rfl, hb⟩; obtain ⟨hc, hf⟩ := bcell hb; have hz := hb.size; (try simp at hz); have hz0 : w.heap.size < w1.heap.size := (by omega); have hz1 : w.heap.size + 1 < w1.heap.size := (by omega); have hz2 : w.heap.size + 1 + 1 < w1.heap.size := (by omega); have HBl := Lib.hid hb; clear hb)
      exact bodyPost_ret (v := .agg #[.int .i64 0, .int .i64 0]) (by simp [results, Try.results21, go_sem, *]) rfl ⟨rfl, by (repeat' first | exact Below.refl _ _ | assumption | (apply below_drewN) | (refine Below.setCell ?_ (by (try simp); (try omega)) _) | (refine Below.alloc ?_ (by (try simp); (try omega)) _) | (refine Below.trans ?_ (Below.mono (Hid.out (by assumption)) (by (try simp); (try omega)))))⟩
  · have oa : okB ⟨a.N, a.D⟩ = false := (okB_no a).2 ka
    rw [minF_no a b (fun h => ka h.1)]
    clear ka
    go_enter Try.func21, Try.ntmps21
    go_wp2_with (go_at_call 17; refine (rright_nd _ _ (by assumption) (by assumption) _).mono ?_; rintro e w1 ⟨rfl, hb⟩; obtain ⟨hc, hf⟩ := bcell hb; have hz := hb.size; (try simp at hz); have hz0 : w.heap.size < w1.heap.size := (by omega); have hz1 : w.heap.size + 1 < w1.heap.size := (by omega); have hz2 : w.heap.size + 1 + 1 < w1.heap.size := (by omega); have HBl := Lib.hid hb; clear hb)
    exact bodyPost_ret (v := .agg #[.int .i64 0, .int .i64 0]) (by simp [results, Try.results21, go_sem, *]) rfl ⟨rfl, by (repeat' first | exact Below.refl _ _ | assumption | (apply below_drewN) | (refine Below.setCell ?_ (by (try simp); (try omega)) _) | (refine Below.alloc ?_ (by (try simp); (try omega)) _) | (refine Below.trans ?_ (Below.mono (Hid.out (by assumption)) (by (try simp); (try omega)))))⟩

set_option maxHeartbeats 4000000 in
theorem rmax_any (a b : Fr) (ia : InF a) (ib : InF b) (w : World) : Calls Try.prog 23 #[.agg #[.int .i64 a.N, .int .i64 a.D], .agg #[.int .i64 b.N, .int .i64 b.D]] w (FIs (maxF a b) w) := by
  obtain ⟨na, da⟩ := ia
  obtain ⟨nb, db⟩ := ib
  by_cases ka : FOk a
  · have oa : okB ⟨a.N, a.D⟩ = true := (okB_iff a).2 ka
    by_cases kb : FOk b
    · have ob : okB ⟨b.N, b.D⟩ = true := (okB_iff b).2 kb
      rw [maxF_ok ka kb]
      have HM := Lib.hid (fun w => rcompare_any b a ⟨nb, db⟩ ⟨na, da⟩ w)
      clear ka kb
      unfold maxR
      by_cases h1 : 0 < cmpF b a
      · rw [if_pos h1]
        generalize cmpF b a = c at *
        go_enter Try.func23, Try.ntmps23
        go_wp2_with (first | (go_at_call 17; refine (rright_nd _ _ (by assumption) (by assumption) _).mono ?_; rintro e w1 ⟨rfl, hb⟩; obtain ⟨hc, hf⟩ := bcell hb; have hz := hb.size; (try simp at hz); have hz0 : w.heap.size < w1.heap.size := (by omega); have hz1 : w.heap.size + 1 < w1.heap.size := (by omega); have hz2 : w.heap.size + 1 + 1 < w1.heap.size := (by omega); have HBl := Lib.hid hb; clear hb) | (go_at_call 19; refine (HM.out _).mono ?_; rintro e w1 ⟨rfl, hb⟩; obtain ⟨hc, hf⟩ := bcell hb; have hz := hb.size; (try simp at hz); have hz0 : w.heap.size < w1.heap.size := (by omega); have hz1 : w.heap.size + 1 < w1.heap.size := (by omega); have hz2 : w.heap.size + 1 + 1 < w1.heap.size := (by omega); have HBl := Lib.hid hb; clear hb))
        exact bodyPost_ret (v := .agg #[.int .i64 b.N, .int .i64 b.D]) (by simp [results, Try.results23, go_sem, *]) rfl ⟨rfl, by (repeat' first | exact Below.refl _ _ | assumption | (apply below_drewN) | (refine Below.setCell ?_ (by (try simp); (try omega)) _) | (refine Below.alloc ?_ (by (try simp); (try omega)) _) | (refine Below.trans ?_ (Below.mono (Hid.out (by assumption)) (by (try simp); (try omega)))))⟩
      · rw [if_neg h1]
        generalize cmpF b a = c at *
        go_enter Try.func23, Try.ntmps23
        go_wp2_with (first | (go_at_call 17; refine (rright_nd _ _ (by assumption) (by assumption) _).mono ?_; rintro e w1 ⟨rfl, hb⟩; obtain ⟨hc, hf⟩ := bcell hb; have hz := hb.size; (try simp at hz); have hz0 : w.heap.size < w1.heap.size := (by omega); have hz1 : w.heap.size + 1 < w1.heap.size := (by omega); have hz2 : w.heap.size + 1 + 1 < w1.heap.size := (by omega); have HBl := Lib.hid hb; clear hb) | (go_at_call 19; refine (HM.out _).mono ?_; rintro e w1 ⟨rfl, hb⟩; obtain ⟨hc, hf⟩ := bcell hb; have hz := hb.size; (try simp at hz); have hz0 : w.heap.size < w1.heap.size := (by omega); have hz1 : w.heap.size + 1 < w1.heap.size := (by omega); have hz2 : w.heap.size + 1 + 1 < w1.heap.size := (by omega); have HBl := Lib.hid hb; clear hb))
        exact bodyPost_ret (v := .agg #[.int .i64 a.N, .int .i64 a.D]) (by simp [results, Try.results23, go_sem, *]) rfl ⟨rfl, by (repeat' first | exact Below.refl _ _ | assumption | (apply below_drewN) | (refine Below.setCell ?_ (by (try simp); (try omega)) _) | (refine Below.alloc ?_ (by (try simp); (try omega)) _) | (refine Below.trans ?_ (Below.mono (Hid.out (by assumption)) (by (try simp); (try omega)))))⟩
    · have ob : okB ⟨b.N, b.D⟩ = false := (okB_no b).2 kb
      rw [maxF_no a b (fun h => kb h.2)]
      clear ka kb
      go_enter Try.func23, Try.ntmps23
      go_wp2_with (go_at_call 17; refine (rright_nd _ _ (by assumption) (by assumption) _).mono ?_; rintro e w1 ⟨rfl, hb⟩; obtain ⟨hc, hf⟩ := bcell hb; have hz := hb.size; (try simp at hz); have hz0 : w.heap.size < w1.heap.size := (by omega); have hz1 : w.heap.size + 1 < w1.heap.size := (by omega); have hz2 : w.heap.size + 1 + 1 < w1.heap.size := (by omega); have HBl := Lib.hid hb; clear hb)
      exact bodyPost_ret (v := .agg #[.int .i64 0, .int .i64 0]) (by simp [results, Try.results23, go_sem, *]) rfl ⟨rfl, by (repeat' first | exact Below.refl _ _ | assumption | (apply below_drewN) | (refine Below.setCell ?_ (by (try simp); (try omega)) _) | (refine Below.alloc ?_ (by (try simp); (try omega)) _) | (refine Below.trans ?_ (Below.mono (Hid.out (by assumption)) (by (try simp); (try omega)))))⟩
  · have oa : okB ⟨a.N, a.D⟩ = false := (okB_no a).2 ka
    rw [maxF_no a b (fun h => ka h.1)]
    clear ka
    go_enter Try.func23, Try.ntmps23
    go_wp2_with (go_at_call 17; refine (rright_nd _ _ (by assumption) (by assumption) _).mono ?_; rintro e w1 ⟨rfl, hb⟩; obtain ⟨hc, hf⟩ := bcell hb; have hz := hb.size; (try simp at hz); have hz0 : w.heap.size < w1.heap.size := (by omega); have hz1 : w.heap.size + 1 < w1.heap.size := (by omega); have hz2 : w.heap.size + 1 + 1 < w1.heap.size := (by omega); have HBl := Lib.hid hb; clear hb)
    exact bodyPost_ret (v := .agg #[.int .i64 0, .int .i64 0]) (by simp [results, Try.results23, go_sem, *]) rfl ⟨rfl, by (repeat' first | exact Below.refl _ _ | assumption | (apply below_drewN) | (refine Below.setCell ?_ (by (try simp); (try omega)) _) | (refine Below.alloc ?_ (by (try simp); (try omega)) _) | (refine Below.trans ?_ (Below.mono (Hid.out (by assumption)) (by (try simp); (try omega)))))⟩

theorem up_div (x d : Int) (hd : 1 ≤ d) : (x + d - 1) / d = -((-x) / d) := by
  have a1 := Int.ediv_mul_le (-x) (show d ≠ 0 by omega)
  have a2 := Int.lt_ediv_add_one_mul_self (-x) (show 0 < d by omega)
  have b1 := Int.ediv_mul_le (x + d - 1) (show d ≠ 0 by omega)
  have b2 := Int.lt_ediv_add_one_mul_self (x + d - 1) (show 0 < d by omega)
  generalize (-x) / d = q at *
  generalize (x + d - 1) / d = y at *
  have e1 : (q + 1) * d = q * d + d := by grind
  have e2 : (y + 1) * d = y * d + d := by grind
  have e3 : (y + q) * d = y * d + q * d := by grind
  have u1 : (y + q) * d < 1 * d := by omega
  have u2 : -1 * d < (y + q) * d := by omega
  have w1 : y + q < 1 := Int.lt_of_mul_lt_mul_right u1 (by omega)
  have w2 : -1 < y + q := Int.lt_of_mul_lt_mul_right u2 (by omega)
  omega
theorem floorF_bd2 {r : Fr} (h : FOk r) : -1073741824 ≤ floorF r ∧ floorF r ≤ 1073741824 := ⟨(floor_bd h).1, (floor_bd h).2.1⟩
theorem ceilF_bd2 {r : Fr} (h : FOk r) : -1073741824 ≤ ceilF r ∧ ceilF r ≤ 1073741824 := by
  have h2 := floor_bd (neg_ok h)
  have e1 : floorF ⟨-r.N, r.D⟩ = (-r.N) / r.D := by unfold floorF; rw [(okB_iff _).2 (neg_ok h)]; rfl
  have e2 : ceilF r = -((-r.N) / r.D) := by unfold ceilF; rw [(okB_iff r).2 h]; rfl
  rw [e1] at h2
  omega

set_option maxHeartbeats 4000000 in
theorem rfloor_any (r : Fr) (hr : InF r) (w : World) : Calls Try.prog 25 #[.agg #[.int .i64 r.N, .int .i64 r.D]] w (InIs (floorF r) w) := by
  obtain ⟨na, da⟩ := hr
  by_cases k : FOk r
  · have o : okB ⟨r.N, r.D⟩ = true := (okB_iff r).2 k
    have hF : floorF r = r.N / r.D := by unfold floorF; rw [(okB_iff r).2 k]; rfl
    have hbd := floorF_bd2 k
    rw [hF] at hbd ⊢
    obtain ⟨h1, h2, h3, h4, _⟩ := k
    have hup := up_div r.N r.D h1
    have hup2 := up_div (-r.N) r.D h1
    rw [Int.neg_neg] at hup2
    have hd0 : (r.D == 0) = false := by simp; omega
    clear hF
    by_cases hc : 0 ≤ r.N
    · have HU := Lib.hid hup2; clear hup hup2
      go_enter Try.func25, Try.ntmps25
      go_wp2_with (go_at_call 17; refine (rright_nd _ _ (by assumption) (by assumption) _).mono ?_; rintro e w1 ⟨rfl, hb⟩; obtain ⟨hc, hf⟩ := bcell hb; have hz := hb.size; (try simp at hz); have hz0 : w.heap.size < w1.heap.size := (by omega); have HBl := Lib.hid hb; clear hb)
      go_ret
      exact InIs.of (by first | rfl | (rw [HU.out]; omega) | (rw [HU.out])) (by (repeat' first | exact Below.refl _ _ | assumption | (apply below_drewN) | (refine Below.setCell ?_ (by (try simp); (try omega)) _) | (refine Below.alloc ?_ (by (try simp); (try omega)) _) | (refine Below.trans ?_ (Below.mono (Hid.out (by assumption)) (by (try simp); (try omega))))))
    · have HU := Lib.hid hup2
      have hq := hup2
      clear hup hup2
      go_enter Try.func25, Try.ntmps25
      go_wp2_with (go_at_call 17; refine (rright_nd _ _ (by assumption) (by assumption) _).mono ?_; rintro e w1 ⟨rfl, hb⟩; obtain ⟨hc, hf⟩ := bcell hb; have hz := hb.size; (try simp at hz); have hz0 : w.heap.size < w1.heap.size := (by omega); have HBl := Lib.hid hb; clear hb)
      go_ret
      exact InIs.of (by first | rfl | omega | (rw [HU.out]; omega) | (rw [HU.out])) (by (repeat' first | exact Below.refl _ _ | assumption | (apply below_drewN) | (refine Below.setCell ?_ (by (try simp); (try omega)) _) | (refine Below.alloc ?_ (by (try simp); (try omega)) _) | (refine Below.trans ?_ (Below.mono (Hid.out (by assumption)) (by (try simp); (try omega))))))
  · have o : okB ⟨r.N, r.D⟩ = false := (okB_no r).2 k
    have hF : floorF r = 0 := by unfold floorF; rw [(okB_no r).2 k]; rfl
    rw [hF]; clear hF k
    go_enter Try.func25, Try.ntmps25
    go_wp2_with (go_at_call 17; refine (rright_nd _ _ (by assumption) (by assumption) _).mono ?_; rintro e w1 ⟨rfl, hb⟩; obtain ⟨hc, hf⟩ := bcell hb; have hz := hb.size; (try simp at hz); have hz0 : w.heap.size < w1.heap.size := (by omega); have HBl := Lib.hid hb; clear hb)
    go_ret
    exact ⟨rfl, by (repeat' first | exact Below.refl _ _ | assumption | (apply below_drewN) | (refine Below.setCell ?_ (by (try simp); (try omega)) _) | (refine Below.alloc ?_ (by (try simp); (try omega)) _) | (refine Below.trans ?_ (Below.mono (Hid.out (by assumption)) (by (try simp); (try omega)))))⟩

set_option maxHeartbeats 4000000 in
theorem rceil_any (r : Fr) (hr : InF r) (w : World) : Calls Try.prog 27 #[.agg #[.int .i64 r.N, .int .i64 r.D]] w (InIs (ceilF r) w) := by
  obtain ⟨na, da⟩ := hr
  by_cases k : FOk r
  · have o : okB ⟨r.N, r.D⟩ = true := (okB_iff r).2 k
    have hF : ceilF r = -((-r.N) / r.D) := by unfold ceilF; rw [(okB_iff r).2 k]; rfl
    have hbd := ceilF_bd2 k
    rw [hF] at hbd ⊢
    obtain ⟨h1, h2, h3, h4, _⟩ := k
    have hup := up_div r.N r.D h1
    have hup2 := up_div (-r.N) r.D h1
    rw [Int.neg_neg] at hup2
    have hd0 : (r.D == 0) = false := by simp; omega
    clear hF
    by_cases hc : r.N ≤ 0
    · have hT : -((-r.N) / r.D) = r.N.tdiv r.D := by
        have e1 : (-r.N).tdiv r.D = (-r.N) / r.D := Int.tdiv_eq_ediv_of_nonneg (by omega)
        rw [← e1, Int.neg_tdiv]; omega
      rw [hT] at hbd ⊢
      clear hup hup2 hT
      go_enter Try.func27, Try.ntmps27
      go_wp2_with (go_at_call 17; refine (rright_nd _ _ (by assumption) (by assumption) _).mono ?_; rintro e w1 ⟨rfl, hb⟩; obtain ⟨hc, hf⟩ := bcell hb; have hz := hb.size; (try simp at hz); have hz0 : w.heap.size < w1.heap.size := (by omega); have HBl := Lib.hid hb; clear hb)
      go_ret
      exact InIs.of (by first | rfl | omega) (by (repeat' first | exact Below.refl _ _ | assumption | (apply below_drewN) | (refine Below.setCell ?_ (by (try simp); (try omega)) _) | (refine Below.alloc ?_ (by (try simp); (try omega)) _) | (refine Below.trans ?_ (Below.mono (Hid.out (by assumption)) (by (try simp); (try omega))))))
    · have HU := Lib.hid hup
      have hq := hup
      clear hup hup2
      go_enter Try.func27, Try.ntmps27
      go_wp2_with (go_at_call 17; refine (rright_nd _ _ (by assumption) (by assumption) _).mono ?_; rintro e w1 ⟨rfl, hb⟩; obtain ⟨hc, hf⟩ := bcell hb; have hz := hb.size; (try simp at hz); have hz0 : w.heap.size < w1.heap.size := (by omega); have HBl := Lib.hid hb; clear hb)
      go_ret
      exact InIs.of (by first | rfl | omega | (rw [HU.out]; omega) | (rw [HU.out])) (by (repeat' first | exact Below.refl _ _ | assumption | (apply below_drewN) | (refine Below.setCell ?_ (by (try simp); (try omega)) _) | (refine Below.alloc ?_ (by (try simp); (try omega)) _) | (refine Below.trans ?_ (Below.mono (Hid.out (by assumption)) (by (try simp); (try omega))))))
  · have o : okB ⟨r.N, r.D⟩ = false := (okB_no r).2 k
    have hF : ceilF r = 0 := by unfold ceilF; rw [(okB_no r).2 k]; rfl
    rw [hF]; clear hF k
    go_enter Try.func27, Try.ntmps27
    go_wp2_with (go_at_call 17; refine (rright_nd _ _ (by assumption) (by assumption) _).mono ?_; rintro e w1 ⟨rfl, hb⟩; obtain ⟨hc, hf⟩ := bcell hb; have hz := hb.size; (try simp at hz); have hz0 : w.heap.size < w1.heap.size := (by omega); have HBl := Lib.hid hb; clear hb)
    go_ret
    exact ⟨rfl, by (repeat' first | exact Below.refl _ _ | assumption | (apply below_drewN) | (refine Below.setCell ?_ (by (try simp); (try omega)) _) | (refine Below.alloc ?_ (by (try simp); (try omega)) _) | (refine Below.trans ?_ (Below.mono (Hid.out (by assumption)) (by (try simp); (try omega)))))⟩
end Go.Proofs.Ytlkpebcmdkmfjaa
