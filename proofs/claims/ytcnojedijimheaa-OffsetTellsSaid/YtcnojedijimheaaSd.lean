/-
  Contracts of the program's layer 5, as far as layer 8 calls it: spread, Grow, Gap.
-/
import Derived.Test.YtcnojedijimheaaHe
import Derived.Test.YtcnojedijimheaaSa
set_option linter.unusedVariables false
set_option maxRecDepth 100000
namespace Go.Proofs.Ytcnojedijimheaa
open Go.RowKit

def spreadR (r : Rc) (d : Int) : Rc := ⟨max (r.X0 - d) 0, max (r.Y0 - d) 0, min (r.X1 + d) 1048576, min (r.Y1 + d) 1048576⟩
set_option maxHeartbeats 4000000 in
theorem tspread_any (r : Rc) (d : Int) (h : GridR r) (hd : -1048576 ≤ d ∧ d ≤ 1048576) (w : World) : Calls Try.prog 92 #[.agg #[.int .i64 r.X0, .int .i64 r.Y0, .int .i64 r.X1, .int .i64 r.Y1], .int .i64 d] w (RcIs (spreadR r d) w) := by
  obtain ⟨⟨h1, h2⟩, ⟨h3, h4⟩, ⟨h5, h6⟩, h7, h8⟩ := h
  obtain ⟨d1, d2⟩ := hd
  go_enter Try.func92, Try.ntmps92
  go_wp2_with fail
  all_goals exact bodyPost_ret (v := .agg #[.int .i64 (spreadR r d).X0, .int .i64 (spreadR r d).Y0, .int .i64 (spreadR r d).X1, .int .i64 (spreadR r d).Y1]) (by simp [results, Try.results92, go_sem, *, spreadR] <;> omega) rfl (RcIs.of rfl rfl rfl rfl (by (repeat' first | exact Below.refl _ _ | assumption | (apply below_drewN) | (refine Below.setCell ?_ (by (try simp); (try omega)) _) | (refine Below.alloc ?_ (by (try simp); (try omega)) _) | (refine Below.trans ?_ (Below.mono (Hid.out (by assumption)) (by (try simp); (try omega)))))))
theorem spread_grown {r : Rc} {d : Int} (h : ROk r) (hd : 0 ≤ d) : validR (spreadR r (min d 1048576)) = (grownR r d, true) := by
  have e : spreadR r (min d 1048576) = grownR r d := by
    unfold ROk Span at h
    apply Rc.eq <;> simp only [spreadR, grownR] <;> omega
  rw [e]; exact if_pos (grown_ok h hd)
theorem fit {d : Int} (h : In64 d) (hd : 0 ≤ d) : (min d 1048576 = 1048576 ∧ 1048576 < d) ∨ (min d 1048576 = d ∧ d ≤ 1048576) := by omega
set_option maxHeartbeats 8000000 in
theorem tgrow_any (r : Rc) (d : Int) (hd : In64 d) (w : World) : Calls Try.prog 53 #[.agg #[.int .i64 r.X0, .int .i64 r.Y0, .int .i64 r.X1, .int .i64 r.Y1], .int .i64 d] w (RbIs (growR r d) w) := by
  by_cases k : ROk r
  · have o : rokB ⟨r.X0, r.Y0, r.X1, r.Y1⟩ = true := (rokB_iff r).2 k
    by_cases hd0 : 0 ≤ d
    · rw [grow_is k hd0, ← spread_grown k hd0]
      have HS := Lib.hid (fun w => tspread_any r (min d 1048576) k.grid (by omega) w)
      have HV := Lib.hid (fun w => tvalid_any (spreadR r (min d 1048576)) w)
      generalize validR (spreadR r (min d 1048576)) = v at *
      generalize spreadR r (min d 1048576) = s at *
      obtain ⟨v, f⟩ := v
      clear k
      rcases fit hd hd0 with ⟨e1, e2⟩ | ⟨e1, e2⟩ <;> rw [e1] at HS <;> clear e1
      all_goals
        go_enter Try.func53, Try.ntmps53
        go_wp2_with (first | (go_at_call 34; refine (tright_nd _ _ _ _ _).mono ?_; rintro e w1 ⟨rfl, hb⟩; obtain ⟨hc, hf⟩ := bcell hb; have hz := hb.size; (try simp at hz); have hz0 : w.heap.size < w1.heap.size := (by omega); have hz1 : w.heap.size + 1 < w1.heap.size := (by omega); have HBl := Lib.hid hb; clear hb) | (go_at_call 92; refine (HS.out _).mono ?_; rintro e w1 ⟨rfl, hb⟩; obtain ⟨hc, hf⟩ := bcell hb; have hz := hb.size; (try simp at hz); have hz0 : w.heap.size < w1.heap.size := (by omega); have hz1 : w.heap.size + 1 < w1.heap.size := (by omega); have HBl := Lib.hid hb; clear hb) | (go_at_call 91; refine (HV.out _).mono ?_; rintro e w1 ⟨rfl, hb⟩; obtain ⟨hc, hf⟩ := bcell hb; have hz := hb.size; (try simp at hz); have hz0 : w.heap.size < w1.heap.size := (by omega); have hz1 : w.heap.size + 1 < w1.heap.size := (by omega); have HBl := Lib.hid hb; clear hb))
        exact bodyPost_ret (v := .tuple #[.agg #[.int .i64 v.X0, .int .i64 v.Y0, .int .i64 v.X1, .int .i64 v.Y1], .bool f]) (by simp [results, Try.results53, go_sem, *]) rfl (RbIs.of rfl rfl rfl rfl rfl (by (repeat' first | exact Below.refl _ _ | assumption | (apply below_drewN) | (refine Below.setCell ?_ (by (try simp); (try omega)) _) | (refine Below.alloc ?_ (by (try simp); (try omega)) _) | (refine Below.trans ?_ (Below.mono (Hid.out (by assumption)) (by (try simp); (try omega)))))))
    · rw [grow_no (fun h => hd0 h.2)]
      clear k
      go_enter Try.func53, Try.ntmps53
      go_wp2_with ((go_at_call 34; refine (tright_nd _ _ _ _ _).mono ?_; rintro e w1 ⟨rfl, hb⟩; obtain ⟨hc, hf⟩ := bcell hb; have hz := hb.size; (try simp at hz); have hz0 : w.heap.size < w1.heap.size := (by omega); have hz1 : w.heap.size + 1 < w1.heap.size := (by omega); have HBl := Lib.hid hb; clear hb))
      exact bodyPost_ret (v := .tuple #[.agg #[.int .i64 0, .int .i64 0, .int .i64 0, .int .i64 0], .bool false]) (by simp [results, Try.results53, go_sem, *]) rfl (RbIs.of rfl rfl rfl rfl rfl (by (repeat' first | exact Below.refl _ _ | assumption | (apply below_drewN) | (refine Below.setCell ?_ (by (try simp); (try omega)) _) | (refine Below.alloc ?_ (by (try simp); (try omega)) _) | (refine Below.trans ?_ (Below.mono (Hid.out (by assumption)) (by (try simp); (try omega)))))))
  · have o : rokB ⟨r.X0, r.Y0, r.X1, r.Y1⟩ = false := (rokB_no r).2 k
    rw [grow_no (fun h => k h.1)]
    clear k
    go_enter Try.func53, Try.ntmps53
    go_wp2_with ((go_at_call 34; refine (tright_nd _ _ _ _ _).mono ?_; rintro e w1 ⟨rfl, hb⟩; obtain ⟨hc, hf⟩ := bcell hb; have hz := hb.size; (try simp at hz); have hz0 : w.heap.size < w1.heap.size := (by omega); have hz1 : w.heap.size + 1 < w1.heap.size := (by omega); have HBl := Lib.hid hb; clear hb))
    exact bodyPost_ret (v := .tuple #[.agg #[.int .i64 0, .int .i64 0, .int .i64 0, .int .i64 0], .bool false]) (by simp [results, Try.results53, go_sem, *]) rfl (RbIs.of rfl rfl rfl rfl rfl (by (repeat' first | exact Below.refl _ _ | assumption | (apply below_drewN) | (refine Below.setCell ?_ (by (try simp); (try omega)) _) | (refine Below.alloc ?_ (by (try simp); (try omega)) _) | (refine Below.trans ?_ (Below.mono (Hid.out (by assumption)) (by (try simp); (try omega)))))))
set_option maxHeartbeats 16000000 in
theorem tgap_any (a b : Rc) (w : World) : Calls Try.prog 61 #[.agg #[.int .i64 a.X0, .int .i64 a.Y0, .int .i64 a.X1, .int .i64 a.Y1], .agg #[.int .i64 b.X0, .int .i64 b.Y0, .int .i64 b.X1, .int .i64 b.Y1]] w (InIs (gapR a b) w) := by
  by_cases ka : ROk a
  · have oa : rokB ⟨a.X0, a.Y0, a.X1, a.Y1⟩ = true := (rokB_iff a).2 ka
    by_cases kb : ROk b
    · have ob : rokB ⟨b.X0, b.Y0, b.X1, b.Y1⟩ = true := (rokB_iff b).2 kb
      rw [show gapR a b = max 0 (max (apartI a.X0 a.X1 b.X0 b.X1) (apartI a.Y0 a.Y1 b.Y0 b.Y1) - 1) from by unfold gapR; rw [if_pos ⟨ka, kb⟩]]
      have gm := ka.grid.meet kb.grid
      have HO := Lib.hid (fun w => toverlap_any a b w)
      have hx := apart_ext ka.1.2.1 kb.1.2.1
      have hy := apart_ext ka.2.2.1 kb.2.2.1
      have he : ∀ w, Calls Try.prog 98 #[.agg #[.int .i64 (meetR a b).X0, .int .i64 (meetR a b).Y0, .int .i64 (meetR a b).X1, .int .i64 (meetR a b).Y1]] w fun e w' => e = .returned (.tuple #[.int .i64 ((meetR a b).X1 - (meetR a b).X0), .int .i64 ((meetR a b).Y1 - (meetR a b).Y0)]) ∧ Below w.heap.size w w' := fun w => textent_any _ _ _ _ gm w
      have HE := Lib.hid he; clear he
      have gm0 := gm
      obtain ⟨⟨g1, g2⟩, ⟨g3, g4⟩, ⟨g5, g6⟩, g7, g8⟩ := gm
      have mx : min a.X1 b.X1 - max a.X0 b.X0 = (meetR a b).X1 - (meetR a b).X0 := rfl
      have my : min a.Y1 b.Y1 - max a.Y0 b.Y0 = (meetR a b).Y1 - (meetR a b).Y0 := rfl
      rw [mx] at hx; rw [my] at hy
      clear mx my ka kb gm0
      generalize meetR a b = m at *
      have hG : max 0 (max (apartI a.X0 a.X1 b.X0 b.X1) (apartI a.Y0 a.Y1 b.Y0 b.Y1) - 1) = max 0 (max (-(m.X1 - m.X0)) (-(m.Y1 - m.Y0))) := by
        rw [hx, hy]; split <;> split <;> omega
      rw [hG]; clear hG hx hy
      have hc : -1048576 ≤ m.X1 - m.X0 ∧ m.X1 - m.X0 ≤ 1048576 := by omega
      have hr : -1048576 ≤ m.Y1 - m.Y0 ∧ m.Y1 - m.Y0 ≤ 1048576 := by omega
      generalize m.X1 - m.X0 = c at *
      generalize m.Y1 - m.Y0 = r at *
      clear g1 g2 g3 g4 g5 g6 g7 g8
      have q1 : IntKind.i64.wrap (-c) = -c := IntWalk.i64_in _ (by omega)
      have q2 : IntKind.i64.wrap (-r) = -r := IntWalk.i64_in _ (by omega)
      go_enter Try.func61, Try.ntmps61
      go_wp2_with (first | (go_at_call 34; refine (tright_nd _ _ _ _ _).mono ?_; rintro e w1 ⟨rfl, hb⟩; obtain ⟨hc, hf⟩ := bcell hb; have hz := hb.size; (try simp at hz); have hz0 : w.heap.size < w1.heap.size := (by omega); have hz1 : w.heap.size + 1 < w1.heap.size := (by omega); have HBl := Lib.hid hb; clear hb) | (go_at_call 99; refine (HO.out _).mono ?_; rintro e w1 ⟨rfl, hb⟩; obtain ⟨hc, hf⟩ := bcell hb; have hz := hb.size; (try simp at hz); have hz0 : w.heap.size < w1.heap.size := (by omega); have hz1 : w.heap.size + 1 < w1.heap.size := (by omega); have HBl := Lib.hid hb; clear hb) | (go_at_call 98; refine (HE.out _).mono ?_; rintro e w1 ⟨rfl, hb⟩; obtain ⟨hc, hf⟩ := bcell hb; have hz := hb.size; (try simp at hz); have hz0 : w.heap.size < w1.heap.size := (by omega); have hz1 : w.heap.size + 1 < w1.heap.size := (by omega); have HBl := Lib.hid hb; clear hb))
      all_goals go_ret
      all_goals exact InIs.of (by omega) (by (repeat' first | exact Below.refl _ _ | assumption | (apply below_drewN) | (refine Below.setCell ?_ (by (try simp); (try omega)) _) | (refine Below.alloc ?_ (by (try simp); (try omega)) _) | (refine Below.trans ?_ (Below.mono (Hid.out (by assumption)) (by (try simp); (try omega))))))
    · have ob : rokB ⟨b.X0, b.Y0, b.X1, b.Y1⟩ = false := (rokB_no b).2 kb
      rw [gap_no (a := a) (b := b) (fun h => kb h.2)]
      clear ka kb
      go_enter Try.func61, Try.ntmps61
      go_wp2_with ((go_at_call 34; refine (tright_nd _ _ _ _ _).mono ?_; rintro e w1 ⟨rfl, hb⟩; obtain ⟨hc, hf⟩ := bcell hb; have hz := hb.size; (try simp at hz); have hz0 : w.heap.size < w1.heap.size := (by omega); have hz1 : w.heap.size + 1 < w1.heap.size := (by omega); have HBl := Lib.hid hb; clear hb))
      go_ret
      exact ⟨rfl, by (repeat' first | exact Below.refl _ _ | assumption | (apply below_drewN) | (refine Below.setCell ?_ (by (try simp); (try omega)) _) | (refine Below.alloc ?_ (by (try simp); (try omega)) _) | (refine Below.trans ?_ (Below.mono (Hid.out (by assumption)) (by (try simp); (try omega)))))⟩
  · have oa : rokB ⟨a.X0, a.Y0, a.X1, a.Y1⟩ = false := (rokB_no a).2 ka
    rw [gap_no (a := a) (b := b) (fun h => ka h.1)]
    clear ka
    go_enter Try.func61, Try.ntmps61
    go_wp2_with ((go_at_call 34; refine (tright_nd _ _ _ _ _).mono ?_; rintro e w1 ⟨rfl, hb⟩; obtain ⟨hc, hf⟩ := bcell hb; have hz := hb.size; (try simp at hz); have hz0 : w.heap.size < w1.heap.size := (by omega); have hz1 : w.heap.size + 1 < w1.heap.size := (by omega); have HBl := Lib.hid hb; clear hb))
    go_ret
    exact ⟨rfl, by (repeat' first | exact Below.refl _ _ | assumption | (apply below_drewN) | (refine Below.setCell ?_ (by (try simp); (try omega)) _) | (refine Below.alloc ?_ (by (try simp); (try omega)) _) | (refine Below.trans ?_ (Below.mono (Hid.out (by assumption)) (by (try simp); (try omega)))))⟩
end Go.Proofs.Ytcnojedijimheaa
