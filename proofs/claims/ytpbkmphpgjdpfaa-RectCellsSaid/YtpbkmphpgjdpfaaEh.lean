/-
  Contracts of the reference of layer 5 (6): Intersect.
-/
import Derived.Test.YtpbkmphpgjdpfaaEc
import Derived.Deep.DeepCutAuto
set_option linter.unusedVariables false
set_option maxRecDepth 100000
namespace Go.Proofs.Ytpbkmphpgjdpfaa
open Go.RowKit

theorem inter_none {a b : Rc} (h : ¬ MeetR a b) : interR a b = (zR, false) := by unfold interR; rw [if_neg h]
/-- block b holds the rectangle r. -/
def RcAt (w : World) (b : Nat) (r : Rc) : Prop := w.heap[b]? = some (.cells #[.int .i64 r.X0, .int .i64 r.Y0, .int .i64 r.X1, .int .i64 r.Y1] 23 (0, 0))
section
variable {w w' : World} {b : Nat} {r : Rc}
theorem RcAt.lt (h : RcAt w b r) : b < w.heap.size := (Array.getElem?_eq_some_iff.1 h).1
theorem RcAt.cell0 (h : RcAt w b r) : w.cell? ⟨b, 0, none⟩ = some (.int .i64 r.X0) := by rw [Lib.cell_of_heap h]; rfl
theorem RcAt.cell1 (h : RcAt w b r) : w.cell? ⟨b, 1, none⟩ = some (.int .i64 r.Y0) := by rw [Lib.cell_of_heap h]; rfl
theorem RcAt.cell2 (h : RcAt w b r) : w.cell? ⟨b, 2, none⟩ = some (.int .i64 r.X1) := by rw [Lib.cell_of_heap h]; rfl
theorem RcAt.cell3 (h : RcAt w b r) : w.cell? ⟨b, 3, none⟩ = some (.int .i64 r.Y1) := by rw [Lib.cell_of_heap h]; rfl
theorem RcAt.froz (h : RcAt w b r) (i : Nat) : w.frozen? ⟨b, i, none⟩ = false := Lib.frozen_of_heap h i
theorem RcAt.below {B : Nat} (h : RcAt w b r) (hg : Below B w w') (hr : b < B) : RcAt w' b r := (hg.block b hr).trans h
theorem RcAt.alloc (h : RcAt w b r) (o : Obj) : RcAt (w.alloc o) b r := h.below ((Below.refl _ _).alloc (Nat.le_refl _) o) h.lt
theorem RcAt.new (w : World) (r : Rc) (k : Nat) (h : k = w.heap.size) : RcAt (w.alloc (.cells #[.int .i64 r.X0, .int .i64 r.Y0, .int .i64 r.X1, .int .i64 r.Y1] 23)) k r := by subst h; exact heap_alloc_new w _
end
/-- what lies in memory behind Intersect's first statement. -/
def In4 (p : Nat) (a b m : Rc) (w0 w : World) : Prop := RcAt w p a ∧ RcAt w (p + 1) b ∧ RcAt w (p + 1 + 1) zR ∧ RcAt w (p + 1 + 1 + 1) m ∧ Below w0.heap.size w0 w
theorem In4.go {p : Nat} {a b m : Rc} {w0 w w' : World} (h : In4 p a b m w0 w) (hb : Below w.heap.size w w') : In4 p a b m w0 w' :=
  ⟨h.1.below hb h.1.lt, h.2.1.below hb h.2.1.lt, h.2.2.1.below hb h.2.2.1.lt, h.2.2.2.1.below hb h.2.2.2.1.lt, h.2.2.2.2.trans (hb.mono h.2.2.2.2.size)⟩
theorem in4_start (a b m : Rc) (w : World) {x0 y0 x1 y1 : Int} (h0 : x0 = m.X0) (h1 : y0 = m.Y0) (h2 : x1 = m.X1) (h3 : y1 = m.Y1) :
    In4 w.heap.size a b m w ((((w.alloc (.cells #[.int .i64 a.X0, .int .i64 a.Y0, .int .i64 a.X1, .int .i64 a.Y1] 23)).alloc (.cells #[.int .i64 b.X0, .int .i64 b.Y0, .int .i64 b.X1, .int .i64 b.Y1] 23)).alloc (.cells #[.int .i64 0, .int .i64 0, .int .i64 0, .int .i64 0] 23)).alloc (.cells #[.int .i64 x0, .int .i64 y0, .int .i64 x1, .int .i64 y1] 23)) := by
  subst h0; subst h1; subst h2; subst h3
  exact ⟨(((RcAt.new w a _ rfl).alloc _).alloc _).alloc _, ((RcAt.new _ b _ (by simp)).alloc _).alloc _, (RcAt.new _ zR _ (by simp)).alloc _, RcAt.new _ m _ (by simp), by (repeat' first | exact Below.refl _ _ | assumption | (apply below_drewN) | (refine Below.setCell ?_ (by (try simp); (try omega)) _) | (refine Below.alloc ?_ (by (try simp); (try omega)) _) | (refine Below.trans ?_ (Below.mono (Hid.out (by assumption)) (by (try simp); (try omega)))))⟩

set_option maxHeartbeats 16000000 in
theorem uinter_any (a b : Rc) (ia : InR a) (ib : InR b) (w : World) : Calls Try.prog 11 #[.agg #[.int .i64 a.X0, .int .i64 a.Y0, .int .i64 a.X1, .int .i64 a.Y1], .agg #[.int .i64 b.X0, .int .i64 b.Y0, .int .i64 b.X1, .int .i64 b.Y1]] w (RbIs (interR a b) w) := by
  have hm : interR a b = if (rokB ⟨a.X0, a.Y0, a.X1, a.Y1⟩ && rokB ⟨b.X0, b.Y0, b.X1, b.Y1⟩ && rokB ⟨(meetR a b).X0, (meetR a b).Y0, (meetR a b).X1, (meetR a b).Y1⟩) = true then (meetR a b, true) else (zR, false) := by
    unfold interR
    by_cases h : MeetR a b
    · rw [if_pos h, if_pos (by rw [(rokB_iff a).2 h.1, (rokB_iff b).2 h.2.1, (rokB_iff _).2 h.2.2]; rfl)]
    · rw [if_neg h, if_neg (fun k => h (by
        simp only [Bool.and_eq_true] at k
        exact ⟨(rokB_iff a).1 k.1.1, (rokB_iff b).1 k.1.2, (rokB_iff _).1 k.2⟩))]
  rw [hm]; clear hm
  cases oa : rokB ⟨a.X0, a.Y0, a.X1, a.Y1⟩
  · simp only [Bool.false_and, Bool.false_eq_true, if_false]
    go_enter Try.func11, Try.ntmps11
    go_upto_region 1 with fail
    go_cut [6] (fun s6 wx => s6 = .pointer (some ⟨w.heap.size + 1 + 1 + 1, 0, none⟩) ∧ Hid (In4 w.heap.size a b (meetR a b) w wx))
    case first =>
      go_wp2_with fail
      all_goals go_meet
      all_goals exact ⟨rfl, Lib.hid (in4_start a b (meetR a b) w (by simp only [meetR]; omega) (by simp only [meetR]; omega) (by simp only [meetR]; omega) (by simp only [meetR]; omega))⟩
    obtain ⟨rfl, hK⟩ := hcut
    generalize meetR a b = m at *
    generalize hp : w.heap.size = p at *
    have HP := Lib.hid hp; clear hp
    have K0 := hK; clear hK
    have a0 := K0.out.1.cell0; have a1 := K0.out.1.cell1; have a2 := K0.out.1.cell2; have a3 := K0.out.1.cell3; have b0 := K0.out.2.1.cell0; have b1 := K0.out.2.1.cell1; have b2 := K0.out.2.1.cell2; have b3 := K0.out.2.1.cell3; have m0 := K0.out.2.2.2.1.cell0; have m1 := K0.out.2.2.2.1.cell1; have m2 := K0.out.2.2.2.1.cell2; have m3 := K0.out.2.2.2.1.cell3; have z0 := K0.out.2.2.1.cell0; have z1 := K0.out.2.2.1.cell1; have z2 := K0.out.2.2.1.cell2; have z3 := K0.out.2.2.1.cell3; have f0 := K0.out.2.2.1.froz 0; have f1 := K0.out.2.2.1.froz 1; have f2 := K0.out.2.2.1.froz 2; have f3 := K0.out.2.2.1.froz 3
    go_wp2_with fail
    refine (uright_nd _ _ _ _ _).mono ?_
    rintro e w1 ⟨rfl, hb⟩
    have K1 := Lib.hid (K0.out.go hb); clear hb K0
    clear a0 a1 a2 a3 b0 b1 b2 b3 m0 m1 m2 m3 z0 z1 z2 z3 f0 f1 f2 f3
    have a0 := K1.out.1.cell0; have a1 := K1.out.1.cell1; have a2 := K1.out.1.cell2; have a3 := K1.out.1.cell3; have b0 := K1.out.2.1.cell0; have b1 := K1.out.2.1.cell1; have b2 := K1.out.2.1.cell2; have b3 := K1.out.2.1.cell3; have m0 := K1.out.2.2.2.1.cell0; have m1 := K1.out.2.2.2.1.cell1; have m2 := K1.out.2.2.2.1.cell2; have m3 := K1.out.2.2.2.1.cell3; have z0 := K1.out.2.2.1.cell0; have z1 := K1.out.2.2.1.cell1; have z2 := K1.out.2.2.1.cell2; have z3 := K1.out.2.2.1.cell3; have f0 := K1.out.2.2.1.froz 0; have f1 := K1.out.2.2.1.froz 1; have f2 := K1.out.2.2.1.froz 2; have f3 := K1.out.2.2.1.froz 3
    go_wp2_with fail
    exact bodyPost_ret (v := .tuple #[.agg #[.int .i64 0, .int .i64 0, .int .i64 0, .int .i64 0], .bool false]) (by simp [results, Try.results11, go_sem, *]) rfl (RbIs.of rfl rfl rfl rfl rfl (by have hk := K1.out.2.2.2.2; rw [← HP.out] at *; (repeat' first | exact Below.refl _ _ | assumption | (apply below_drewN) | (refine Below.setCell ?_ (by (try simp); (try omega)) _) | (refine Below.alloc ?_ (by (try simp); (try omega)) _) | (refine Below.trans ?_ (Below.mono (Hid.out (by assumption)) (by (try simp); (try omega)))))))
  · cases ob : rokB ⟨b.X0, b.Y0, b.X1, b.Y1⟩
    · simp only [Bool.false_and, Bool.and_false, Bool.false_eq_true, if_false]
      go_enter Try.func11, Try.ntmps11
      go_upto_region 1 with fail
      go_cut [6] (fun s6 wx => s6 = .pointer (some ⟨w.heap.size + 1 + 1 + 1, 0, none⟩) ∧ Hid (In4 w.heap.size a b (meetR a b) w wx))
      case first =>
        go_wp2_with fail
        all_goals go_meet
        all_goals exact ⟨rfl, Lib.hid (in4_start a b (meetR a b) w (by simp only [meetR]; omega) (by simp only [meetR]; omega) (by simp only [meetR]; omega) (by simp only [meetR]; omega))⟩
      obtain ⟨rfl, hK⟩ := hcut
      generalize meetR a b = m at *
      generalize hp : w.heap.size = p at *
      have HP := Lib.hid hp; clear hp
      have K0 := hK; clear hK
      have a0 := K0.out.1.cell0; have a1 := K0.out.1.cell1; have a2 := K0.out.1.cell2; have a3 := K0.out.1.cell3; have b0 := K0.out.2.1.cell0; have b1 := K0.out.2.1.cell1; have b2 := K0.out.2.1.cell2; have b3 := K0.out.2.1.cell3; have m0 := K0.out.2.2.2.1.cell0; have m1 := K0.out.2.2.2.1.cell1; have m2 := K0.out.2.2.2.1.cell2; have m3 := K0.out.2.2.2.1.cell3; have z0 := K0.out.2.2.1.cell0; have z1 := K0.out.2.2.1.cell1; have z2 := K0.out.2.2.1.cell2; have z3 := K0.out.2.2.1.cell3; have f0 := K0.out.2.2.1.froz 0; have f1 := K0.out.2.2.1.froz 1; have f2 := K0.out.2.2.1.froz 2; have f3 := K0.out.2.2.1.froz 3
      go_wp2_with fail
      refine (uright_nd _ _ _ _ _).mono ?_
      rintro e w1 ⟨rfl, hb⟩
      have K1 := Lib.hid (K0.out.go hb); clear hb K0
      clear a0 a1 a2 a3 b0 b1 b2 b3 m0 m1 m2 m3 z0 z1 z2 z3 f0 f1 f2 f3
      have a0 := K1.out.1.cell0; have a1 := K1.out.1.cell1; have a2 := K1.out.1.cell2; have a3 := K1.out.1.cell3; have b0 := K1.out.2.1.cell0; have b1 := K1.out.2.1.cell1; have b2 := K1.out.2.1.cell2; have b3 := K1.out.2.1.cell3; have m0 := K1.out.2.2.2.1.cell0; have m1 := K1.out.2.2.2.1.cell1; have m2 := K1.out.2.2.2.1.cell2; have m3 := K1.out.2.2.2.1.cell3; have z0 := K1.out.2.2.1.cell0; have z1 := K1.out.2.2.1.cell1; have z2 := K1.out.2.2.1.cell2; have z3 := K1.out.2.2.1.cell3; have f0 := K1.out.2.2.1.froz 0; have f1 := K1.out.2.2.1.froz 1; have f2 := K1.out.2.2.1.froz 2; have f3 := K1.out.2.2.1.froz 3
      go_wp2_with fail
      refine (uright_nd _ _ _ _ _).mono ?_
      rintro e w2 ⟨rfl, hb⟩
      have K2 := Lib.hid (K1.out.go hb); clear hb K1
      clear a0 a1 a2 a3 b0 b1 b2 b3 m0 m1 m2 m3 z0 z1 z2 z3 f0 f1 f2 f3
      have a0 := K2.out.1.cell0; have a1 := K2.out.1.cell1; have a2 := K2.out.1.cell2; have a3 := K2.out.1.cell3; have b0 := K2.out.2.1.cell0; have b1 := K2.out.2.1.cell1; have b2 := K2.out.2.1.cell2; have b3 := K2.out.2.1.cell3; have m0 := K2.out.2.2.2.1.cell0; have m1 := K2.out.2.2.2.1.cell1; have m2 := K2.out.2.2.2.1.cell2; have m3 := K2.out.2.2.2.1.cell3; have z0 := K2.out.2.2.1.cell0; have z1 := K2.out.2.2.1.cell1; have z2 := K2.out.2.2.1.cell2; have z3 := K2.out.2.2.1.cell3; have f0 := K2.out.2.2.1.froz 0; have f1 := K2.out.2.2.1.froz 1; have f2 := K2.out.2.2.1.froz 2; have f3 := K2.out.2.2.1.froz 3
      go_wp2_with fail
      exact bodyPost_ret (v := .tuple #[.agg #[.int .i64 0, .int .i64 0, .int .i64 0, .int .i64 0], .bool false]) (by simp [results, Try.results11, go_sem, *]) rfl (RbIs.of rfl rfl rfl rfl rfl (by have hk := K2.out.2.2.2.2; rw [← HP.out] at *; (repeat' first | exact Below.refl _ _ | assumption | (apply below_drewN) | (refine Below.setCell ?_ (by (try simp); (try omega)) _) | (refine Below.alloc ?_ (by (try simp); (try omega)) _) | (refine Below.trans ?_ (Below.mono (Hid.out (by assumption)) (by (try simp); (try omega)))))))
    · cases om : rokB ⟨(meetR a b).X0, (meetR a b).Y0, (meetR a b).X1, (meetR a b).Y1⟩
      · simp only [Bool.and_false, Bool.false_eq_true, if_false]
        go_enter Try.func11, Try.ntmps11
        go_upto_region 1 with fail
        go_cut [6] (fun s6 wx => s6 = .pointer (some ⟨w.heap.size + 1 + 1 + 1, 0, none⟩) ∧ Hid (In4 w.heap.size a b (meetR a b) w wx))
        case first =>
          go_wp2_with fail
          all_goals go_meet
          all_goals exact ⟨rfl, Lib.hid (in4_start a b (meetR a b) w (by simp only [meetR]; omega) (by simp only [meetR]; omega) (by simp only [meetR]; omega) (by simp only [meetR]; omega))⟩
        obtain ⟨rfl, hK⟩ := hcut
        generalize meetR a b = m at *
        generalize hp : w.heap.size = p at *
        have HP := Lib.hid hp; clear hp
        have K0 := hK; clear hK
        have a0 := K0.out.1.cell0; have a1 := K0.out.1.cell1; have a2 := K0.out.1.cell2; have a3 := K0.out.1.cell3; have b0 := K0.out.2.1.cell0; have b1 := K0.out.2.1.cell1; have b2 := K0.out.2.1.cell2; have b3 := K0.out.2.1.cell3; have m0 := K0.out.2.2.2.1.cell0; have m1 := K0.out.2.2.2.1.cell1; have m2 := K0.out.2.2.2.1.cell2; have m3 := K0.out.2.2.2.1.cell3; have z0 := K0.out.2.2.1.cell0; have z1 := K0.out.2.2.1.cell1; have z2 := K0.out.2.2.1.cell2; have z3 := K0.out.2.2.1.cell3; have f0 := K0.out.2.2.1.froz 0; have f1 := K0.out.2.2.1.froz 1; have f2 := K0.out.2.2.1.froz 2; have f3 := K0.out.2.2.1.froz 3
        go_wp2_with fail
        refine (uright_nd _ _ _ _ _).mono ?_
        rintro e w1 ⟨rfl, hb⟩
        have K1 := Lib.hid (K0.out.go hb); clear hb K0
        clear a0 a1 a2 a3 b0 b1 b2 b3 m0 m1 m2 m3 z0 z1 z2 z3 f0 f1 f2 f3
        have a0 := K1.out.1.cell0; have a1 := K1.out.1.cell1; have a2 := K1.out.1.cell2; have a3 := K1.out.1.cell3; have b0 := K1.out.2.1.cell0; have b1 := K1.out.2.1.cell1; have b2 := K1.out.2.1.cell2; have b3 := K1.out.2.1.cell3; have m0 := K1.out.2.2.2.1.cell0; have m1 := K1.out.2.2.2.1.cell1; have m2 := K1.out.2.2.2.1.cell2; have m3 := K1.out.2.2.2.1.cell3; have z0 := K1.out.2.2.1.cell0; have z1 := K1.out.2.2.1.cell1; have z2 := K1.out.2.2.1.cell2; have z3 := K1.out.2.2.1.cell3; have f0 := K1.out.2.2.1.froz 0; have f1 := K1.out.2.2.1.froz 1; have f2 := K1.out.2.2.1.froz 2; have f3 := K1.out.2.2.1.froz 3
        go_wp2_with fail
        refine (uright_nd _ _ _ _ _).mono ?_
        rintro e w2 ⟨rfl, hb⟩
        have K2 := Lib.hid (K1.out.go hb); clear hb K1
        clear a0 a1 a2 a3 b0 b1 b2 b3 m0 m1 m2 m3 z0 z1 z2 z3 f0 f1 f2 f3
        have a0 := K2.out.1.cell0; have a1 := K2.out.1.cell1; have a2 := K2.out.1.cell2; have a3 := K2.out.1.cell3; have b0 := K2.out.2.1.cell0; have b1 := K2.out.2.1.cell1; have b2 := K2.out.2.1.cell2; have b3 := K2.out.2.1.cell3; have m0 := K2.out.2.2.2.1.cell0; have m1 := K2.out.2.2.2.1.cell1; have m2 := K2.out.2.2.2.1.cell2; have m3 := K2.out.2.2.2.1.cell3; have z0 := K2.out.2.2.1.cell0; have z1 := K2.out.2.2.1.cell1; have z2 := K2.out.2.2.1.cell2; have z3 := K2.out.2.2.1.cell3; have f0 := K2.out.2.2.1.froz 0; have f1 := K2.out.2.2.1.froz 1; have f2 := K2.out.2.2.1.froz 2; have f3 := K2.out.2.2.1.froz 3
        go_wp2_with fail
        refine (uright_nd _ _ _ _ _).mono ?_
        rintro e w3 ⟨rfl, hb⟩
        have K3 := Lib.hid (K2.out.go hb); clear hb K2
        clear a0 a1 a2 a3 b0 b1 b2 b3 m0 m1 m2 m3 z0 z1 z2 z3 f0 f1 f2 f3
        have a0 := K3.out.1.cell0; have a1 := K3.out.1.cell1; have a2 := K3.out.1.cell2; have a3 := K3.out.1.cell3; have b0 := K3.out.2.1.cell0; have b1 := K3.out.2.1.cell1; have b2 := K3.out.2.1.cell2; have b3 := K3.out.2.1.cell3; have m0 := K3.out.2.2.2.1.cell0; have m1 := K3.out.2.2.2.1.cell1; have m2 := K3.out.2.2.2.1.cell2; have m3 := K3.out.2.2.2.1.cell3; have z0 := K3.out.2.2.1.cell0; have z1 := K3.out.2.2.1.cell1; have z2 := K3.out.2.2.1.cell2; have z3 := K3.out.2.2.1.cell3; have f0 := K3.out.2.2.1.froz 0; have f1 := K3.out.2.2.1.froz 1; have f2 := K3.out.2.2.1.froz 2; have f3 := K3.out.2.2.1.froz 3
        go_wp2_with fail
        exact bodyPost_ret (v := .tuple #[.agg #[.int .i64 0, .int .i64 0, .int .i64 0, .int .i64 0], .bool false]) (by simp [results, Try.results11, go_sem, *]) rfl (RbIs.of rfl rfl rfl rfl rfl (by have hk := K3.out.2.2.2.2; rw [← HP.out] at *; (repeat' first | exact Below.refl _ _ | assumption | (apply below_drewN) | (refine Below.setCell ?_ (by (try simp); (try omega)) _) | (refine Below.alloc ?_ (by (try simp); (try omega)) _) | (refine Below.trans ?_ (Below.mono (Hid.out (by assumption)) (by (try simp); (try omega)))))))
      · simp only [Bool.and_true, if_true]
        go_enter Try.func11, Try.ntmps11
        go_upto_region 1 with fail
        go_cut [6] (fun s6 wx => s6 = .pointer (some ⟨w.heap.size + 1 + 1 + 1, 0, none⟩) ∧ Hid (In4 w.heap.size a b (meetR a b) w wx))
        case first =>
          go_wp2_with fail
          all_goals go_meet
          all_goals exact ⟨rfl, Lib.hid (in4_start a b (meetR a b) w (by simp only [meetR]; omega) (by simp only [meetR]; omega) (by simp only [meetR]; omega) (by simp only [meetR]; omega))⟩
        obtain ⟨rfl, hK⟩ := hcut
        generalize meetR a b = m at *
        generalize hp : w.heap.size = p at *
        have HP := Lib.hid hp; clear hp
        have K0 := hK; clear hK
        have a0 := K0.out.1.cell0; have a1 := K0.out.1.cell1; have a2 := K0.out.1.cell2; have a3 := K0.out.1.cell3; have b0 := K0.out.2.1.cell0; have b1 := K0.out.2.1.cell1; have b2 := K0.out.2.1.cell2; have b3 := K0.out.2.1.cell3; have m0 := K0.out.2.2.2.1.cell0; have m1 := K0.out.2.2.2.1.cell1; have m2 := K0.out.2.2.2.1.cell2; have m3 := K0.out.2.2.2.1.cell3; have z0 := K0.out.2.2.1.cell0; have z1 := K0.out.2.2.1.cell1; have z2 := K0.out.2.2.1.cell2; have z3 := K0.out.2.2.1.cell3; have f0 := K0.out.2.2.1.froz 0; have f1 := K0.out.2.2.1.froz 1; have f2 := K0.out.2.2.1.froz 2; have f3 := K0.out.2.2.1.froz 3
        go_wp2_with fail
        refine (uright_nd _ _ _ _ _).mono ?_
        rintro e w1 ⟨rfl, hb⟩
        have K1 := Lib.hid (K0.out.go hb); clear hb K0
        clear a0 a1 a2 a3 b0 b1 b2 b3 m0 m1 m2 m3 z0 z1 z2 z3 f0 f1 f2 f3
        have a0 := K1.out.1.cell0; have a1 := K1.out.1.cell1; have a2 := K1.out.1.cell2; have a3 := K1.out.1.cell3; have b0 := K1.out.2.1.cell0; have b1 := K1.out.2.1.cell1; have b2 := K1.out.2.1.cell2; have b3 := K1.out.2.1.cell3; have m0 := K1.out.2.2.2.1.cell0; have m1 := K1.out.2.2.2.1.cell1; have m2 := K1.out.2.2.2.1.cell2; have m3 := K1.out.2.2.2.1.cell3; have z0 := K1.out.2.2.1.cell0; have z1 := K1.out.2.2.1.cell1; have z2 := K1.out.2.2.1.cell2; have z3 := K1.out.2.2.1.cell3; have f0 := K1.out.2.2.1.froz 0; have f1 := K1.out.2.2.1.froz 1; have f2 := K1.out.2.2.1.froz 2; have f3 := K1.out.2.2.1.froz 3
        go_wp2_with fail
        refine (uright_nd _ _ _ _ _).mono ?_
        rintro e w2 ⟨rfl, hb⟩
        have K2 := Lib.hid (K1.out.go hb); clear hb K1
        clear a0 a1 a2 a3 b0 b1 b2 b3 m0 m1 m2 m3 z0 z1 z2 z3 f0 f1 f2 f3
        have a0 := K2.out.1.cell0; have a1 := K2.out.1.cell1; have a2 := K2.out.1.cell2; have a3 := K2.out.1.cell3; have b0 := K2.out.2.1.cell0; have b1 := K2.out.2.1.cell1; have b2 := K2.out.2.1.cell2; have b3 := K2.out.2.1.cell3; have m0 := K2.out.2.2.2.1.cell0; have m1 := K2.out.2.2.2.1.cell1; have m2 := K2.out.2.2.2.1.cell2; have m3 := K2.out.2.2.2.1.cell3; have z0 := K2.out.2.2.1.cell0; have z1 := K2.out.2.2.1.cell1; have z2 := K2.out.2.2.1.cell2; have z3 := K2.out.2.2.1.cell3; have f0 := K2.out.2.2.1.froz 0; have f1 := K2.out.2.2.1.froz 1; have f2 := K2.out.2.2.1.froz 2; have f3 := K2.out.2.2.1.froz 3
        go_wp2_with fail
        refine (uright_nd _ _ _ _ _).mono ?_
        rintro e w3 ⟨rfl, hb⟩
        have K3 := Lib.hid (K2.out.go hb); clear hb K2
        clear a0 a1 a2 a3 b0 b1 b2 b3 m0 m1 m2 m3 z0 z1 z2 z3 f0 f1 f2 f3
        have a0 := K3.out.1.cell0; have a1 := K3.out.1.cell1; have a2 := K3.out.1.cell2; have a3 := K3.out.1.cell3; have b0 := K3.out.2.1.cell0; have b1 := K3.out.2.1.cell1; have b2 := K3.out.2.1.cell2; have b3 := K3.out.2.1.cell3; have m0 := K3.out.2.2.2.1.cell0; have m1 := K3.out.2.2.2.1.cell1; have m2 := K3.out.2.2.2.1.cell2; have m3 := K3.out.2.2.2.1.cell3; have z0 := K3.out.2.2.1.cell0; have z1 := K3.out.2.2.1.cell1; have z2 := K3.out.2.2.1.cell2; have z3 := K3.out.2.2.1.cell3; have f0 := K3.out.2.2.1.froz 0; have f1 := K3.out.2.2.1.froz 1; have f2 := K3.out.2.2.1.froz 2; have f3 := K3.out.2.2.1.froz 3
        go_wp2_with fail
        exact bodyPost_ret (v := .tuple #[.agg #[.int .i64 m.X0, .int .i64 m.Y0, .int .i64 m.X1, .int .i64 m.Y1], .bool true]) (by simp [results, Try.results11, go_sem, *]) rfl (RbIs.of rfl rfl rfl rfl rfl (by have hk := K3.out.2.2.2.2; rw [← HP.out] at *; (repeat' first | exact Below.refl _ _ | assumption | (apply below_drewN) | (refine Below.setCell ?_ (by (try simp); (try omega)) _) | (refine Below.alloc ?_ (by (try simp); (try omega)) _) | (refine Below.trans ?_ (Below.mono (Hid.out (by assumption)) (by (try simp); (try omega)))))))
end Go.Proofs.Ytpbkmphpgjdpfaa
