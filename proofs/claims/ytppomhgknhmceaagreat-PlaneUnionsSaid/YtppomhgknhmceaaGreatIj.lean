/-
  Contracts of the program's layer 6 (15): Bounds, staysIn.
-/
import Derived.Test.YtppomhgknhmceaaGreatHr
set_option linter.unusedVariables false
set_option maxRecDepth 100000
namespace Go.Proofs.YtppomhgknhmceaaGreat
open Go.RowKit

noncomputable def boundsG (l : List Rc) : Rc × Bool := if RegP l then boundsR l else (⟨0, 0, 0, 0⟩, false)
set_option maxHeartbeats 4000000 in
theorem gbounds_any (A : Option Addr) (cap : Nat) (l : List Rc) (w : World) (hl : RIn w A cap l) :
    Calls Tryz.prog 110 #[.slice A l.length cap] w (RbIs (boundsG l) w) := by
  have HL := Lib.hid hl; clear hl
  by_cases hr : RegP l
  · have HR := Lib.hid (fun w' (h : Below w.heap.size w w') => gright_yes A cap l w' (HL.out.below h).row HL.out.len HL.out.room HL.out.room2 hr)
    have HC := Lib.hid (fun w' (h : Below w.heap.size w w') => tbounds_any A cap l w' (by have := HL.out.len; omega) (HL.out.below h).row)
    rw [show boundsG l = boundsR l from if_pos hr]
    clear hr
    generalize boundsR l = x at *
    obtain ⟨x, xb⟩ := x
    have K0 : Hid (RcAt (w.alloc (.cells #[.int .i64 0, .int .i64 0, .int .i64 0, .int .i64 0] 33)) w.heap.size zR) := Lib.hid (RcAt.new w zR _ rfl)
    have B0 : Hid (Below w.heap.size w (w.alloc (.cells #[.int .i64 0, .int .i64 0, .int .i64 0, .int .i64 0] 33))) := Lib.hid (by (repeat' first | exact Below.refl _ _ | assumption | (apply below_drewN) | (refine Below.setCell ?_ (by (try simp); (try omega)) _) | (refine Below.alloc ?_ (by (try simp); (try omega)) _) | (refine Below.trans ?_ (Below.mono (Hid.out (by assumption)) (by (try simp); (try omega))))))
    go_enter Tryz.func110, Tryz.ntmps110
    go_wp2_with fail
    generalize World.alloc w _ = w0 at *
    refine (HR.out _ B0.out).mono ?_
    rintro e1 w1 ⟨rfl, hb1⟩
    have K1 := Lib.hid (K0.out.below hb1 K0.out.lt)
    have B1 := Lib.hid (B0.out.trans (hb1.mono B0.out.size)); clear hb1 K0 B0
    go_wp2_with fail
    refine (HC.out _ B1.out).mono ?_
    rintro e2 w2 ⟨rfl, hb2⟩
    have K2 := Lib.hid (K1.out.below hb2 K1.out.lt)
    have B2 := Lib.hid (B1.out.trans (hb2.mono B1.out.size)); clear hb2 K1 B1
    have z0 := K2.out.cell0; have z1 := K2.out.cell1; have z2 := K2.out.cell2; have z3 := K2.out.cell3
    have f0 := K2.out.froz 0; have f1 := K2.out.froz 1; have f2 := K2.out.froz 2; have f3 := K2.out.froz 3
    have zl := K2.out.lt
    go_wp2_with fail
    exact bodyPost_ret (v := .tuple #[.agg #[.int .i64 x.X0, .int .i64 x.Y0, .int .i64 x.X1, .int .i64 x.Y1], .bool xb]) (by simp [results, Tryz.results110, go_sem, *]) rfl (RbIs.of rfl rfl rfl rfl rfl (by have hk := B2.out; (repeat' first | exact Below.refl _ _ | assumption | (apply below_drewN) | (refine Below.setCell ?_ (by (try simp); (try omega)) _) | (refine Below.alloc ?_ (by (try simp); (try omega)) _) | (refine Below.trans ?_ (Below.mono (Hid.out (by assumption)) (by (try simp); (try omega)))))))
  · have HR := Lib.hid (fun w' (h : Below w.heap.size w w') => gright_no A cap l w' (HL.out.below h).row HL.out.len HL.out.room HL.out.room2 hr)
    rw [show boundsG l = (⟨0, 0, 0, 0⟩, false) from if_neg hr]
    clear hr
    have K0 : Hid (RcAt (w.alloc (.cells #[.int .i64 0, .int .i64 0, .int .i64 0, .int .i64 0] 33)) w.heap.size zR) := Lib.hid (RcAt.new w zR _ rfl)
    have B0 : Hid (Below w.heap.size w (w.alloc (.cells #[.int .i64 0, .int .i64 0, .int .i64 0, .int .i64 0] 33))) := Lib.hid (by (repeat' first | exact Below.refl _ _ | assumption | (apply below_drewN) | (refine Below.setCell ?_ (by (try simp); (try omega)) _) | (refine Below.alloc ?_ (by (try simp); (try omega)) _) | (refine Below.trans ?_ (Below.mono (Hid.out (by assumption)) (by (try simp); (try omega))))))
    go_enter Tryz.func110, Tryz.ntmps110
    go_wp2_with fail
    generalize World.alloc w _ = w0 at *
    refine (HR.out _ B0.out).mono ?_
    rintro e1 w1 ⟨rfl, hb1⟩
    have K1 := Lib.hid (K0.out.below hb1 K0.out.lt)
    have B1 := Lib.hid (B0.out.trans (hb1.mono B0.out.size)); clear hb1 K0 B0
    have z0 := K1.out.cell0; have z1 := K1.out.cell1; have z2 := K1.out.cell2; have z3 := K1.out.cell3
    have f0 := K1.out.froz 0; have f1 := K1.out.froz 1; have f2 := K1.out.froz 2; have f3 := K1.out.froz 3
    have zl := K1.out.lt
    go_wp2_with fail
    exact bodyPost_ret (v := .tuple #[.agg #[.int .i64 0, .int .i64 0, .int .i64 0, .int .i64 0], .bool false]) (by simp [results, Tryz.results110, go_sem, *]) rfl (RbIs.of rfl rfl rfl rfl rfl (by have hk := B1.out; (repeat' first | exact Below.refl _ _ | assumption | (apply below_drewN) | (refine Below.setCell ?_ (by (try simp); (try omega)) _) | (refine Below.alloc ?_ (by (try simp); (try omega)) _) | (refine Below.trans ?_ (Below.mono (Hid.out (by assumption)) (by (try simp); (try omega)))))))
def staysB (a b d : Int) : Bool := decide (-a ≤ d ∧ d ≤ 1048576 - b)
end Go.Proofs.YtppomhgknhmceaaGreat
