/-
  The laws' examples (small).
  Contracts of the program's layer 6 (15): Bounds, staysIn.
-/
import Derived.Test.YtkjblmfmaenllaaGreatRz
import Derived.Test.YtkjblmfmaenllaaGreatRo
set_option linter.unusedVariables false
set_option maxRecDepth 100000
namespace Go.Proofs.YtkjblmfmaenllaaGreat
open Go.RowKit

/-- a block of rectangles. -/
def RB (w : World) (b : Nat) (l : List Rc) : Prop := w.heap[b]? = some (.cells (rcells l).toArray 33 (0, 0))
theorem RB.lt {w : World} {b : Nat} {l : List Rc} (h : RB w b l) : b < w.heap.size := (Array.getElem?_eq_some_iff.1 h).1
theorem RB.below {w w' : World} {b : Nat} {l : List Rc} (h : RB w b l) (hb : Below w.heap.size w w') : RB w' b l := (hb.block b h.lt).trans h
theorem RB.row {w : World} {b : Nat} {l : List Rc} (h : RB w b l) (hl : l.length ≤ 1099511627776) : RIn w (some ⟨b, 0, none⟩) l.length l := by
  refine ⟨fun _ => ⟨b, 0, rfl, h.lt, fun j hj => ?_⟩, hl, Nat.le_refl _, by omega⟩
  obtain ⟨e0, e1, e2, e3⟩ := rcells_at l j hj
  rw [Nat.zero_add]
  have c := fun i v (hv : (rcells l)[i]? = some v) => show w.cell? ⟨b, i, none⟩ = some v by
    rw [Lib.cell_of_heap h]; simpa using hv
  exact ⟨c _ _ e0, c _ _ e1, c _ _ e2, c _ _ e3⟩
theorem RB.new (w : World) (l : List Rc) (o : Array Value) (ho : o = (rcells l).toArray) : RB (w.alloc (.cells o 33)) w.heap.size l := by subst ho; exact heap_alloc_new w _
def L3 : List Rc := [⟨1, 1, 2, 2⟩]
/-- what the walk keeps: blocks of rectangles, lists at slices, and that nothing that was there has turned. -/
def SK (L : List (Nat × List Rc)) (M : List (Option Addr × Nat × List Rc)) (w0 w : World) : Prop := (∀ p ∈ L, RB w p.1 p.2) ∧ (∀ p ∈ M, RIn w p.1 p.2.1 p.2.2) ∧ Below w0.heap.size w0 w
theorem SK.go {L : List (Nat × List Rc)} {M : List (Option Addr × Nat × List Rc)} {w0 w w' : World} (h : SK L M w0 w) (hb : Below w.heap.size w w') : SK L M w0 w' :=
  ⟨fun p hp => (h.1 p hp).below hb, fun p hp => (h.2.1 p hp).below hb, h.2.2.trans (hb.mono h.2.2.size)⟩
theorem SK.new {L : List (Nat × List Rc)} {M : List (Option Addr × Nat × List Rc)} {w0 w : World} (h : SK L M w0 w) (l : List Rc) (o : Array Value) (ho : o = (rcells l).toArray) (k : Nat) (hk : k = w.heap.size) : SK ((k, l) :: L) M w0 (w.alloc (.cells o 33)) := by
  subst hk
  have hg : Below w.heap.size w (w.alloc (.cells o 33)) := (Below.refl _ _).alloc (Nat.le_refl _) _
  have h2 := h.go hg
  refine ⟨fun p hp => ?_, h2.2⟩
  rcases List.mem_cons.1 hp with rfl | hp
  · exact RB.new w l o ho
  · exact h2.1 p hp
theorem SK.add {L : List (Nat × List Rc)} {M : List (Option Addr × Nat × List Rc)} {w0 w w' : World} (h : SK L M w0 w) (hb : Below w.heap.size w w') {A : Option Addr} {c : Nat} {l : List Rc} (hr : RIn w' A c l) : SK L ((A, c, l) :: M) w0 w' := by
  have h2 := h.go hb
  refine ⟨h2.1, fun p hp => ?_, h2.2.2⟩
  rcases List.mem_cons.1 hp with rfl | hp
  · exact hr
  · exact h2.2.1 p hp
end Go.Proofs.YtkjblmfmaenllaaGreat
namespace Go.Proofs.YtkjblmfmaenllaaGreat
open Go.RowKit

noncomputable def boundsG (l : List Rc) : Rc × Bool := if RegP l then boundsR l else (⟨0, 0, 0, 0⟩, false)
set_option maxHeartbeats 4000000 in
theorem gbounds_any (A : Option Addr) (cap : Nat) (l : List Rc) (w : World) (hl : RIn w A cap l) :
    Calls Tryz.prog 106 #[.slice A l.length cap] w (RbIs (boundsG l) w) := by
  have HL := Lib.hid hl; clear hl
  by_cases hr : RegP l
  · have HR := Lib.hid (fun w' (h : Below w.heap.size w w') => gright_yes A cap l w' (HL.out.below h).row HL.out.len HL.out.room HL.out.room2 hr)
    have HC := Lib.hid (fun w' (h : Below w.heap.size w w') => tbounds_any A cap l w' (by have := HL.out.len; omega) (HL.out.below h).row)
    rw [show boundsG l = boundsR l from if_pos hr]
    clear hr
    generalize boundsR l = x at *
    obtain ⟨x, xb⟩ := x
    have K0 : Hid (RcAt (w.alloc (.cells #[.int .i64 0, .int .i64 0, .int .i64 0, .int .i64 0] 33)) w.heap.size zR) := Lib.hid (RcAt.new w zR _ rfl)
    have B0 : Hid (Below w.heap.size w (w.alloc (.cells #[.int .i64 0, .int .i64 0, .int .i64 0, .int .i64 0] 33))) := Lib.hid (by (repeat' first | exact Below.refl _ _ | assumption | (apply below_drewN) | (refine Below.setCell ?_ (by (try simp); (try omega)) _) | (refine Below.alloc ?_ (by (try simp); (try omega)) _) | (refine Below.trans ?_ (Below.mono (Hid.out (by assumption)) (by (try simp); (try omega))))))
    go_enter Tryz.func106, Tryz.ntmps106
    go_wp2_with fail
    generalize World.alloc w _ = w0 at *
    refine (HR.out _ B0.out).mono ?_
    rintro e1 w1 ⟨rfl, hb1⟩
    have K1 := Lib.hid (K0.out.below hb1 K0.out.lt)
    have B1 := Lib.hid (B0.out.trans (hb1.mono B0.out.size)); clear hb1 K0 B0
    go_wp2_with fail
    refine (HC.out _ B1.out).mono ?_
    rintro e2 w2 ⟨rfl, hb2⟩
    have K2 := Lib.hid (K1.out.below hb2 K1.out.lt)
    have B2 := Lib.hid (B1.out.trans (hb2.mono B1.out.size)); clear hb2 K1 B1
    have z0 := K2.out.cell0; have z1 := K2.out.cell1; have z2 := K2.out.cell2; have z3 := K2.out.cell3
    have f0 := K2.out.froz 0; have f1 := K2.out.froz 1; have f2 := K2.out.froz 2; have f3 := K2.out.froz 3
    have zl := K2.out.lt
    go_wp2_with fail
    exact bodyPost_ret (v := .tuple #[.agg #[.int .i64 x.X0, .int .i64 x.Y0, .int .i64 x.X1, .int .i64 x.Y1], .bool xb]) (by simp [results, Tryz.results106, go_sem, *]) rfl (RbIs.of rfl rfl rfl rfl rfl (by have hk := B2.out; (repeat' first | exact Below.refl _ _ | assumption | (apply below_drewN) | (refine Below.setCell ?_ (by (try simp); (try omega)) _) | (refine Below.alloc ?_ (by (try simp); (try omega)) _) | (refine Below.trans ?_ (Below.mono (Hid.out (by assumption)) (by (try simp); (try omega)))))))
  · have HR := Lib.hid (fun w' (h : Below w.heap.size w w') => gright_no A cap l w' (HL.out.below h).row HL.out.len HL.out.room HL.out.room2 hr)
    rw [show boundsG l = (⟨0, 0, 0, 0⟩, false) from if_neg hr]
    clear hr
    have K0 : Hid (RcAt (w.alloc (.cells #[.int .i64 0, .int .i64 0, .int .i64 0, .int .i64 0] 33)) w.heap.size zR) := Lib.hid (RcAt.new w zR _ rfl)
    have B0 : Hid (Below w.heap.size w (w.alloc (.cells #[.int .i64 0, .int .i64 0, .int .i64 0, .int .i64 0] 33))) := Lib.hid (by (repeat' first | exact Below.refl _ _ | assumption | (apply below_drewN) | (refine Below.setCell ?_ (by (try simp); (try omega)) _) | (refine Below.alloc ?_ (by (try simp); (try omega)) _) | (refine Below.trans ?_ (Below.mono (Hid.out (by assumption)) (by (try simp); (try omega))))))
    go_enter Tryz.func106, Tryz.ntmps106
    go_wp2_with fail
    generalize World.alloc w _ = w0 at *
    refine (HR.out _ B0.out).mono ?_
    rintro e1 w1 ⟨rfl, hb1⟩
    have K1 := Lib.hid (K0.out.below hb1 K0.out.lt)
    have B1 := Lib.hid (B0.out.trans (hb1.mono B0.out.size)); clear hb1 K0 B0
    have z0 := K1.out.cell0; have z1 := K1.out.cell1; have z2 := K1.out.cell2; have z3 := K1.out.cell3
    have f0 := K1.out.froz 0; have f1 := K1.out.froz 1; have f2 := K1.out.froz 2; have f3 := K1.out.froz 3
    have zl := K1.out.lt
    go_wp2_with fail
    exact bodyPost_ret (v := .tuple #[.agg #[.int .i64 0, .int .i64 0, .int .i64 0, .int .i64 0], .bool false]) (by simp [results, Tryz.results106, go_sem, *]) rfl (RbIs.of rfl rfl rfl rfl rfl (by have hk := B1.out; (repeat' first | exact Below.refl _ _ | assumption | (apply below_drewN) | (refine Below.setCell ?_ (by (try simp); (try omega)) _) | (refine Below.alloc ?_ (by (try simp); (try omega)) _) | (refine Below.trans ?_ (Below.mono (Hid.out (by assumption)) (by (try simp); (try omega)))))))
end Go.Proofs.YtkjblmfmaenllaaGreat
