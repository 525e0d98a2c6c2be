/-
  The walk of RegionCells, its calls' contracts as hypotheses.
-/
import Derived.Test.YtoalfmdjdplbkaaKg
import Derived.Test.YtoalfmdjdplbkaaKa
set_option linter.unusedVariables false
set_option maxRecDepth 100000
namespace Go.Proofs.Ytoalfmdjdplbkaa
open Go.RowKit

theorem i64_of {a b : Int} (h : a = b) : Value.int .i64 a = .int .i64 b := by rw [h]
/-- the block of four counters above a world, which has not turned. -/
structure AW (w0 w : World) (n0 n1 n2 n3 : Int) : Prop where
  bel : Below w0.heap.size w0 w
  obj : w.heap[w0.heap.size]? = some (.cells #[.int .i64 n0, .int .i64 n1, .int .i64 n2, .int .i64 n3] 32 (0, 0))
section
variable {w0 w w' : World} {n0 n1 n2 n3 : Int}
theorem AW.lt (h : AW w0 w n0 n1 n2 n3) : w0.heap.size < w.heap.size := (Array.getElem?_eq_some_iff.1 h.obj).1
theorem AW.c0 (h : AW w0 w n0 n1 n2 n3) : w.cell? ⟨w0.heap.size, 0, none⟩ = some (.int .i64 n0) := by rw [Lib.cell_of_heap h.obj]; rfl
theorem AW.c1 (h : AW w0 w n0 n1 n2 n3) : w.cell? ⟨w0.heap.size, 1, none⟩ = some (.int .i64 n1) := by rw [Lib.cell_of_heap h.obj]; rfl
theorem AW.c2 (h : AW w0 w n0 n1 n2 n3) : w.cell? ⟨w0.heap.size, 2, none⟩ = some (.int .i64 n2) := by rw [Lib.cell_of_heap h.obj]; rfl
theorem AW.c3 (h : AW w0 w n0 n1 n2 n3) : w.cell? ⟨w0.heap.size, 3, none⟩ = some (.int .i64 n3) := by rw [Lib.cell_of_heap h.obj]; rfl
theorem AW.froz (h : AW w0 w n0 n1 n2 n3) (i : Nat) : w.frozen? ⟨w0.heap.size, i, none⟩ = false := Lib.frozen_of_heap h.obj i
theorem AW.go (h : AW w0 w n0 n1 n2 n3) (hb : Below w.heap.size w w') : AW w0 w' n0 n1 n2 n3 := ⟨h.bel.trans (hb.mono h.bel.size), (hb.block _ h.lt).trans h.obj⟩
theorem AW.new (w0 : World) : AW w0 (w0.alloc (.cells #[.int .i64 0, .int .i64 0, .int .i64 0, .int .i64 0] 32)) 0 0 0 0 := ⟨(Below.refl _ _).alloc (Nat.le_refl _) _, heap_alloc_new w0 _⟩
theorem AW.set0 (h : AW w0 w n0 n1 n2 n3) (m : Int) : AW w0 (w.setCell ⟨w0.heap.size, 0, none⟩ (.int .i64 m)) m n1 n2 n3 := ⟨h.bel.setCell (show w0.heap.size ≤ (⟨w0.heap.size, 0, none⟩ : Addr).block from Nat.le_refl _) _, by simp [World.setCell, Array.getElem?_modify, h.obj]⟩
theorem AW.set1 (h : AW w0 w n0 n1 n2 n3) (m : Int) : AW w0 (w.setCell ⟨w0.heap.size, 1, none⟩ (.int .i64 m)) n0 m n2 n3 := ⟨h.bel.setCell (show w0.heap.size ≤ (⟨w0.heap.size, 1, none⟩ : Addr).block from Nat.le_refl _) _, by simp [World.setCell, Array.getElem?_modify, h.obj]⟩
theorem AW.set2 (h : AW w0 w n0 n1 n2 n3) (m : Int) : AW w0 (w.setCell ⟨w0.heap.size, 2, none⟩ (.int .i64 m)) n0 n1 m n3 := ⟨h.bel.setCell (show w0.heap.size ≤ (⟨w0.heap.size, 2, none⟩ : Addr).block from Nat.le_refl _) _, by simp [World.setCell, Array.getElem?_modify, h.obj]⟩
theorem AW.set3 (h : AW w0 w n0 n1 n2 n3) (m : Int) : AW w0 (w.setCell ⟨w0.heap.size, 3, none⟩ (.int .i64 m)) n0 n1 n2 m := ⟨h.bel.setCell (show w0.heap.size ≤ (⟨w0.heap.size, 3, none⟩ : Addr).block from Nat.le_refl _) _, by simp [World.setCell, Array.getElem?_modify, h.obj]⟩
def Ar (w0 : World) (n0 n1 n2 n3 : Int) (w' : World) : Prop := w'.cell? ⟨w0.heap.size, 0, none⟩ = some (.int .i64 n0) ∧ w'.cell? ⟨w0.heap.size, 1, none⟩ = some (.int .i64 n1) ∧ w'.cell? ⟨w0.heap.size, 2, none⟩ = some (.int .i64 n2) ∧ w'.cell? ⟨w0.heap.size, 3, none⟩ = some (.int .i64 n3) ∧ w0.heap.size < w'.heap.size ∧ Hid (AW w0 w' n0 n1 n2 n3)
theorem AW.ar (h : AW w0 w n0 n1 n2 n3) : Ar w0 n0 n1 n2 n3 w := ⟨h.c0, h.c1, h.c2, h.c3, h.lt, Lib.hid h⟩
theorem Ar.go (h : Ar w0 n0 n1 n2 n3 w) (hb : Below w.heap.size w w') : Ar w0 n0 n1 n2 n3 w' := (h.2.2.2.2.2.out.go hb).ar
theorem Ar.drewN (h : Ar w0 n0 n1 n2 n3 w) (n : Nat) : Ar w0 n0 n1 n2 n3 (w.drewN n) := h.go (below_drewN (Below.refl _ _) n)
end
def fOr (p q : Int → Int → Bool) : Int → Int → Bool := fun x y => p x y || q x y
def fAnd (p q : Int → Int → Bool) : Int → Int → Bool := fun x y => p x y && q x y
def fNot (p q : Int → Int → Bool) : Int → Int → Bool := fun x y => p x y && !(q x y)
def up (b : Bool) (n : Int) : Int := if b = true then n + 1 else n
theorem row_up (f : Int → Int → Bool) (X Y c : Nat) {n : Int} {v : Bool} (hn : n = (c + rowN f X Y : Nat)) (hv : v = f ((X : Int) - 1) ((Y : Int) - 1)) : up v n = (c + rowN f X (Y + 1) : Nat) := by
  rw [rowN_succ, ← hv, hn]
  unfold up
  cases v <;> simp <;> omega
theorem cells_next {p q : Int → Int → Bool} (X Y : Nat) {n0 n1 n2 n3 : Int} {pv qv : Bool} (h0 : n0 = (cntN p X + rowN p X Y : Nat)) (h1 : n1 = (cntN (fOr p q) X + rowN (fOr p q) X Y : Nat)) (h2 : n2 = (cntN (fAnd p q) X + rowN (fAnd p q) X Y : Nat)) (h3 : n3 = (cntN (fNot p q) X + rowN (fNot p q) X Y : Nat))
    (hp : pv = p ((X : Int) - 1) ((Y : Int) - 1)) (hq : qv = q ((X : Int) - 1) ((Y : Int) - 1)) {w0 : World} (w : World) (h : AW w0 w (up pv n0) (up (pv || qv) n1) (up (pv && qv) n2) (up (pv && !qv) n3)) :
    AW w0 w (cntN p X + rowN p X (Y + 1) : Nat) (cntN (fOr p q) X + rowN (fOr p q) X (Y + 1) : Nat) (cntN (fAnd p q) X + rowN (fAnd p q) X (Y + 1) : Nat) (cntN (fNot p q) X + rowN (fNot p q) X (Y + 1) : Nat) := by
  rw [row_up p X Y _ h0 hp, row_up (fOr p q) X Y _ h1 (by rw [hp, hq]; rfl), row_up (fAnd p q) X Y _ h2 (by rw [hp, hq]; rfl), row_up (fNot p q) X Y _ h3 (by rw [hp, hq]; rfl)] at h
  exact h
theorem SK.start2 (w0 w : World) (hb : Below w0.heap.size w0 w) {Aa Ab : Option Addr} {ca cb : Nat} {a b : List Rc} (ha : RIn w0 Aa ca a) (hbb : RIn w0 Ab cb b) : SK [] [(Ab, cb, b), (Aa, ca, a)] w0 w := by
  refine ⟨fun p hp => (by cases hp), fun p hp => ?_, hb⟩
  simp only [List.mem_cons, List.not_mem_nil, or_false] at hp
  rcases hp with rfl | rfl
  · exact hbb.below hb
  · exact ha.below hb
set_option maxHeartbeats 80000000 in
theorem cells_core (Aa Ab : Option Addr) (ca cb na nb nP nQ nU nI nM : Nat) (a b P Q U I M : List Rc) (p q : Int → Int → Bool) (w : World)
    (ha : RIn w Aa ca a) (hb : RIn w Ab cb b)
    (HSM : Hid (Calls Try.prog 7 #[] w (BlIs true w)))
    (Na : Hid (∀ (w' : World) (A1 : Option Addr) (c1 : Nat), RIn w' A1 c1 a → Calls Try.prog 12 #[.slice A1 na c1, .int .i64 6] w' (BlIs true w')))
    (Nb : Hid (∀ (w' : World) (A1 : Option Addr) (c1 : Nat), RIn w' A1 c1 b → Calls Try.prog 12 #[.slice A1 nb c1, .int .i64 6] w' (BlIs true w')))
    (Hx : Hid (∀ (w' : World) (A1 : Option Addr) (c1 : Nat), RIn w' A1 c1 a → Calls Try.prog 8 #[.slice A1 na c1] w' (RR P nP 0 w')))
    (Hy : Hid (∀ (w' : World) (A1 : Option Addr) (c1 : Nat), RIn w' A1 c1 b → Calls Try.prog 8 #[.slice A1 nb c1] w' (RR Q nQ 0 w')))
    (Hu : Hid (∀ (w' : World) (A1 : Option Addr) (c1 : Nat) (A2 : Option Addr) (c2 : Nat), RIn w' A1 c1 P → RIn w' A2 c2 Q → Calls Try.prog 13 #[.slice A1 nP c1, .slice A2 nQ c2] w' (RR U nU 0 w')))
    (Hi : Hid (∀ (w' : World) (A1 : Option Addr) (c1 : Nat) (A2 : Option Addr) (c2 : Nat), RIn w' A1 c1 P → RIn w' A2 c2 Q → Calls Try.prog 14 #[.slice A1 nP c1, .slice A2 nQ c2] w' (RR I nI 0 w')))
    (Hm : Hid (∀ (w' : World) (A1 : Option Addr) (c1 : Nat) (A2 : Option Addr) (c2 : Nat), RIn w' A1 c1 P → RIn w' A2 c2 Q → Calls Try.prog 15 #[.slice A1 nP c1, .slice A2 nQ c2] w' (RR M nM 0 w')))
    (RP : Hid (∀ (w' : World) (A1 : Option Addr) (c1 : Nat), RIn w' A1 c1 P → Calls Try.prog 16 #[.slice A1 nP c1] w' (BlIs true w')))
    (RU : Hid (∀ (w' : World) (A1 : Option Addr) (c1 : Nat), RIn w' A1 c1 U → Calls Try.prog 16 #[.slice A1 nU c1] w' (BlIs true w')))
    (RI : Hid (∀ (w' : World) (A1 : Option Addr) (c1 : Nat), RIn w' A1 c1 I → Calls Try.prog 16 #[.slice A1 nI c1] w' (BlIs true w')))
    (RM : Hid (∀ (w' : World) (A1 : Option Addr) (c1 : Nat), RIn w' A1 c1 M → Calls Try.prog 16 #[.slice A1 nM c1] w' (BlIs true w')))
    (Ca : Hid (∀ (w' : World) (A1 : Option Addr) (c1 : Nat) (x y : Int), RIn w' A1 c1 a → Calls Try.prog 17 #[.slice A1 na c1, .int .i64 x, .int .i64 y] w' (BlIs (p x y) w')))
    (Cb : Hid (∀ (w' : World) (A1 : Option Addr) (c1 : Nat) (x y : Int), RIn w' A1 c1 b → Calls Try.prog 17 #[.slice A1 nb c1, .int .i64 x, .int .i64 y] w' (BlIs (q x y) w')))
    (CP : Hid (∀ (w' : World) (A1 : Option Addr) (c1 : Nat) (x y : Int), RIn w' A1 c1 P → Calls Try.prog 17 #[.slice A1 nP c1, .int .i64 x, .int .i64 y] w' (BlIs (p x y) w')))
    (CU : Hid (∀ (w' : World) (A1 : Option Addr) (c1 : Nat) (x y : Int), RIn w' A1 c1 U → Calls Try.prog 17 #[.slice A1 nU c1, .int .i64 x, .int .i64 y] w' (BlIs ((p x y || q x y)) w')))
    (CI : Hid (∀ (w' : World) (A1 : Option Addr) (c1 : Nat) (x y : Int), RIn w' A1 c1 I → Calls Try.prog 17 #[.slice A1 nI c1, .int .i64 x, .int .i64 y] w' (BlIs ((p x y && q x y)) w')))
    (CM : Hid (∀ (w' : World) (A1 : Option Addr) (c1 : Nat) (x y : Int), RIn w' A1 c1 M → Calls Try.prog 17 #[.slice A1 nM c1, .int .i64 x, .int .i64 y] w' (BlIs ((p x y && !(q x y))) w')))
    (CH : Hid (∀ (w' : World) (A1 : Option Addr) (c1 : Nat) (x y : Int), RIn w' A1 c1 P → Calls Try.prog 18 #[.slice A1 nP c1, .int .i64 x, .int .i64 y] w' (BlIs (p x y) w')))
    (AP : Hid (∀ (w' : World) (A1 : Option Addr) (c1 : Nat), RIn w' A1 c1 P → Calls Try.prog 19 #[.slice A1 nP c1] w' (InIs (cntN p 26 : Nat) w')))
    (AU : Hid (∀ (w' : World) (A1 : Option Addr) (c1 : Nat), RIn w' A1 c1 U → Calls Try.prog 19 #[.slice A1 nU c1] w' (InIs (cntN (fOr p q) 26 : Nat) w')))
    (AI : Hid (∀ (w' : World) (A1 : Option Addr) (c1 : Nat), RIn w' A1 c1 I → Calls Try.prog 19 #[.slice A1 nI c1] w' (InIs (cntN (fAnd p q) 26 : Nat) w')))
    (AM : Hid (∀ (w' : World) (A1 : Option Addr) (c1 : Nat), RIn w' A1 c1 M → Calls Try.prog 19 #[.slice A1 nM c1] w' (InIs (cntN (fNot p q) 26 : Nat) w')))
    (SPQ : Hid (∀ (w' : World) (A1 : Option Addr) (c1 : Nat) (A2 : Option Addr) (c2 : Nat), RIn w' A1 c1 P → RIn w' A2 c2 Q → Calls Try.prog 20 #[.slice A1 nP c1, .slice A2 nQ c2] w' (BlIs (eqC p q 26) w'))) :
    Calls Try.prog 4 #[.slice Aa na ca, .slice Ab nb cb] w (BlIs true w) := by
  have KA := Lib.hid ha; have KB := Lib.hid hb
  clear ha hb
  go_enter Try.func4, Try.ntmps4
  go_wp2_with fail
  refine HSM.out.mono ?_
  rintro e1 w1 ⟨rfl, hb1⟩
  have K1 := Lib.hid (SK.start2 w w1 hb1 KA.out KB.out)
  clear hb1 KA KB
  go_wp2_with fail
  refine (Na.out _ _ _ (K1.out.2.1 _ (List.mem_cons_of_mem _ List.mem_cons_self))).mono ?_
  rintro e2 w2 ⟨rfl, hb2⟩
  have K2 := Lib.hid (K1.out.go hb2); clear hb2 K1
  go_wp2_with fail
  refine (Nb.out _ _ _ (K2.out.2.1 _ List.mem_cons_self)).mono ?_
  rintro e3 w3 ⟨rfl, hb3⟩
  have K3 := Lib.hid (K2.out.go hb3); clear hb3 K2
  go_wp2_with fail
  refine (Hx.out _ _ _ (K3.out.2.1 _ (List.mem_cons_of_mem _ List.mem_cons_self))).mono ?_
  rintro e4 w4 ⟨A4, c4, rfl, hr4, hb4⟩
  have K4 := Lib.hid (K3.out.add hb4 hr4); clear hr4 hb4 K3
  go_wp2_with fail
  refine (Hy.out _ _ _ (K4.out.2.1 _ (List.mem_cons_of_mem _ List.mem_cons_self))).mono ?_
  rintro e5 w5 ⟨A5, c5, rfl, hr5, hb5⟩
  have K5 := Lib.hid (K4.out.add hb5 hr5); clear hr5 hb5 K4
  go_wp2_with fail
  refine (Hu.out _ _ _ _ _ (K5.out.2.1 _ (List.mem_cons_of_mem _ List.mem_cons_self)) (K5.out.2.1 _ List.mem_cons_self)).mono ?_
  rintro e6 w6 ⟨A6, c6, rfl, hr6, hb6⟩
  have K6 := Lib.hid (K5.out.add hb6 hr6); clear hr6 hb6 K5
  go_wp2_with fail
  refine (Hi.out _ _ _ _ _ (K6.out.2.1 _ (List.mem_cons_of_mem _ (List.mem_cons_of_mem _ List.mem_cons_self))) (K6.out.2.1 _ (List.mem_cons_of_mem _ List.mem_cons_self))).mono ?_
  rintro e7 w7 ⟨A7, c7, rfl, hr7, hb7⟩
  have K7 := Lib.hid (K6.out.add hb7 hr7); clear hr7 hb7 K6
  go_wp2_with fail
  refine (Hm.out _ _ _ _ _ (K7.out.2.1 _ (List.mem_cons_of_mem _ (List.mem_cons_of_mem _ (List.mem_cons_of_mem _ List.mem_cons_self)))) (K7.out.2.1 _ (List.mem_cons_of_mem _ (List.mem_cons_of_mem _ List.mem_cons_self)))).mono ?_
  rintro e8 w8 ⟨A8, c8, rfl, hr8, hb8⟩
  have K8 := Lib.hid (K7.out.add hb8 hr8); clear hr8 hb8 K7
  go_wp2_with fail
  refine (RP.out _ _ _ (K8.out.2.1 _ (List.mem_cons_of_mem _ (List.mem_cons_of_mem _ (List.mem_cons_of_mem _ (List.mem_cons_of_mem _ List.mem_cons_self)))))).mono ?_
  rintro e9 w9 ⟨rfl, hb9⟩
  have K9 := Lib.hid (K8.out.go hb9); clear hb9 K8
  go_wp2_with fail
  refine (RU.out _ _ _ (K9.out.2.1 _ (List.mem_cons_of_mem _ (List.mem_cons_of_mem _ List.mem_cons_self)))).mono ?_
  rintro e10 w10 ⟨rfl, hb10⟩
  have K10 := Lib.hid (K9.out.go hb10); clear hb10 K9
  go_wp2_with fail
  refine (RI.out _ _ _ (K10.out.2.1 _ (List.mem_cons_of_mem _ List.mem_cons_self))).mono ?_
  rintro e11 w11 ⟨rfl, hb11⟩
  have K11 := Lib.hid (K10.out.go hb11); clear hb11 K10
  go_wp2_with fail
  refine (RM.out _ _ _ (K11.out.2.1 _ List.mem_cons_self)).mono ?_
  rintro e12 w12 ⟨rfl, hb12⟩
  have K12 := Lib.hid (K11.out.go hb12); clear hb12 K11
  have Ia := Lib.hid (K12.out.2.1 _ (List.mem_cons_of_mem _ (List.mem_cons_of_mem _ (List.mem_cons_of_mem _ (List.mem_cons_of_mem _ (List.mem_cons_of_mem _ (List.mem_cons_of_mem _ List.mem_cons_self)))))))
  have Ib := Lib.hid (K12.out.2.1 _ (List.mem_cons_of_mem _ (List.mem_cons_of_mem _ (List.mem_cons_of_mem _ (List.mem_cons_of_mem _ (List.mem_cons_of_mem _ List.mem_cons_self))))))
  have IP := Lib.hid (K12.out.2.1 _ (List.mem_cons_of_mem _ (List.mem_cons_of_mem _ (List.mem_cons_of_mem _ (List.mem_cons_of_mem _ List.mem_cons_self)))))
  have IQ := Lib.hid (K12.out.2.1 _ (List.mem_cons_of_mem _ (List.mem_cons_of_mem _ (List.mem_cons_of_mem _ List.mem_cons_self))))
  have IU := Lib.hid (K12.out.2.1 _ (List.mem_cons_of_mem _ (List.mem_cons_of_mem _ List.mem_cons_self)))
  have II := Lib.hid (K12.out.2.1 _ (List.mem_cons_of_mem _ List.mem_cons_self))
  have IM := Lib.hid (K12.out.2.1 _ List.mem_cons_self)
  have HW := Lib.hid K12.out.2.2
  clear K12
  have S0 : Hid (AW w12 (w12.alloc (.cells #[.int .i64 0, .int .i64 0, .int .i64 0, .int .i64 0] 32)) 0 0 0 0) := Lib.hid (AW.new w12)
  clear HSM Na Nb Hx Hy Hu Hi Hm RP RU RI RM
  go_wp2_with fail
  go_loopw [17, 18] (fun eq x wr => ∃ X : Nat, X ≤ 26 ∧ x = .int .i64 ((X : Int) - 1) ∧ eq = .bool (eqC p q X) ∧ Hid (AW w12 wr (cntN p X : Nat) (cntN (fOr p q) X : Nat) (cntN (fAnd p q) X : Nat) (cntN (fNot p q) X : Nat))) (fun _ x _ => 26 - (intOf x + 1).toNat)
  case atStart => exact ⟨0, by omega, i64_of (by omega), rfl, by simpa [cntN, sumN] using S0⟩
  case round =>
    clear S0
    obtain ⟨X, hX, rfl, rfl, HS⟩ := hrel
    obtain ⟨xv, hxv⟩ : ∃ xv : Int, xv = (X : Int) - 1 := ⟨_, rfl⟩
    rw [← hxv]
    by_cases hlt : X < 26
    · have hx0 : decide (xv ≤ 24) = true := decide_eq_true (by omega)
      have hx1 : -1 ≤ xv ∧ xv ≤ 24 := by omega
      have HX1 := Lib.hid hx1
      have qx : IntKind.i64.wrap (xv + 1) = xv + 1 := IntWalk.i64_in _ (by omega)
      have HXV := Lib.hid hxv; clear hxv hx1
      go_wp2_with fail
      go_loopw [17, 19] (fun eq y wr => ∃ Y : Nat, Y ≤ 26 ∧ y = .int .i64 ((Y : Int) - 1) ∧ eq = .bool (eqC p q X && eqR p q X Y) ∧ Hid (AW w12 wr (cntN p X + rowN p X Y : Nat) (cntN (fOr p q) X + rowN (fOr p q) X Y : Nat) (cntN (fAnd p q) X + rowN (fAnd p q) X Y : Nat) (cntN (fNot p q) X + rowN (fNot p q) X Y : Nat))) (fun _ y _ => 26 - (intOf y + 1).toNat)
      case atStart => exact ⟨0, by omega, i64_of (by omega), by simp [eqR], by simpa [rowN, sumN] using HS⟩
      case round =>
        clear HS
        obtain ⟨Y, hY, rfl, rfl, HS⟩ := hrel
        obtain ⟨yv, hyv⟩ : ∃ yv : Int, yv = (Y : Int) - 1 := ⟨_, rfl⟩
        rw [← hyv]
        by_cases hlt2 : Y < 26
        · have hy0 : decide (yv ≤ 24) = true := decide_eq_true (by omega)
          have HYV := Lib.hid hyv
          have qy : IntKind.i64.wrap (yv + 1) = yv + 1 := IntWalk.i64_in _ (by omega)
          obtain ⟨n0, hn0⟩ : ∃ n : Int, n = (cntN p X + rowN p X Y : Nat) := ⟨_, rfl⟩
          obtain ⟨n1, hn1⟩ : ∃ n : Int, n = (cntN (fOr p q) X + rowN (fOr p q) X Y : Nat) := ⟨_, rfl⟩
          obtain ⟨n2, hn2⟩ : ∃ n : Int, n = (cntN (fAnd p q) X + rowN (fAnd p q) X Y : Nat) := ⟨_, rfl⟩
          obtain ⟨n3, hn3⟩ : ∃ n : Int, n = (cntN (fNot p q) X + rowN (fNot p q) X Y : Nat) := ⟨_, rfl⟩
          rw [← hn0, ← hn1, ← hn2, ← hn3] at HS
          have b0 := cntN_le p X; have b1 := cntN_le (fOr p q) X; have b2 := cntN_le (fAnd p q) X; have b3 := cntN_le (fNot p q) X
          have b4 := rowN_le p X Y; have b5 := rowN_le (fOr p q) X Y; have b6 := rowN_le (fAnd p q) X Y; have b7 := rowN_le (fNot p q) X Y
          have q0 : IntKind.i64.wrap (n0 + 1) = n0 + 1 := IntWalk.i64_in _ (by omega)
          have q1 : IntKind.i64.wrap (n1 + 1) = n1 + 1 := IntWalk.i64_in _ (by omega)
          have q2 : IntKind.i64.wrap (n2 + 1) = n2 + 1 := IntWalk.i64_in _ (by omega)
          have q3 : IntKind.i64.wrap (n3 + 1) = n3 + 1 := IntWalk.i64_in _ (by omega)
          clear b0 b1 b2 b3 b4 b5 b6 b7
          obtain ⟨pv, hpv⟩ : ∃ v, v = p xv yv := ⟨_, rfl⟩
          obtain ⟨qv, hqv⟩ : ∃ v, v = q xv yv := ⟨_, rfl⟩
          have NX := Lib.hid (fun w => cells_next (p := p) (q := q) (pv := pv) (qv := qv) (w0 := w12) X Y hn0 hn1 hn2 hn3 (by rw [← HXV.out, ← hyv]; exact hpv) (by rw [← HXV.out, ← hyv]; exact hqv) w); clear hn0 hn1 hn2 hn3
          have NE : Hid ((eqC p q X && eqR p q X Y && (pv == qv)) = (eqC p q X && eqR p q X (Y + 1))) := Lib.hid (by rw [eqR, hpv, hqv, ← HXV.out, ← hyv, Bool.and_assoc])
          generalize (eqC p q X && eqR p q X Y) = eq0 at *
          have Da := Lib.hid (fun (w' : World) (h : Below w12.heap.size w12 w') => Ca.out w' _ _ xv yv (Ia.out.below h))
          have Db := Lib.hid (fun (w' : World) (h : Below w12.heap.size w12 w') => Cb.out w' _ _ xv yv (Ib.out.below h))
          have DP := Lib.hid (fun (w' : World) (h : Below w12.heap.size w12 w') => CP.out w' _ _ xv yv (IP.out.below h))
          have DU := Lib.hid (fun (w' : World) (h : Below w12.heap.size w12 w') => CU.out w' _ _ xv yv (IU.out.below h))
          have DI := Lib.hid (fun (w' : World) (h : Below w12.heap.size w12 w') => CI.out w' _ _ xv yv (II.out.below h))
          have DM := Lib.hid (fun (w' : World) (h : Below w12.heap.size w12 w') => CM.out w' _ _ xv yv (IM.out.below h))
          have DH := Lib.hid (fun (w' : World) (h : Below w12.heap.size w12 w') => CH.out w' _ _ xv yv (IP.out.below h))
          rw [← hpv] at Da DP DH
          rw [← hqv] at Db
          rw [← hpv, ← hqv] at DU DI DM
          obtain ⟨uv, huv⟩ : ∃ v, v = (pv || qv) := ⟨_, rfl⟩
          obtain ⟨iv, hiv⟩ : ∃ v, v = (pv && qv) := ⟨_, rfl⟩
          obtain ⟨mv, hmv⟩ : ∃ v, v = (pv && !qv) := ⟨_, rfl⟩
          rw [← huv] at DU; rw [← hiv] at DI; rw [← hmv] at DM
          clear Ca Cb CP CU CI CM CH AP AU AI AM SPQ hpv hqv hyv
          cases eq0 with
          | false =>
            cases pv with
            | false =>
              cases qv with
              | false =>
                obtain rfl : uv = false := huv
                obtain rfl : iv = false := hiv
                obtain rfl : mv = false := hmv
                go_wp2_with fail
                refine (Da.out _ HS.out.bel).mono ?_
                rintro e v0 ⟨rfl, hb⟩
                have S0 := Lib.hid (HS.out.go hb); clear hb HS
                go_wp2_with fail
                refine (Db.out _ S0.out.bel).mono ?_
                rintro e v1 ⟨rfl, hb⟩
                have S1 := Lib.hid (S0.out.go hb); clear hb S0
                go_wp2_with fail
                refine (DP.out _ S1.out.bel).mono ?_
                rintro e v2 ⟨rfl, hb⟩
                have S2 := Lib.hid (S1.out.go hb); clear hb S1
                go_wp2_with fail
                refine (DU.out _ S2.out.bel).mono ?_
                rintro e v3 ⟨rfl, hb⟩
                have S3 := Lib.hid (S2.out.go hb); clear hb S2
                go_wp2_with fail
                refine (DI.out _ S3.out.bel).mono ?_
                rintro e v4 ⟨rfl, hb⟩
                have S4 := Lib.hid (S3.out.go hb); clear hb S3
                go_wp2_with fail
                refine (DM.out _ S4.out.bel).mono ?_
                rintro e v5 ⟨rfl, hb⟩
                have S5 := Lib.hid (S4.out.go hb); clear hb S4
                go_wp2_with fail
                refine (DH.out _ S5.out.bel).mono ?_
                rintro e v6 ⟨rfl, hb⟩
                have S6 := Lib.hid (S5.out.go hb); clear hb S5
                have z0 := S6.out.c0; have z1 := S6.out.c1; have z2 := S6.out.c2; have z3 := S6.out.c3; have zl := S6.out.lt
                have f0 := S6.out.froz 0; have f1 := S6.out.froz 1; have f2 := S6.out.froz 2; have f3 := S6.out.froz 3
                go_wp2_with fail
                go_roundw
                case rel =>
                  have hyv := HYV.out
                  exact ⟨Y + 1, by omega, i64_of (by omega), by rw [← NE.out]; rfl, Lib.hid (NX.out _ (S6.out))⟩
                case measure => have hyv := HYV.out; simp [intOf]; omega
              | true =>
                obtain rfl : uv = true := huv
                obtain rfl : iv = false := hiv
                obtain rfl : mv = false := hmv
                go_wp2_with fail
                refine (Da.out _ HS.out.bel).mono ?_
                rintro e v0 ⟨rfl, hb⟩
                have S0 := Lib.hid (HS.out.go hb); clear hb HS
                go_wp2_with fail
                refine (Db.out _ S0.out.bel).mono ?_
                rintro e v1 ⟨rfl, hb⟩
                have S1 := Lib.hid (S0.out.go hb); clear hb S0
                go_wp2_with fail
                refine (DP.out _ S1.out.bel).mono ?_
                rintro e v2 ⟨rfl, hb⟩
                have S2 := Lib.hid (S1.out.go hb); clear hb S1
                go_wp2_with fail
                refine (DU.out _ S2.out.bel).mono ?_
                rintro e v3 ⟨rfl, hb⟩
                have S3 := Lib.hid (S2.out.go hb); clear hb S2
                go_wp2_with fail
                refine (DI.out _ S3.out.bel).mono ?_
                rintro e v4 ⟨rfl, hb⟩
                have S4 := Lib.hid (S3.out.go hb); clear hb S3
                go_wp2_with fail
                refine (DM.out _ S4.out.bel).mono ?_
                rintro e v5 ⟨rfl, hb⟩
                have S5 := Lib.hid (S4.out.go hb); clear hb S4
                go_wp2_with fail
                refine (DH.out _ S5.out.bel).mono ?_
                rintro e v6 ⟨rfl, hb⟩
                have S6 := Lib.hid (S5.out.go hb); clear hb S5
                have z0 := S6.out.c0; have z1 := S6.out.c1; have z2 := S6.out.c2; have z3 := S6.out.c3; have zl := S6.out.lt
                have f0 := S6.out.froz 0; have f1 := S6.out.froz 1; have f2 := S6.out.froz 2; have f3 := S6.out.froz 3
                go_wp2_with fail
                go_roundw
                case rel =>
                  have hyv := HYV.out
                  exact ⟨Y + 1, by omega, i64_of (by omega), by rw [← NE.out]; rfl, Lib.hid (NX.out _ ((S6.out).set1 _))⟩
                case measure => have hyv := HYV.out; simp [intOf]; omega
            | true =>
              cases qv with
              | false =>
                obtain rfl : uv = true := huv
                obtain rfl : iv = false := hiv
                obtain rfl : mv = true := hmv
                go_wp2_with fail
                refine (Da.out _ HS.out.bel).mono ?_
                rintro e v0 ⟨rfl, hb⟩
                have S0 := Lib.hid (HS.out.go hb); clear hb HS
                go_wp2_with fail
                refine (Db.out _ S0.out.bel).mono ?_
                rintro e v1 ⟨rfl, hb⟩
                have S1 := Lib.hid (S0.out.go hb); clear hb S0
                go_wp2_with fail
                refine (DP.out _ S1.out.bel).mono ?_
                rintro e v2 ⟨rfl, hb⟩
                have S2 := Lib.hid (S1.out.go hb); clear hb S1
                go_wp2_with fail
                refine (DU.out _ S2.out.bel).mono ?_
                rintro e v3 ⟨rfl, hb⟩
                have S3 := Lib.hid (S2.out.go hb); clear hb S2
                go_wp2_with fail
                refine (DI.out _ S3.out.bel).mono ?_
                rintro e v4 ⟨rfl, hb⟩
                have S4 := Lib.hid (S3.out.go hb); clear hb S3
                go_wp2_with fail
                refine (DM.out _ S4.out.bel).mono ?_
                rintro e v5 ⟨rfl, hb⟩
                have S5 := Lib.hid (S4.out.go hb); clear hb S4
                go_wp2_with fail
                refine (DH.out _ S5.out.bel).mono ?_
                rintro e v6 ⟨rfl, hb⟩
                have S6 := Lib.hid (S5.out.go hb); clear hb S5
                have z0 := S6.out.c0; have z1 := S6.out.c1; have z2 := S6.out.c2; have z3 := S6.out.c3; have zl := S6.out.lt
                have f0 := S6.out.froz 0; have f1 := S6.out.froz 1; have f2 := S6.out.froz 2; have f3 := S6.out.froz 3
                go_wp2_with fail
                go_roundw
                case rel =>
                  have hyv := HYV.out
                  exact ⟨Y + 1, by omega, i64_of (by omega), by rw [← NE.out]; rfl, Lib.hid (NX.out _ ((((S6.out).set0 _).set1 _).set3 _))⟩
                case measure => have hyv := HYV.out; simp [intOf]; omega
              | true =>
                obtain rfl : uv = true := huv
                obtain rfl : iv = true := hiv
                obtain rfl : mv = false := hmv
                go_wp2_with fail
                refine (Da.out _ HS.out.bel).mono ?_
                rintro e v0 ⟨rfl, hb⟩
                have S0 := Lib.hid (HS.out.go hb); clear hb HS
                go_wp2_with fail
                refine (Db.out _ S0.out.bel).mono ?_
                rintro e v1 ⟨rfl, hb⟩
                have S1 := Lib.hid (S0.out.go hb); clear hb S0
                go_wp2_with fail
                refine (DP.out _ S1.out.bel).mono ?_
                rintro e v2 ⟨rfl, hb⟩
                have S2 := Lib.hid (S1.out.go hb); clear hb S1
                go_wp2_with fail
                refine (DU.out _ S2.out.bel).mono ?_
                rintro e v3 ⟨rfl, hb⟩
                have S3 := Lib.hid (S2.out.go hb); clear hb S2
                go_wp2_with fail
                refine (DI.out _ S3.out.bel).mono ?_
                rintro e v4 ⟨rfl, hb⟩
                have S4 := Lib.hid (S3.out.go hb); clear hb S3
                go_wp2_with fail
                refine (DM.out _ S4.out.bel).mono ?_
                rintro e v5 ⟨rfl, hb⟩
                have S5 := Lib.hid (S4.out.go hb); clear hb S4
                go_wp2_with fail
                refine (DH.out _ S5.out.bel).mono ?_
                rintro e v6 ⟨rfl, hb⟩
                have S6 := Lib.hid (S5.out.go hb); clear hb S5
                have z0 := S6.out.c0; have z1 := S6.out.c1; have z2 := S6.out.c2; have z3 := S6.out.c3; have zl := S6.out.lt
                have f0 := S6.out.froz 0; have f1 := S6.out.froz 1; have f2 := S6.out.froz 2; have f3 := S6.out.froz 3
                go_wp2_with fail
                go_roundw
                case rel =>
                  have hyv := HYV.out
                  exact ⟨Y + 1, by omega, i64_of (by omega), by rw [← NE.out]; rfl, Lib.hid (NX.out _ ((((S6.out).set0 _).set1 _).set2 _))⟩
                case measure => have hyv := HYV.out; simp [intOf]; omega
          | true =>
            cases pv with
            | false =>
              cases qv with
              | false =>
                obtain rfl : uv = false := huv
                obtain rfl : iv = false := hiv
                obtain rfl : mv = false := hmv
                go_wp2_with fail
                refine (Da.out _ HS.out.bel).mono ?_
                rintro e v0 ⟨rfl, hb⟩
                have S0 := Lib.hid (HS.out.go hb); clear hb HS
                go_wp2_with fail
                refine (Db.out _ S0.out.bel).mono ?_
                rintro e v1 ⟨rfl, hb⟩
                have S1 := Lib.hid (S0.out.go hb); clear hb S0
                go_wp2_with fail
                refine (DP.out _ S1.out.bel).mono ?_
                rintro e v2 ⟨rfl, hb⟩
                have S2 := Lib.hid (S1.out.go hb); clear hb S1
                go_wp2_with fail
                refine (DU.out _ S2.out.bel).mono ?_
                rintro e v3 ⟨rfl, hb⟩
                have S3 := Lib.hid (S2.out.go hb); clear hb S2
                go_wp2_with fail
                refine (DI.out _ S3.out.bel).mono ?_
                rintro e v4 ⟨rfl, hb⟩
                have S4 := Lib.hid (S3.out.go hb); clear hb S3
                go_wp2_with fail
                refine (DM.out _ S4.out.bel).mono ?_
                rintro e v5 ⟨rfl, hb⟩
                have S5 := Lib.hid (S4.out.go hb); clear hb S4
                go_wp2_with fail
                refine (DH.out _ S5.out.bel).mono ?_
                rintro e v6 ⟨rfl, hb⟩
                have S6 := Lib.hid (S5.out.go hb); clear hb S5
                have z0 := S6.out.c0; have z1 := S6.out.c1; have z2 := S6.out.c2; have z3 := S6.out.c3; have zl := S6.out.lt
                have f0 := S6.out.froz 0; have f1 := S6.out.froz 1; have f2 := S6.out.froz 2; have f3 := S6.out.froz 3
                go_wp2_with fail
                go_roundw
                case rel =>
                  have hyv := HYV.out
                  exact ⟨Y + 1, by omega, i64_of (by omega), by rw [← NE.out]; rfl, Lib.hid (NX.out _ (S6.out))⟩
                case measure => have hyv := HYV.out; simp [intOf]; omega
              | true =>
                obtain rfl : uv = true := huv
                obtain rfl : iv = false := hiv
                obtain rfl : mv = false := hmv
                go_wp2_with fail
                refine (Da.out _ HS.out.bel).mono ?_
                rintro e v0 ⟨rfl, hb⟩
                have S0 := Lib.hid (HS.out.go hb); clear hb HS
                go_wp2_with fail
                refine (Db.out _ S0.out.bel).mono ?_
                rintro e v1 ⟨rfl, hb⟩
                have S1 := Lib.hid (S0.out.go hb); clear hb S0
                go_wp2_with fail
                refine (DP.out _ S1.out.bel).mono ?_
                rintro e v2 ⟨rfl, hb⟩
                have S2 := Lib.hid (S1.out.go hb); clear hb S1
                go_wp2_with fail
                refine (DU.out _ S2.out.bel).mono ?_
                rintro e v3 ⟨rfl, hb⟩
                have S3 := Lib.hid (S2.out.go hb); clear hb S2
                go_wp2_with fail
                refine (DI.out _ S3.out.bel).mono ?_
                rintro e v4 ⟨rfl, hb⟩
                have S4 := Lib.hid (S3.out.go hb); clear hb S3
                go_wp2_with fail
                refine (DM.out _ S4.out.bel).mono ?_
                rintro e v5 ⟨rfl, hb⟩
                have S5 := Lib.hid (S4.out.go hb); clear hb S4
                go_wp2_with fail
                refine (DH.out _ S5.out.bel).mono ?_
                rintro e v6 ⟨rfl, hb⟩
                have S6 := Lib.hid (S5.out.go hb); clear hb S5
                have z0 := S6.out.c0; have z1 := S6.out.c1; have z2 := S6.out.c2; have z3 := S6.out.c3; have zl := S6.out.lt
                have f0 := S6.out.froz 0; have f1 := S6.out.froz 1; have f2 := S6.out.froz 2; have f3 := S6.out.froz 3
                go_wp2_with fail
                go_roundw
                case rel =>
                  have hyv := HYV.out
                  exact ⟨Y + 1, by omega, i64_of (by omega), by rw [← NE.out]; rfl, Lib.hid (NX.out _ ((S6.out).set1 _))⟩
                case measure => have hyv := HYV.out; simp [intOf]; omega
            | true =>
              cases qv with
              | false =>
                obtain rfl : uv = true := huv
                obtain rfl : iv = false := hiv
                obtain rfl : mv = true := hmv
                go_wp2_with fail
                refine (Da.out _ HS.out.bel).mono ?_
                rintro e v0 ⟨rfl, hb⟩
                have S0 := Lib.hid (HS.out.go hb); clear hb HS
                go_wp2_with fail
                refine (Db.out _ S0.out.bel).mono ?_
                rintro e v1 ⟨rfl, hb⟩
                have S1 := Lib.hid (S0.out.go hb); clear hb S0
                go_wp2_with fail
                refine (DP.out _ S1.out.bel).mono ?_
                rintro e v2 ⟨rfl, hb⟩
                have S2 := Lib.hid (S1.out.go hb); clear hb S1
                go_wp2_with fail
                refine (DU.out _ S2.out.bel).mono ?_
                rintro e v3 ⟨rfl, hb⟩
                have S3 := Lib.hid (S2.out.go hb); clear hb S2
                go_wp2_with fail
                refine (DI.out _ S3.out.bel).mono ?_
                rintro e v4 ⟨rfl, hb⟩
                have S4 := Lib.hid (S3.out.go hb); clear hb S3
                go_wp2_with fail
                refine (DM.out _ S4.out.bel).mono ?_
                rintro e v5 ⟨rfl, hb⟩
                have S5 := Lib.hid (S4.out.go hb); clear hb S4
                go_wp2_with fail
                refine (DH.out _ S5.out.bel).mono ?_
                rintro e v6 ⟨rfl, hb⟩
                have S6 := Lib.hid (S5.out.go hb); clear hb S5
                have z0 := S6.out.c0; have z1 := S6.out.c1; have z2 := S6.out.c2; have z3 := S6.out.c3; have zl := S6.out.lt
                have f0 := S6.out.froz 0; have f1 := S6.out.froz 1; have f2 := S6.out.froz 2; have f3 := S6.out.froz 3
                go_wp2_with fail
                go_roundw
                case rel =>
                  have hyv := HYV.out
                  exact ⟨Y + 1, by omega, i64_of (by omega), by rw [← NE.out]; rfl, Lib.hid (NX.out _ ((((S6.out).set0 _).set1 _).set3 _))⟩
                case measure => have hyv := HYV.out; simp [intOf]; omega
              | true =>
                obtain rfl : uv = true := huv
                obtain rfl : iv = true := hiv
                obtain rfl : mv = false := hmv
                go_wp2_with fail
                refine (Da.out _ HS.out.bel).mono ?_
                rintro e v0 ⟨rfl, hb⟩
                have S0 := Lib.hid (HS.out.go hb); clear hb HS
                go_wp2_with fail
                refine (Db.out _ S0.out.bel).mono ?_
                rintro e v1 ⟨rfl, hb⟩
                have S1 := Lib.hid (S0.out.go hb); clear hb S0
                go_wp2_with fail
                refine (DP.out _ S1.out.bel).mono ?_
                rintro e v2 ⟨rfl, hb⟩
                have S2 := Lib.hid (S1.out.go hb); clear hb S1
                go_wp2_with fail
                refine (DU.out _ S2.out.bel).mono ?_
                rintro e v3 ⟨rfl, hb⟩
                have S3 := Lib.hid (S2.out.go hb); clear hb S2
                go_wp2_with fail
                refine (DI.out _ S3.out.bel).mono ?_
                rintro e v4 ⟨rfl, hb⟩
                have S4 := Lib.hid (S3.out.go hb); clear hb S3
                go_wp2_with fail
                refine (DM.out _ S4.out.bel).mono ?_
                rintro e v5 ⟨rfl, hb⟩
                have S5 := Lib.hid (S4.out.go hb); clear hb S4
                go_wp2_with fail
                refine (DH.out _ S5.out.bel).mono ?_
                rintro e v6 ⟨rfl, hb⟩
                have S6 := Lib.hid (S5.out.go hb); clear hb S5
                have z0 := S6.out.c0; have z1 := S6.out.c1; have z2 := S6.out.c2; have z3 := S6.out.c3; have zl := S6.out.lt
                have f0 := S6.out.froz 0; have f1 := S6.out.froz 1; have f2 := S6.out.froz 2; have f3 := S6.out.froz 3
                go_wp2_with fail
                go_roundw
                case rel =>
                  have hyv := HYV.out
                  exact ⟨Y + 1, by omega, i64_of (by omega), by rw [← NE.out]; rfl, Lib.hid (NX.out _ ((((S6.out).set0 _).set1 _).set2 _))⟩
                case measure => have hyv := HYV.out; simp [intOf]; omega
        · obtain rfl : Y = 26 := by omega
          have hy0 : decide (yv ≤ 24) = false := decide_eq_false (by omega)
          have HYV := Lib.hid hyv; clear hyv
          go_wp2_with fail
          go_roundw
          case rel => exact ⟨X + 1, by omega, i64_of (by have := HXV.out; omega), rfl, HS⟩
          case measure => have hxv := HXV.out; simp [intOf]; omega
    · obtain rfl : X = 26 := by omega
      have hx0 : decide (xv ≤ 24) = false := decide_eq_false (by omega)
      have HXV := Lib.hid hxv; clear hxv
      clear Ca Cb CP CU CI CM CH
      have EP := Lib.hid (fun (w' : World) (h : Ar w12 (cntN p 26 : Nat) (cntN (fOr p q) 26 : Nat) (cntN (fAnd p q) 26 : Nat) (cntN (fNot p q) 26 : Nat) w') => AP.out w' _ _ (IP.out.below h.2.2.2.2.2.out.bel))
      have EU := Lib.hid (fun (w' : World) (h : Ar w12 (cntN p 26 : Nat) (cntN (fOr p q) 26 : Nat) (cntN (fAnd p q) 26 : Nat) (cntN (fNot p q) 26 : Nat) w') => AU.out w' _ _ (IU.out.below h.2.2.2.2.2.out.bel))
      have EI := Lib.hid (fun (w' : World) (h : Ar w12 (cntN p 26 : Nat) (cntN (fOr p q) 26 : Nat) (cntN (fAnd p q) 26 : Nat) (cntN (fNot p q) 26 : Nat) w') => AI.out w' _ _ (II.out.below h.2.2.2.2.2.out.bel))
      have EM := Lib.hid (fun (w' : World) (h : Ar w12 (cntN p 26 : Nat) (cntN (fOr p q) 26 : Nat) (cntN (fAnd p q) 26 : Nat) (cntN (fNot p q) 26 : Nat) w') => AM.out w' _ _ (IM.out.below h.2.2.2.2.2.out.bel))
      have ES := Lib.hid (fun (w' : World) (h : Ar w12 (cntN p 26 : Nat) (cntN (fOr p q) 26 : Nat) (cntN (fAnd p q) 26 : Nat) (cntN (fNot p q) 26 : Nat) w') => SPQ.out w' _ _ _ _ (IP.out.below h.2.2.2.2.2.out.bel) (IQ.out.below h.2.2.2.2.2.out.bel))
      clear AP AU AI AM SPQ Ia Ib IP IQ IU II IM
      generalize ((cntN p 26 : Nat) : Int) = n0 at *
      generalize ((cntN (fOr p q) 26 : Nat) : Int) = n1 at *
      generalize ((cntN (fAnd p q) 26 : Nat) : Int) = n2 at *
      generalize ((cntN (fNot p q) 26 : Nat) : Int) = n3 at *
      generalize eqC p q 26 = eqv at *
      go_wp2_with fail
      have K := Lib.hid (HS.out.ar); clear HS
      go_region_held3 (fun w' => w'.cell? ⟨w12.heap.size, 0, none⟩ = some (.int .i64 n0) ∧ w'.cell? ⟨w12.heap.size, 1, none⟩ = some (.int .i64 n1) ∧ w'.cell? ⟨w12.heap.size, 2, none⟩ = some (.int .i64 n2) ∧ w'.cell? ⟨w12.heap.size, 3, none⟩ = some (.int .i64 n3) ∧ w12.heap.size < w'.heap.size ∧ Hid (AW w12 w' n0 n1 n2 n3))
        (first | exact K.out | exact Ar.drewN K.out 1 | exact Ar.go ‹_› ‹_›)
        (first
          | (go_at_call 19; (with_reducible refine Calls.mono (EP.out _ ?_) ?_); assumption; rintro e w' ⟨rfl, hb⟩)
          | (go_at_call 19; (with_reducible refine Calls.mono (EU.out _ ?_) ?_); assumption; rintro e w' ⟨rfl, hb⟩)
          | (go_at_call 19; (with_reducible refine Calls.mono (EI.out _ ?_) ?_); assumption; rintro e w' ⟨rfl, hb⟩)
          | (go_at_call 19; (with_reducible refine Calls.mono (EM.out _ ?_) ?_); assumption; rintro e w' ⟨rfl, hb⟩)
          | (go_at_call 20; (with_reducible refine Calls.mono (ES.out _ ?_) ?_); assumption; rintro e w' ⟨rfl, hb⟩))
      go_wp2_with fail
      have KB : Ar w12 n0 n1 n2 n3 w' := by assumption
      go_ret
      exact ⟨by first | rfl | (cases eqv <;> rfl) | simp, HW.out.trans (KB.2.2.2.2.2.out.bel.mono HW.out.size)⟩
end Go.Proofs.Ytoalfmdjdplbkaa
