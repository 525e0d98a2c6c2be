/-
  The walk of RegionShifts, its calls' contracts as hypotheses.
-/
import Derived.Test.YtoalfmdjdplbkaaKk
import Derived.Test.YtoalfmdjdplbkaaKe
import Derived.Test.YtoalfmdjdplbkaaIi
import Derived.Test.YtoalfmdjdplbkaaIm
set_option linter.unusedVariables false
set_option maxRecDepth 100000
namespace Go.Proofs.Ytoalfmdjdplbkaa
open Go.RowKit

set_option maxHeartbeats 80000000 in
theorem shifts_full (Aa Ab : Option Addr) (ca cb na nb nX nY nS nT nO nL np : Nat) (a b X Y S T O L : List Rc) (dx dy r0 r1 r2 r3 ax ek : Int) (w : World) (ha : RIn w Aa ca a) (hb : RIn w Ab cb b) (ma : na ≤ 6) (mb : nb ≤ 6) (hX : 0 < nX) (i0 : -1048576 ≤ dx ∧ dx ≤ 1048576) (i1 : -1048576 ≤ dy ∧ dy ≤ 1048576) (i2 : 0 ≤ r0 + dx) (i3 : r2 + dx ≤ 1048576) (i4 : 0 ≤ r1 + dy) (i5 : r3 + dy ≤ 1048576) (j0 : 0 ≤ r0 ∧ r0 ≤ 1048576) (j1 : 0 ≤ r1 ∧ r1 ≤ 1048576) (j2 : 0 ≤ r2 ∧ r2 ≤ 1048576) (j3 : 0 ≤ r3 ∧ r3 ≤ 1048576)
    (HSM : Hid (Calls Try.prog 7 #[] w (BlIs true w)))
    (Hx : Hid (∀ (w' : World) (A1 : Option Addr) (c1 : Nat), RIn w' A1 c1 a → Calls Try.prog 8 #[.slice A1 na c1] w' (RR X nX 0 w')))
    (Hy : Hid (∀ (w' : World) (A1 : Option Addr) (c1 : Nat), RIn w' A1 c1 b → Calls Try.prog 8 #[.slice A1 nb c1] w' (RR Y nY 0 w')))
    (Hs : Hid (∀ (w' : World) (A1 : Option Addr) (c1 : Nat), RIn w' A1 c1 X → Calls Try.prog 23 #[.slice A1 nX c1, .int .i64 dx, .int .i64 dy] w' (RR S nS 0 w')))
    (Hb : Hid (∀ (w' : World) (A1 : Option Addr) (c1 : Nat), RIn w' A1 c1 X → Calls Try.prog 24 #[.slice A1 nX c1] w' (RbIs (⟨r0, r1, r2, r3⟩, true) w')))
    (Hk : Hid (∀ (w' : World) (A1 : Option Addr) (c1 : Nat), RIn w' A1 c1 S → Calls Try.prog 23 #[.slice A1 nS c1, .int .i64 (-dx), .int .i64 (-dy)] w' (RR X nX 0 w')))
    (Hq : Hid (∀ (w' : World) (A1 : Option Addr) (c1 : Nat), RIn w' A1 c1 S → Calls Try.prog 24 #[.slice A1 nS c1] w' (RbIs (⟨r0 + dx, r1 + dy, r2 + dx, r3 + dy⟩, true) w')))
    (Sx : Hid (∀ (w' : World) (A1 : Option Addr) (c1 : Nat) (A2 : Option Addr) (c2 : Nat), RIn w' A1 c1 X → RIn w' A2 c2 X → Calls Try.prog 10 #[.slice A1 nX c1, .slice A2 nX c2] w' (BlIs true w')))
    (As : Hid (∀ (w' : World) (A1 : Option Addr) (c1 : Nat), RIn w' A1 c1 S → Calls Try.prog 19 #[.slice A1 nS c1] w' (InIs ax w')))
    (Ax : Hid (∀ (w' : World) (A1 : Option Addr) (c1 : Nat), RIn w' A1 c1 X → Calls Try.prog 19 #[.slice A1 nX c1] w' (InIs ax w')))
    (Ps : Hid (∀ (w' : World) (A1 : Option Addr) (c1 : Nat), RIn w' A1 c1 S → Calls Try.prog 21 #[.slice A1 nS c1] w' (LenIs np w')))
    (Px : Hid (∀ (w' : World) (A1 : Option Addr) (c1 : Nat), RIn w' A1 c1 X → Calls Try.prog 21 #[.slice A1 nX c1] w' (LenIs np w')))
    (Ht : Hid (∀ (w' : World) (A1 : Option Addr) (c1 : Nat), RIn w' A1 c1 Y → Calls Try.prog 23 #[.slice A1 nY c1, .int .i64 dx, .int .i64 dy] w' (RR T nT 0 w')))
    (Hm : Hid (∀ (w' : World) (A1 : Option Addr) (c1 : Nat) (A2 : Option Addr) (c2 : Nat), RIn w' A1 c1 S → RIn w' A2 c2 T → Calls Try.prog 15 #[.slice A1 nS c1, .slice A2 nT c2] w' (RR O nO 0 w')))
    (Hl : Hid (∀ (w' : World) (A1 : Option Addr) (c1 : Nat) (A2 : Option Addr) (c2 : Nat), RIn w' A1 c1 X → RIn w' A2 c2 Y → Calls Try.prog 15 #[.slice A1 nX c1, .slice A2 nY c2] w' (RR L nL 0 w')))
    (Hz : Hid (∀ (w' : World) (A1 : Option Addr) (c1 : Nat), RIn w' A1 c1 L → Calls Try.prog 23 #[.slice A1 nL c1, .int .i64 dx, .int .i64 dy] w' (RR O nO 0 w')))
    (So : Hid (∀ (w' : World) (A1 : Option Addr) (c1 : Nat) (A2 : Option Addr) (c2 : Nat), RIn w' A1 c1 O → RIn w' A2 c2 O → Calls Try.prog 10 #[.slice A1 nO c1, .slice A2 nO c2] w' (BlIs true w'))) :
    Calls Try.prog 6 #[.slice Aa na ca, .slice Ab nb cb, .int .i64 dx, .int .i64 dy] w (BlIs true w) := by
  have hne : ((nX : Int) == 0) = false := by simp; omega
  have q0 : IntKind.i64.wrap (r0 + dx) = r0 + dx := IntWalk.i64_in _ (by omega)
  have q1 : IntKind.i64.wrap (r1 + dy) = r1 + dy := IntWalk.i64_in _ (by omega)
  have q2 : IntKind.i64.wrap (r2 + dx) = r2 + dx := IntWalk.i64_in _ (by omega)
  have q3 : IntKind.i64.wrap (r3 + dy) = r3 + dy := IntWalk.i64_in _ (by omega)
  have q4 : IntKind.i64.wrap (-dx) = -dx := IntWalk.i64_in _ (by omega)
  have q5 : IntKind.i64.wrap (-dy) = -dy := IntWalk.i64_in _ (by omega)
  have d0 : decide (-1048576 ≤ dx) = true := decide_eq_true i0.1
  have d1 : decide (dx ≤ 1048576) = true := decide_eq_true i0.2
  have d2 : decide (-1048576 ≤ dy) = true := decide_eq_true i1.1
  have d3 : decide (dy ≤ 1048576) = true := decide_eq_true i1.2
  have d4 : decide (0 ≤ r0 + dx) = true := decide_eq_true i2
  have d5 : decide (r2 + dx ≤ 1048576) = true := decide_eq_true i3
  have d6 : decide (0 ≤ r1 + dy) = true := decide_eq_true i4
  have d7 : decide (r3 + dy ≤ 1048576) = true := decide_eq_true i5
  clear i0 i1 i2 i3 i4 i5 j0 j1 j2 j3
  have KA := Lib.hid ha; have KB := Lib.hid hb
  clear ha hb
  have m1 : ¬ (6 : Int) < (na : Int) := by omega
  have m2 : ¬ (6 : Int) < (nb : Int) := by omega
  go_enter Try.func6, Try.ntmps6
  go_wp2_with fail
  refine HSM.out.mono ?_
  rintro e1 w1 ⟨rfl, hb1⟩
  have K1 := Lib.hid (SK.start2 w w1 hb1 KA.out KB.out)
  clear hb1 KA KB
  go_wp2_with fail
  refine (Hx.out _ _ _ (K1.out.2.1 _ (List.mem_cons_of_mem _ List.mem_cons_self))).mono ?_
  rintro e2 w2 ⟨A2, c2, rfl, hr2, hb2⟩
  have K2 := Lib.hid (K1.out.add hb2 hr2)
  clear hb2 K1 hr2
  go_wp2_with fail
  refine (Hy.out _ _ _ (K2.out.2.1 _ (List.mem_cons_of_mem _ List.mem_cons_self))).mono ?_
  rintro e3 w3 ⟨A3, c3, rfl, hr3, hb3⟩
  have K3 := Lib.hid (K2.out.add hb3 hr3)
  clear hb3 K2 hr3
  go_wp2_with fail
  refine (Hs.out _ _ _ (K3.out.2.1 _ (List.mem_cons_of_mem _ List.mem_cons_self))).mono ?_
  rintro e4 w4 ⟨A4, c4, rfl, hr4, hb4⟩
  have K4 := Lib.hid (K3.out.add hb4 hr4)
  clear hb4 K3 hr4
  go_wp2_with fail
  refine (Hb.out _ _ _ (K4.out.2.1 _ (List.mem_cons_of_mem _ (List.mem_cons_of_mem _ List.mem_cons_self)))).mono ?_
  rintro e5 w5 ⟨rfl, hb5⟩
  have K5 := Lib.hid (K4.out.go hb5)
  clear hb5 K4
  have hal : Below w5.heap.size w5 (w5.alloc (.cells #[.int .i64 r0, .int .i64 r1, .int .i64 r2, .int .i64 r3] 38)) := (Below.refl _ _).alloc (Nat.le_refl _) _
  have P : Hid (RcAt (w5.alloc (.cells #[.int .i64 r0, .int .i64 r1, .int .i64 r2, .int .i64 r3] 38)) w5.heap.size ⟨r0, r1, r2, r3⟩) := Lib.hid (RcAt.new w5 ⟨r0, r1, r2, r3⟩ _ rfl)
  have K5a := Lib.hid (K5.out.go hal); clear hal K5
  go_wp2_with fail
  refine (Hk.out _ _ _ (K5a.out.2.1 _ List.mem_cons_self)).mono ?_
  rintro e6 w6 ⟨A6, c6, rfl, hr6, hb6⟩
  have K6 := Lib.hid (K5a.out.add hb6 hr6)
  have P_6 := Lib.hid (P.out.below hb6 P.out.lt); clear P; have P := P_6; clear P_6
  clear hb6 K5a hr6
  go_wp2_with fail
  refine (Hq.out _ _ _ (K6.out.2.1 _ (List.mem_cons_of_mem _ List.mem_cons_self))).mono ?_
  rintro e7 w7 ⟨rfl, hb7⟩
  have K7 := Lib.hid (K6.out.go hb7)
  have P_7 := Lib.hid (P.out.below hb7 P.out.lt); clear P; have P := P_7; clear P_7
  clear hb7 K6
  have hal : Below w7.heap.size w7 (w7.alloc (.cells #[.int .i64 (r0 + dx), .int .i64 (r1 + dy), .int .i64 (r2 + dx), .int .i64 (r3 + dy)] 38)) := (Below.refl _ _).alloc (Nat.le_refl _) _
  have P_7 := Lib.hid (P.out.below hal P.out.lt); clear P; have P := P_7; clear P_7
  have Q : Hid (RcAt (w7.alloc (.cells #[.int .i64 (r0 + dx), .int .i64 (r1 + dy), .int .i64 (r2 + dx), .int .i64 (r3 + dy)] 38)) w7.heap.size ⟨(r0 + dx), (r1 + dy), (r2 + dx), (r3 + dy)⟩) := Lib.hid (RcAt.new w7 ⟨(r0 + dx), (r1 + dy), (r2 + dx), (r3 + dy)⟩ _ rfl)
  have K7a := Lib.hid (K7.out.go hal); clear hal K7
  go_wp2_with fail
  refine (Sx.out _ _ _ _ _ (K7a.out.2.1 _ List.mem_cons_self) (K7a.out.2.1 _ (List.mem_cons_of_mem _ (List.mem_cons_of_mem _ (List.mem_cons_of_mem _ List.mem_cons_self))))).mono ?_
  rintro e8 w8 ⟨rfl, hb8⟩
  have K8 := Lib.hid (K7a.out.go hb8)
  have P_8 := Lib.hid (P.out.below hb8 P.out.lt); clear P; have P := P_8; clear P_8
  have Q_8 := Lib.hid (Q.out.below hb8 Q.out.lt); clear Q; have Q := Q_8; clear Q_8
  clear hb8 K7a
  go_wp2_with fail
  refine (As.out _ _ _ (K8.out.2.1 _ (List.mem_cons_of_mem _ List.mem_cons_self))).mono ?_
  rintro e9 w9 ⟨rfl, hb9⟩
  have K9 := Lib.hid (K8.out.go hb9)
  have P_9 := Lib.hid (P.out.below hb9 P.out.lt); clear P; have P := P_9; clear P_9
  have Q_9 := Lib.hid (Q.out.below hb9 Q.out.lt); clear Q; have Q := Q_9; clear Q_9
  clear hb9 K8
  go_wp2_with fail
  refine (Ax.out _ _ _ (K9.out.2.1 _ (List.mem_cons_of_mem _ (List.mem_cons_of_mem _ (List.mem_cons_of_mem _ List.mem_cons_self))))).mono ?_
  rintro e10 w10 ⟨rfl, hb10⟩
  have K10 := Lib.hid (K9.out.go hb10)
  have P_10 := Lib.hid (P.out.below hb10 P.out.lt); clear P; have P := P_10; clear P_10
  have Q_10 := Lib.hid (Q.out.below hb10 Q.out.lt); clear Q; have Q := Q_10; clear Q_10
  clear hb10 K9
  go_wp2_with fail
  refine (Ps.out _ _ _ (K10.out.2.1 _ (List.mem_cons_of_mem _ List.mem_cons_self))).mono ?_
  rintro e11 w11 ⟨A11, c11, rfl, hb11⟩
  have K11 := Lib.hid (K10.out.go hb11)
  have P_11 := Lib.hid (P.out.below hb11 P.out.lt); clear P; have P := P_11; clear P_11
  have Q_11 := Lib.hid (Q.out.below hb11 Q.out.lt); clear Q; have Q := Q_11; clear Q_11
  clear hb11 K10
  go_wp2_with fail
  refine (Px.out _ _ _ (K11.out.2.1 _ (List.mem_cons_of_mem _ (List.mem_cons_of_mem _ (List.mem_cons_of_mem _ List.mem_cons_self))))).mono ?_
  rintro e12 w12 ⟨A12, c12, rfl, hb12⟩
  have K12 := Lib.hid (K11.out.go hb12)
  have P_12 := Lib.hid (P.out.below hb12 P.out.lt); clear P; have P := P_12; clear P_12
  have Q_12 := Lib.hid (Q.out.below hb12 Q.out.lt); clear Q; have Q := Q_12; clear Q_12
  clear hb12 K11
  have P0 := P.out.cell0; have P1 := P.out.cell1; have P2 := P.out.cell2; have P3 := P.out.cell3; have Pl := P.out.lt
  have Q0 := Q.out.cell0; have Q1 := Q.out.cell1; have Q2 := Q.out.cell2; have Q3 := Q.out.cell3; have Ql := Q.out.lt
  go_wp2_with fail
  refine (Ht.out _ _ _ (K12.out.2.1 _ (List.mem_cons_of_mem _ (List.mem_cons_of_mem _ List.mem_cons_self)))).mono ?_
  rintro e13 w13 ⟨A13, c13, rfl, hr13, hb13⟩
  have K13 := Lib.hid (K12.out.add hb13 hr13)
  clear hb13 K12 hr13
  clear P0 P1 P2 P3 Pl Q0 Q1 Q2 Q3 Ql P Q
  go_wp2_with fail
  refine (Hm.out _ _ _ _ _ (K13.out.2.1 _ (List.mem_cons_of_mem _ (List.mem_cons_of_mem _ List.mem_cons_self))) (K13.out.2.1 _ List.mem_cons_self)).mono ?_
  rintro e14 w14 ⟨A14, c14, rfl, hr14, hb14⟩
  have K14 := Lib.hid (K13.out.add hb14 hr14)
  clear hb14 K13 hr14
  go_wp2_with fail
  refine (Hl.out _ _ _ _ _ (K14.out.2.1 _ (List.mem_cons_of_mem _ (List.mem_cons_of_mem _ (List.mem_cons_of_mem _ (List.mem_cons_of_mem _ (List.mem_cons_of_mem _ List.mem_cons_self)))))) (K14.out.2.1 _ (List.mem_cons_of_mem _ (List.mem_cons_of_mem _ (List.mem_cons_of_mem _ (List.mem_cons_of_mem _ List.mem_cons_self)))))).mono ?_
  rintro e15 w15 ⟨A15, c15, rfl, hr15, hb15⟩
  have K15 := Lib.hid (K14.out.add hb15 hr15)
  clear hb15 K14 hr15
  go_wp2_with fail
  refine (Hz.out _ _ _ (K15.out.2.1 _ List.mem_cons_self)).mono ?_
  rintro e16 w16 ⟨A16, c16, rfl, hr16, hb16⟩
  have K16 := Lib.hid (K15.out.add hb16 hr16)
  clear hb16 K15 hr16
  go_wp2_with fail
  refine (So.out _ _ _ _ _ (K16.out.2.1 _ (List.mem_cons_of_mem _ (List.mem_cons_of_mem _ List.mem_cons_self))) (K16.out.2.1 _ List.mem_cons_self)).mono ?_
  rintro e17 w17 ⟨rfl, hb17⟩
  have K17 := Lib.hid (K16.out.go hb17)
  clear hb17 K16
  go_wp2_with fail
  go_ret
  exact ⟨rfl, K17.out.2.2⟩
set_option maxHeartbeats 80000000 in
theorem shifts_out (Aa Ab : Option Addr) (ca cb na nb nX nY nS nT nO nL np : Nat) (a b X Y S T O L : List Rc) (dx dy r0 r1 r2 r3 ax ek : Int) (w : World) (ha : RIn w Aa ca a) (hb : RIn w Ab cb b) (ma : na ≤ 6) (mb : nb ≤ 6) (hX : 0 < nX) (he : (ek != 0) = true) (i0 : -1048576 ≤ dx ∧ dx ≤ 1048576) (i1 : -1048576 ≤ dy ∧ dy ≤ 1048576) (i2 : 0 ≤ r0 + dx) (i3 : r2 + dx ≤ 1048576) (i4 : 0 ≤ r1 + dy) (i5 : r3 + dy ≤ 1048576) (j0 : 0 ≤ r0 ∧ r0 ≤ 1048576) (j1 : 0 ≤ r1 ∧ r1 ≤ 1048576) (j2 : 0 ≤ r2 ∧ r2 ≤ 1048576) (j3 : 0 ≤ r3 ∧ r3 ≤ 1048576)
    (HSM : Hid (Calls Try.prog 7 #[] w (BlIs true w)))
    (Hx : Hid (∀ (w' : World) (A1 : Option Addr) (c1 : Nat), RIn w' A1 c1 a → Calls Try.prog 8 #[.slice A1 na c1] w' (RR X nX 0 w')))
    (Hy : Hid (∀ (w' : World) (A1 : Option Addr) (c1 : Nat), RIn w' A1 c1 b → Calls Try.prog 8 #[.slice A1 nb c1] w' (RR Y nY 0 w')))
    (Hs : Hid (∀ (w' : World) (A1 : Option Addr) (c1 : Nat), RIn w' A1 c1 X → Calls Try.prog 23 #[.slice A1 nX c1, .int .i64 dx, .int .i64 dy] w' (RR S nS 0 w')))
    (Hb : Hid (∀ (w' : World) (A1 : Option Addr) (c1 : Nat), RIn w' A1 c1 X → Calls Try.prog 24 #[.slice A1 nX c1] w' (RbIs (⟨r0, r1, r2, r3⟩, true) w')))
    (Hk : Hid (∀ (w' : World) (A1 : Option Addr) (c1 : Nat), RIn w' A1 c1 S → Calls Try.prog 23 #[.slice A1 nS c1, .int .i64 (-dx), .int .i64 (-dy)] w' (RR X nX 0 w')))
    (Hq : Hid (∀ (w' : World) (A1 : Option Addr) (c1 : Nat), RIn w' A1 c1 S → Calls Try.prog 24 #[.slice A1 nS c1] w' (RbIs (⟨r0 + dx, r1 + dy, r2 + dx, r3 + dy⟩, true) w')))
    (Sx : Hid (∀ (w' : World) (A1 : Option Addr) (c1 : Nat) (A2 : Option Addr) (c2 : Nat), RIn w' A1 c1 X → RIn w' A2 c2 X → Calls Try.prog 10 #[.slice A1 nX c1, .slice A2 nX c2] w' (BlIs true w')))
    (As : Hid (∀ (w' : World) (A1 : Option Addr) (c1 : Nat), RIn w' A1 c1 S → Calls Try.prog 19 #[.slice A1 nS c1] w' (InIs ax w')))
    (Ax : Hid (∀ (w' : World) (A1 : Option Addr) (c1 : Nat), RIn w' A1 c1 X → Calls Try.prog 19 #[.slice A1 nX c1] w' (InIs ax w')))
    (Ps : Hid (∀ (w' : World) (A1 : Option Addr) (c1 : Nat), RIn w' A1 c1 S → Calls Try.prog 21 #[.slice A1 nS c1] w' (LenIs np w')))
    (Px : Hid (∀ (w' : World) (A1 : Option Addr) (c1 : Nat), RIn w' A1 c1 X → Calls Try.prog 21 #[.slice A1 nX c1] w' (LenIs np w')))
    (Ht : Hid (∀ (w' : World) (A1 : Option Addr) (c1 : Nat), RIn w' A1 c1 Y → Calls Try.prog 23 #[.slice A1 nY c1, .int .i64 dx, .int .i64 dy] w' (RR T nT ek w'))) :
    Calls Try.prog 6 #[.slice Aa na ca, .slice Ab nb cb, .int .i64 dx, .int .i64 dy] w (BlIs true w) := by
  have hne : ((nX : Int) == 0) = false := by simp; omega
  have q0 : IntKind.i64.wrap (r0 + dx) = r0 + dx := IntWalk.i64_in _ (by omega)
  have q1 : IntKind.i64.wrap (r1 + dy) = r1 + dy := IntWalk.i64_in _ (by omega)
  have q2 : IntKind.i64.wrap (r2 + dx) = r2 + dx := IntWalk.i64_in _ (by omega)
  have q3 : IntKind.i64.wrap (r3 + dy) = r3 + dy := IntWalk.i64_in _ (by omega)
  have q4 : IntKind.i64.wrap (-dx) = -dx := IntWalk.i64_in _ (by omega)
  have q5 : IntKind.i64.wrap (-dy) = -dy := IntWalk.i64_in _ (by omega)
  have d0 : decide (-1048576 ≤ dx) = true := decide_eq_true i0.1
  have d1 : decide (dx ≤ 1048576) = true := decide_eq_true i0.2
  have d2 : decide (-1048576 ≤ dy) = true := decide_eq_true i1.1
  have d3 : decide (dy ≤ 1048576) = true := decide_eq_true i1.2
  have d4 : decide (0 ≤ r0 + dx) = true := decide_eq_true i2
  have d5 : decide (r2 + dx ≤ 1048576) = true := decide_eq_true i3
  have d6 : decide (0 ≤ r1 + dy) = true := decide_eq_true i4
  have d7 : decide (r3 + dy ≤ 1048576) = true := decide_eq_true i5
  clear i0 i1 i2 i3 i4 i5 j0 j1 j2 j3
  have KA := Lib.hid ha; have KB := Lib.hid hb
  clear ha hb
  have m1 : ¬ (6 : Int) < (na : Int) := by omega
  have m2 : ¬ (6 : Int) < (nb : Int) := by omega
  go_enter Try.func6, Try.ntmps6
  go_wp2_with fail
  refine HSM.out.mono ?_
  rintro e1 w1 ⟨rfl, hb1⟩
  have K1 := Lib.hid (SK.start2 w w1 hb1 KA.out KB.out)
  clear hb1 KA KB
  go_wp2_with fail
  refine (Hx.out _ _ _ (K1.out.2.1 _ (List.mem_cons_of_mem _ List.mem_cons_self))).mono ?_
  rintro e2 w2 ⟨A2, c2, rfl, hr2, hb2⟩
  have K2 := Lib.hid (K1.out.add hb2 hr2)
  clear hb2 K1 hr2
  go_wp2_with fail
  refine (Hy.out _ _ _ (K2.out.2.1 _ (List.mem_cons_of_mem _ List.mem_cons_self))).mono ?_
  rintro e3 w3 ⟨A3, c3, rfl, hr3, hb3⟩
  have K3 := Lib.hid (K2.out.add hb3 hr3)
  clear hb3 K2 hr3
  go_wp2_with fail
  refine (Hs.out _ _ _ (K3.out.2.1 _ (List.mem_cons_of_mem _ List.mem_cons_self))).mono ?_
  rintro e4 w4 ⟨A4, c4, rfl, hr4, hb4⟩
  have K4 := Lib.hid (K3.out.add hb4 hr4)
  clear hb4 K3 hr4
  go_wp2_with fail
  refine (Hb.out _ _ _ (K4.out.2.1 _ (List.mem_cons_of_mem _ (List.mem_cons_of_mem _ List.mem_cons_self)))).mono ?_
  rintro e5 w5 ⟨rfl, hb5⟩
  have K5 := Lib.hid (K4.out.go hb5)
  clear hb5 K4
  have hal : Below w5.heap.size w5 (w5.alloc (.cells #[.int .i64 r0, .int .i64 r1, .int .i64 r2, .int .i64 r3] 38)) := (Below.refl _ _).alloc (Nat.le_refl _) _
  have P : Hid (RcAt (w5.alloc (.cells #[.int .i64 r0, .int .i64 r1, .int .i64 r2, .int .i64 r3] 38)) w5.heap.size ⟨r0, r1, r2, r3⟩) := Lib.hid (RcAt.new w5 ⟨r0, r1, r2, r3⟩ _ rfl)
  have K5a := Lib.hid (K5.out.go hal); clear hal K5
  go_wp2_with fail
  refine (Hk.out _ _ _ (K5a.out.2.1 _ List.mem_cons_self)).mono ?_
  rintro e6 w6 ⟨A6, c6, rfl, hr6, hb6⟩
  have K6 := Lib.hid (K5a.out.add hb6 hr6)
  have P_6 := Lib.hid (P.out.below hb6 P.out.lt); clear P; have P := P_6; clear P_6
  clear hb6 K5a hr6
  go_wp2_with fail
  refine (Hq.out _ _ _ (K6.out.2.1 _ (List.mem_cons_of_mem _ List.mem_cons_self))).mono ?_
  rintro e7 w7 ⟨rfl, hb7⟩
  have K7 := Lib.hid (K6.out.go hb7)
  have P_7 := Lib.hid (P.out.below hb7 P.out.lt); clear P; have P := P_7; clear P_7
  clear hb7 K6
  have hal : Below w7.heap.size w7 (w7.alloc (.cells #[.int .i64 (r0 + dx), .int .i64 (r1 + dy), .int .i64 (r2 + dx), .int .i64 (r3 + dy)] 38)) := (Below.refl _ _).alloc (Nat.le_refl _) _
  have P_7 := Lib.hid (P.out.below hal P.out.lt); clear P; have P := P_7; clear P_7
  have Q : Hid (RcAt (w7.alloc (.cells #[.int .i64 (r0 + dx), .int .i64 (r1 + dy), .int .i64 (r2 + dx), .int .i64 (r3 + dy)] 38)) w7.heap.size ⟨(r0 + dx), (r1 + dy), (r2 + dx), (r3 + dy)⟩) := Lib.hid (RcAt.new w7 ⟨(r0 + dx), (r1 + dy), (r2 + dx), (r3 + dy)⟩ _ rfl)
  have K7a := Lib.hid (K7.out.go hal); clear hal K7
  go_wp2_with fail
  refine (Sx.out _ _ _ _ _ (K7a.out.2.1 _ List.mem_cons_self) (K7a.out.2.1 _ (List.mem_cons_of_mem _ (List.mem_cons_of_mem _ (List.mem_cons_of_mem _ List.mem_cons_self))))).mono ?_
  rintro e8 w8 ⟨rfl, hb8⟩
  have K8 := Lib.hid (K7a.out.go hb8)
  have P_8 := Lib.hid (P.out.below hb8 P.out.lt); clear P; have P := P_8; clear P_8
  have Q_8 := Lib.hid (Q.out.below hb8 Q.out.lt); clear Q; have Q := Q_8; clear Q_8
  clear hb8 K7a
  go_wp2_with fail
  refine (As.out _ _ _ (K8.out.2.1 _ (List.mem_cons_of_mem _ List.mem_cons_self))).mono ?_
  rintro e9 w9 ⟨rfl, hb9⟩
  have K9 := Lib.hid (K8.out.go hb9)
  have P_9 := Lib.hid (P.out.below hb9 P.out.lt); clear P; have P := P_9; clear P_9
  have Q_9 := Lib.hid (Q.out.below hb9 Q.out.lt); clear Q; have Q := Q_9; clear Q_9
  clear hb9 K8
  go_wp2_with fail
  refine (Ax.out _ _ _ (K9.out.2.1 _ (List.mem_cons_of_mem _ (List.mem_cons_of_mem _ (List.mem_cons_of_mem _ List.mem_cons_self))))).mono ?_
  rintro e10 w10 ⟨rfl, hb10⟩
  have K10 := Lib.hid (K9.out.go hb10)
  have P_10 := Lib.hid (P.out.below hb10 P.out.lt); clear P; have P := P_10; clear P_10
  have Q_10 := Lib.hid (Q.out.below hb10 Q.out.lt); clear Q; have Q := Q_10; clear Q_10
  clear hb10 K9
  go_wp2_with fail
  refine (Ps.out _ _ _ (K10.out.2.1 _ (List.mem_cons_of_mem _ List.mem_cons_self))).mono ?_
  rintro e11 w11 ⟨A11, c11, rfl, hb11⟩
  have K11 := Lib.hid (K10.out.go hb11)
  have P_11 := Lib.hid (P.out.below hb11 P.out.lt); clear P; have P := P_11; clear P_11
  have Q_11 := Lib.hid (Q.out.below hb11 Q.out.lt); clear Q; have Q := Q_11; clear Q_11
  clear hb11 K10
  go_wp2_with fail
  refine (Px.out _ _ _ (K11.out.2.1 _ (List.mem_cons_of_mem _ (List.mem_cons_of_mem _ (List.mem_cons_of_mem _ List.mem_cons_self))))).mono ?_
  rintro e12 w12 ⟨A12, c12, rfl, hb12⟩
  have K12 := Lib.hid (K11.out.go hb12)
  have P_12 := Lib.hid (P.out.below hb12 P.out.lt); clear P; have P := P_12; clear P_12
  have Q_12 := Lib.hid (Q.out.below hb12 Q.out.lt); clear Q; have Q := Q_12; clear Q_12
  clear hb12 K11
  have P0 := P.out.cell0; have P1 := P.out.cell1; have P2 := P.out.cell2; have P3 := P.out.cell3; have Pl := P.out.lt
  have Q0 := Q.out.cell0; have Q1 := Q.out.cell1; have Q2 := Q.out.cell2; have Q3 := Q.out.cell3; have Ql := Q.out.lt
  go_wp2_with fail
  refine (Ht.out _ _ _ (K12.out.2.1 _ (List.mem_cons_of_mem _ (List.mem_cons_of_mem _ List.mem_cons_self)))).mono ?_
  rintro e13 w13 ⟨A13, c13, rfl, hr13, hb13⟩
  have K13 := Lib.hid (K12.out.add hb13 hr13)
  clear hb13 K12 hr13
  go_wp2_with fail
  go_ret
  exact ⟨rfl, K13.out.2.2⟩
set_option maxHeartbeats 80000000 in
theorem shifts_no (Aa Ab : Option Addr) (ca cb na nb nX nY nS nT nO nL np : Nat) (a b X Y S T O L : List Rc) (dx dy r0 r1 r2 r3 ax ek : Int) (w : World) (ha : RIn w Aa ca a) (hb : RIn w Ab cb b) (ma : na ≤ 6) (mb : nb ≤ 6) (hX : 0 < nX) (hS : nS = 0) (hbox : (0 ≤ r0 ∧ r0 ≤ 1048576) ∧ (0 ≤ r1 ∧ r1 ≤ 1048576) ∧ (0 ≤ r2 ∧ r2 ≤ 1048576) ∧ (0 ≤ r3 ∧ r3 ≤ 1048576)) (hfit : ¬ ((-1048576 ≤ dx ∧ dx ≤ 1048576) ∧ (-1048576 ≤ dy ∧ dy ≤ 1048576) ∧ 0 ≤ r0 + dx ∧ r2 + dx ≤ 1048576 ∧ 0 ≤ r1 + dy ∧ r3 + dy ≤ 1048576))
    (HSM : Hid (Calls Try.prog 7 #[] w (BlIs true w)))
    (Hx : Hid (∀ (w' : World) (A1 : Option Addr) (c1 : Nat), RIn w' A1 c1 a → Calls Try.prog 8 #[.slice A1 na c1] w' (RR X nX 0 w')))
    (Hy : Hid (∀ (w' : World) (A1 : Option Addr) (c1 : Nat), RIn w' A1 c1 b → Calls Try.prog 8 #[.slice A1 nb c1] w' (RR Y nY 0 w')))
    (Hs : Hid (∀ (w' : World) (A1 : Option Addr) (c1 : Nat), RIn w' A1 c1 X → Calls Try.prog 23 #[.slice A1 nX c1, .int .i64 dx, .int .i64 dy] w' (RR S nS 3 w')))
    (Hb : Hid (∀ (w' : World) (A1 : Option Addr) (c1 : Nat), RIn w' A1 c1 X → Calls Try.prog 24 #[.slice A1 nX c1] w' (RbIs (⟨r0, r1, r2, r3⟩, true) w'))) :
    Calls Try.prog 6 #[.slice Aa na ca, .slice Ab nb cb, .int .i64 dx, .int .i64 dy] w (BlIs true w) := by
  have hne : ((nX : Int) == 0) = false := by simp; omega
  obtain ⟨k0, k1, k2, k3⟩ := hbox
  subst hS
  by_cases g0 : -1048576 ≤ dx
  · have d0 : decide (-1048576 ≤ dx) = true := decide_eq_true g0
    by_cases g1 : dx ≤ 1048576
    · have d1 : decide (dx ≤ 1048576) = true := decide_eq_true g1
      by_cases g2 : -1048576 ≤ dy
      · have d2 : decide (-1048576 ≤ dy) = true := decide_eq_true g2
        by_cases g3 : dy ≤ 1048576
        · have d3 : decide (dy ≤ 1048576) = true := decide_eq_true g3
          have q0 : IntKind.i64.wrap (r0 + dx) = r0 + dx := IntWalk.i64_in _ (by omega)
          have q1 : IntKind.i64.wrap (r1 + dy) = r1 + dy := IntWalk.i64_in _ (by omega)
          have q2 : IntKind.i64.wrap (r2 + dx) = r2 + dx := IntWalk.i64_in _ (by omega)
          have q3 : IntKind.i64.wrap (r3 + dy) = r3 + dy := IntWalk.i64_in _ (by omega)
          by_cases g4 : 0 ≤ r0 + dx
          · have d4 : decide (0 ≤ r0 + dx) = true := decide_eq_true g4
            by_cases g5 : r2 + dx ≤ 1048576
            · have d5 : decide (r2 + dx ≤ 1048576) = true := decide_eq_true g5
              by_cases g6 : 0 ≤ r1 + dy
              · have d6 : decide (0 ≤ r1 + dy) = true := decide_eq_true g6
                by_cases g7 : r3 + dy ≤ 1048576
                · have d7 : decide (r3 + dy ≤ 1048576) = true := decide_eq_true g7
                  exact absurd ⟨⟨g0, g1⟩, ⟨g2, g3⟩, g4, g5, g6, g7⟩ hfit
                · have d7 : decide (r3 + dy ≤ 1048576) = false := decide_eq_false g7
                  clear hfit g7 g0 g1 g2 g3 g4 g5 g6 k0 k1 k2 k3
                  have KA := Lib.hid ha; have KB := Lib.hid hb
                  clear ha hb
                  have m1 : ¬ (6 : Int) < (na : Int) := by omega
                  have m2 : ¬ (6 : Int) < (nb : Int) := by omega
                  go_enter Try.func6, Try.ntmps6
                  go_wp2_with fail
                  refine HSM.out.mono ?_
                  rintro e1 w1 ⟨rfl, hb1⟩
                  have K1 := Lib.hid (SK.start2 w w1 hb1 KA.out KB.out)
                  clear hb1 KA KB
                  go_wp2_with fail
                  refine (Hx.out _ _ _ (K1.out.2.1 _ (List.mem_cons_of_mem _ List.mem_cons_self))).mono ?_
                  rintro e2 w2 ⟨A2, c2, rfl, hr2, hb2⟩
                  have K2 := Lib.hid (K1.out.add hb2 hr2)
                  clear hb2 K1 hr2
                  go_wp2_with fail
                  refine (Hy.out _ _ _ (K2.out.2.1 _ (List.mem_cons_of_mem _ List.mem_cons_self))).mono ?_
                  rintro e3 w3 ⟨A3, c3, rfl, hr3, hb3⟩
                  have K3 := Lib.hid (K2.out.add hb3 hr3)
                  clear hb3 K2 hr3
                  go_wp2_with fail
                  refine (Hs.out _ _ _ (K3.out.2.1 _ (List.mem_cons_of_mem _ List.mem_cons_self))).mono ?_
                  rintro e4 w4 ⟨A4, c4, rfl, hr4, hb4⟩
                  have K4 := Lib.hid (K3.out.add hb4 hr4)
                  clear hb4 K3 hr4
                  go_wp2_with fail
                  refine (Hb.out _ _ _ (K4.out.2.1 _ (List.mem_cons_of_mem _ (List.mem_cons_of_mem _ List.mem_cons_self)))).mono ?_
                  rintro e5 w5 ⟨rfl, hb5⟩
                  have K5 := Lib.hid (K4.out.go hb5)
                  clear hb5 K4
                  have hal : Below w5.heap.size w5 (w5.alloc (.cells #[.int .i64 r0, .int .i64 r1, .int .i64 r2, .int .i64 r3] 38)) := (Below.refl _ _).alloc (Nat.le_refl _) _
                  have P : Hid (RcAt (w5.alloc (.cells #[.int .i64 r0, .int .i64 r1, .int .i64 r2, .int .i64 r3] 38)) w5.heap.size ⟨r0, r1, r2, r3⟩) := Lib.hid (RcAt.new w5 ⟨r0, r1, r2, r3⟩ _ rfl)
                  have K5a := Lib.hid (K5.out.go hal); clear hal K5
                  go_wp2_with fail
                  go_ret
                  exact ⟨rfl, K5a.out.2.2⟩
              · have d6 : decide (0 ≤ r1 + dy) = false := decide_eq_false g6
                clear hfit g6 g0 g1 g2 g3 g4 g5 k0 k1 k2 k3
                have KA := Lib.hid ha; have KB := Lib.hid hb
                clear ha hb
                have m1 : ¬ (6 : Int) < (na : Int) := by omega
                have m2 : ¬ (6 : Int) < (nb : Int) := by omega
                go_enter Try.func6, Try.ntmps6
                go_wp2_with fail
                refine HSM.out.mono ?_
                rintro e1 w1 ⟨rfl, hb1⟩
                have K1 := Lib.hid (SK.start2 w w1 hb1 KA.out KB.out)
                clear hb1 KA KB
                go_wp2_with fail
                refine (Hx.out _ _ _ (K1.out.2.1 _ (List.mem_cons_of_mem _ List.mem_cons_self))).mono ?_
                rintro e2 w2 ⟨A2, c2, rfl, hr2, hb2⟩
                have K2 := Lib.hid (K1.out.add hb2 hr2)
                clear hb2 K1 hr2
                go_wp2_with fail
                refine (Hy.out _ _ _ (K2.out.2.1 _ (List.mem_cons_of_mem _ List.mem_cons_self))).mono ?_
                rintro e3 w3 ⟨A3, c3, rfl, hr3, hb3⟩
                have K3 := Lib.hid (K2.out.add hb3 hr3)
                clear hb3 K2 hr3
                go_wp2_with fail
                refine (Hs.out _ _ _ (K3.out.2.1 _ (List.mem_cons_of_mem _ List.mem_cons_self))).mono ?_
                rintro e4 w4 ⟨A4, c4, rfl, hr4, hb4⟩
                have K4 := Lib.hid (K3.out.add hb4 hr4)
                clear hb4 K3 hr4
                go_wp2_with fail
                refine (Hb.out _ _ _ (K4.out.2.1 _ (List.mem_cons_of_mem _ (List.mem_cons_of_mem _ List.mem_cons_self)))).mono ?_
                rintro e5 w5 ⟨rfl, hb5⟩
                have K5 := Lib.hid (K4.out.go hb5)
                clear hb5 K4
                have hal : Below w5.heap.size w5 (w5.alloc (.cells #[.int .i64 r0, .int .i64 r1, .int .i64 r2, .int .i64 r3] 38)) := (Below.refl _ _).alloc (Nat.le_refl _) _
                have P : Hid (RcAt (w5.alloc (.cells #[.int .i64 r0, .int .i64 r1, .int .i64 r2, .int .i64 r3] 38)) w5.heap.size ⟨r0, r1, r2, r3⟩) := Lib.hid (RcAt.new w5 ⟨r0, r1, r2, r3⟩ _ rfl)
                have K5a := Lib.hid (K5.out.go hal); clear hal K5
                go_wp2_with fail
                go_ret
                exact ⟨rfl, K5a.out.2.2⟩
            · have d5 : decide (r2 + dx ≤ 1048576) = false := decide_eq_false g5
              clear hfit g5 g0 g1 g2 g3 g4 k0 k1 k2 k3
              have KA := Lib.hid ha; have KB := Lib.hid hb
              clear ha hb
              have m1 : ¬ (6 : Int) < (na : Int) := by omega
              have m2 : ¬ (6 : Int) < (nb : Int) := by omega
              go_enter Try.func6, Try.ntmps6
              go_wp2_with fail
              refine HSM.out.mono ?_
              rintro e1 w1 ⟨rfl, hb1⟩
              have K1 := Lib.hid (SK.start2 w w1 hb1 KA.out KB.out)
              clear hb1 KA KB
              go_wp2_with fail
              refine (Hx.out _ _ _ (K1.out.2.1 _ (List.mem_cons_of_mem _ List.mem_cons_self))).mono ?_
              rintro e2 w2 ⟨A2, c2, rfl, hr2, hb2⟩
              have K2 := Lib.hid (K1.out.add hb2 hr2)
              clear hb2 K1 hr2
              go_wp2_with fail
              refine (Hy.out _ _ _ (K2.out.2.1 _ (List.mem_cons_of_mem _ List.mem_cons_self))).mono ?_
              rintro e3 w3 ⟨A3, c3, rfl, hr3, hb3⟩
              have K3 := Lib.hid (K2.out.add hb3 hr3)
              clear hb3 K2 hr3
              go_wp2_with fail
              refine (Hs.out _ _ _ (K3.out.2.1 _ (List.mem_cons_of_mem _ List.mem_cons_self))).mono ?_
              rintro e4 w4 ⟨A4, c4, rfl, hr4, hb4⟩
              have K4 := Lib.hid (K3.out.add hb4 hr4)
              clear hb4 K3 hr4
              go_wp2_with fail
              refine (Hb.out _ _ _ (K4.out.2.1 _ (List.mem_cons_of_mem _ (List.mem_cons_of_mem _ List.mem_cons_self)))).mono ?_
              rintro e5 w5 ⟨rfl, hb5⟩
              have K5 := Lib.hid (K4.out.go hb5)
              clear hb5 K4
              have hal : Below w5.heap.size w5 (w5.alloc (.cells #[.int .i64 r0, .int .i64 r1, .int .i64 r2, .int .i64 r3] 38)) := (Below.refl _ _).alloc (Nat.le_refl _) _
              have P : Hid (RcAt (w5.alloc (.cells #[.int .i64 r0, .int .i64 r1, .int .i64 r2, .int .i64 r3] 38)) w5.heap.size ⟨r0, r1, r2, r3⟩) := Lib.hid (RcAt.new w5 ⟨r0, r1, r2, r3⟩ _ rfl)
              have K5a := Lib.hid (K5.out.go hal); clear hal K5
              go_wp2_with fail
              go_ret
              exact ⟨rfl, K5a.out.2.2⟩
          · have d4 : decide (0 ≤ r0 + dx) = false := decide_eq_false g4
            clear hfit g4 g0 g1 g2 g3 k0 k1 k2 k3
            have KA := Lib.hid ha; have KB := Lib.hid hb
            clear ha hb
            have m1 : ¬ (6 : Int) < (na : Int) := by omega
            have m2 : ¬ (6 : Int) < (nb : Int) := by omega
            go_enter Try.func6, Try.ntmps6
            go_wp2_with fail
            refine HSM.out.mono ?_
            rintro e1 w1 ⟨rfl, hb1⟩
            have K1 := Lib.hid (SK.start2 w w1 hb1 KA.out KB.out)
            clear hb1 KA KB
            go_wp2_with fail
            refine (Hx.out _ _ _ (K1.out.2.1 _ (List.mem_cons_of_mem _ List.mem_cons_self))).mono ?_
            rintro e2 w2 ⟨A2, c2, rfl, hr2, hb2⟩
            have K2 := Lib.hid (K1.out.add hb2 hr2)
            clear hb2 K1 hr2
            go_wp2_with fail
            refine (Hy.out _ _ _ (K2.out.2.1 _ (List.mem_cons_of_mem _ List.mem_cons_self))).mono ?_
            rintro e3 w3 ⟨A3, c3, rfl, hr3, hb3⟩
            have K3 := Lib.hid (K2.out.add hb3 hr3)
            clear hb3 K2 hr3
            go_wp2_with fail
            refine (Hs.out _ _ _ (K3.out.2.1 _ (List.mem_cons_of_mem _ List.mem_cons_self))).mono ?_
            rintro e4 w4 ⟨A4, c4, rfl, hr4, hb4⟩
            have K4 := Lib.hid (K3.out.add hb4 hr4)
            clear hb4 K3 hr4
            go_wp2_with fail
            refine (Hb.out _ _ _ (K4.out.2.1 _ (List.mem_cons_of_mem _ (List.mem_cons_of_mem _ List.mem_cons_self)))).mono ?_
            rintro e5 w5 ⟨rfl, hb5⟩
            have K5 := Lib.hid (K4.out.go hb5)
            clear hb5 K4
            have hal : Below w5.heap.size w5 (w5.alloc (.cells #[.int .i64 r0, .int .i64 r1, .int .i64 r2, .int .i64 r3] 38)) := (Below.refl _ _).alloc (Nat.le_refl _) _
            have P : Hid (RcAt (w5.alloc (.cells #[.int .i64 r0, .int .i64 r1, .int .i64 r2, .int .i64 r3] 38)) w5.heap.size ⟨r0, r1, r2, r3⟩) := Lib.hid (RcAt.new w5 ⟨r0, r1, r2, r3⟩ _ rfl)
            have K5a := Lib.hid (K5.out.go hal); clear hal K5
            go_wp2_with fail
            go_ret
            exact ⟨rfl, K5a.out.2.2⟩
        · have d3 : decide (dy ≤ 1048576) = false := decide_eq_false g3
          clear hfit g3 g0 g1 g2 k0 k1 k2 k3
          have KA := Lib.hid ha; have KB := Lib.hid hb
          clear ha hb
          have m1 : ¬ (6 : Int) < (na : Int) := by omega
          have m2 : ¬ (6 : Int) < (nb : Int) := by omega
          go_enter Try.func6, Try.ntmps6
          go_wp2_with fail
          refine HSM.out.mono ?_
          rintro e1 w1 ⟨rfl, hb1⟩
          have K1 := Lib.hid (SK.start2 w w1 hb1 KA.out KB.out)
          clear hb1 KA KB
          go_wp2_with fail
          refine (Hx.out _ _ _ (K1.out.2.1 _ (List.mem_cons_of_mem _ List.mem_cons_self))).mono ?_
          rintro e2 w2 ⟨A2, c2, rfl, hr2, hb2⟩
          have K2 := Lib.hid (K1.out.add hb2 hr2)
          clear hb2 K1 hr2
          go_wp2_with fail
          refine (Hy.out _ _ _ (K2.out.2.1 _ (List.mem_cons_of_mem _ List.mem_cons_self))).mono ?_
          rintro e3 w3 ⟨A3, c3, rfl, hr3, hb3⟩
          have K3 := Lib.hid (K2.out.add hb3 hr3)
          clear hb3 K2 hr3
          go_wp2_with fail
          refine (Hs.out _ _ _ (K3.out.2.1 _ (List.mem_cons_of_mem _ List.mem_cons_self))).mono ?_
          rintro e4 w4 ⟨A4, c4, rfl, hr4, hb4⟩
          have K4 := Lib.hid (K3.out.add hb4 hr4)
          clear hb4 K3 hr4
          go_wp2_with fail
          refine (Hb.out _ _ _ (K4.out.2.1 _ (List.mem_cons_of_mem _ (List.mem_cons_of_mem _ List.mem_cons_self)))).mono ?_
          rintro e5 w5 ⟨rfl, hb5⟩
          have K5 := Lib.hid (K4.out.go hb5)
          clear hb5 K4
          have hal : Below w5.heap.size w5 (w5.alloc (.cells #[.int .i64 r0, .int .i64 r1, .int .i64 r2, .int .i64 r3] 38)) := (Below.refl _ _).alloc (Nat.le_refl _) _
          have P : Hid (RcAt (w5.alloc (.cells #[.int .i64 r0, .int .i64 r1, .int .i64 r2, .int .i64 r3] 38)) w5.heap.size ⟨r0, r1, r2, r3⟩) := Lib.hid (RcAt.new w5 ⟨r0, r1, r2, r3⟩ _ rfl)
          have K5a := Lib.hid (K5.out.go hal); clear hal K5
          go_wp2_with fail
          go_ret
          exact ⟨rfl, K5a.out.2.2⟩
      · have d2 : decide (-1048576 ≤ dy) = false := decide_eq_false g2
        clear hfit g2 g0 g1 k0 k1 k2 k3
        have KA := Lib.hid ha; have KB := Lib.hid hb
        clear ha hb
        have m1 : ¬ (6 : Int) < (na : Int) := by omega
        have m2 : ¬ (6 : Int) < (nb : Int) := by omega
        go_enter Try.func6, Try.ntmps6
        go_wp2_with fail
        refine HSM.out.mono ?_
        rintro e1 w1 ⟨rfl, hb1⟩
        have K1 := Lib.hid (SK.start2 w w1 hb1 KA.out KB.out)
        clear hb1 KA KB
        go_wp2_with fail
        refine (Hx.out _ _ _ (K1.out.2.1 _ (List.mem_cons_of_mem _ List.mem_cons_self))).mono ?_
        rintro e2 w2 ⟨A2, c2, rfl, hr2, hb2⟩
        have K2 := Lib.hid (K1.out.add hb2 hr2)
        clear hb2 K1 hr2
        go_wp2_with fail
        refine (Hy.out _ _ _ (K2.out.2.1 _ (List.mem_cons_of_mem _ List.mem_cons_self))).mono ?_
        rintro e3 w3 ⟨A3, c3, rfl, hr3, hb3⟩
        have K3 := Lib.hid (K2.out.add hb3 hr3)
        clear hb3 K2 hr3
        go_wp2_with fail
        refine (Hs.out _ _ _ (K3.out.2.1 _ (List.mem_cons_of_mem _ List.mem_cons_self))).mono ?_
        rintro e4 w4 ⟨A4, c4, rfl, hr4, hb4⟩
        have K4 := Lib.hid (K3.out.add hb4 hr4)
        clear hb4 K3 hr4
        go_wp2_with fail
        refine (Hb.out _ _ _ (K4.out.2.1 _ (List.mem_cons_of_mem _ (List.mem_cons_of_mem _ List.mem_cons_self)))).mono ?_
        rintro e5 w5 ⟨rfl, hb5⟩
        have K5 := Lib.hid (K4.out.go hb5)
        clear hb5 K4
        have hal : Below w5.heap.size w5 (w5.alloc (.cells #[.int .i64 r0, .int .i64 r1, .int .i64 r2, .int .i64 r3] 38)) := (Below.refl _ _).alloc (Nat.le_refl _) _
        have P : Hid (RcAt (w5.alloc (.cells #[.int .i64 r0, .int .i64 r1, .int .i64 r2, .int .i64 r3] 38)) w5.heap.size ⟨r0, r1, r2, r3⟩) := Lib.hid (RcAt.new w5 ⟨r0, r1, r2, r3⟩ _ rfl)
        have K5a := Lib.hid (K5.out.go hal); clear hal K5
        go_wp2_with fail
        go_ret
        exact ⟨rfl, K5a.out.2.2⟩
    · have d1 : decide (dx ≤ 1048576) = false := decide_eq_false g1
      clear hfit g1 g0 k0 k1 k2 k3
      have KA := Lib.hid ha; have KB := Lib.hid hb
      clear ha hb
      have m1 : ¬ (6 : Int) < (na : Int) := by omega
      have m2 : ¬ (6 : Int) < (nb : Int) := by omega
      go_enter Try.func6, Try.ntmps6
      go_wp2_with fail
      refine HSM.out.mono ?_
      rintro e1 w1 ⟨rfl, hb1⟩
      have K1 := Lib.hid (SK.start2 w w1 hb1 KA.out KB.out)
      clear hb1 KA KB
      go_wp2_with fail
      refine (Hx.out _ _ _ (K1.out.2.1 _ (List.mem_cons_of_mem _ List.mem_cons_self))).mono ?_
      rintro e2 w2 ⟨A2, c2, rfl, hr2, hb2⟩
      have K2 := Lib.hid (K1.out.add hb2 hr2)
      clear hb2 K1 hr2
      go_wp2_with fail
      refine (Hy.out _ _ _ (K2.out.2.1 _ (List.mem_cons_of_mem _ List.mem_cons_self))).mono ?_
      rintro e3 w3 ⟨A3, c3, rfl, hr3, hb3⟩
      have K3 := Lib.hid (K2.out.add hb3 hr3)
      clear hb3 K2 hr3
      go_wp2_with fail
      refine (Hs.out _ _ _ (K3.out.2.1 _ (List.mem_cons_of_mem _ List.mem_cons_self))).mono ?_
      rintro e4 w4 ⟨A4, c4, rfl, hr4, hb4⟩
      have K4 := Lib.hid (K3.out.add hb4 hr4)
      clear hb4 K3 hr4
      go_wp2_with fail
      refine (Hb.out _ _ _ (K4.out.2.1 _ (List.mem_cons_of_mem _ (List.mem_cons_of_mem _ List.mem_cons_self)))).mono ?_
      rintro e5 w5 ⟨rfl, hb5⟩
      have K5 := Lib.hid (K4.out.go hb5)
      clear hb5 K4
      have hal : Below w5.heap.size w5 (w5.alloc (.cells #[.int .i64 r0, .int .i64 r1, .int .i64 r2, .int .i64 r3] 38)) := (Below.refl _ _).alloc (Nat.le_refl _) _
      have P : Hid (RcAt (w5.alloc (.cells #[.int .i64 r0, .int .i64 r1, .int .i64 r2, .int .i64 r3] 38)) w5.heap.size ⟨r0, r1, r2, r3⟩) := Lib.hid (RcAt.new w5 ⟨r0, r1, r2, r3⟩ _ rfl)
      have K5a := Lib.hid (K5.out.go hal); clear hal K5
      go_wp2_with fail
      go_ret
      exact ⟨rfl, K5a.out.2.2⟩
  · have d0 : decide (-1048576 ≤ dx) = false := decide_eq_false g0
    clear hfit g0  k0 k1 k2 k3
    have KA := Lib.hid ha; have KB := Lib.hid hb
    clear ha hb
    have m1 : ¬ (6 : Int) < (na : Int) := by omega
    have m2 : ¬ (6 : Int) < (nb : Int) := by omega
    go_enter Try.func6, Try.ntmps6
    go_wp2_with fail
    refine HSM.out.mono ?_
    rintro e1 w1 ⟨rfl, hb1⟩
    have K1 := Lib.hid (SK.start2 w w1 hb1 KA.out KB.out)
    clear hb1 KA KB
    go_wp2_with fail
    refine (Hx.out _ _ _ (K1.out.2.1 _ (List.mem_cons_of_mem _ List.mem_cons_self))).mono ?_
    rintro e2 w2 ⟨A2, c2, rfl, hr2, hb2⟩
    have K2 := Lib.hid (K1.out.add hb2 hr2)
    clear hb2 K1 hr2
    go_wp2_with fail
    refine (Hy.out _ _ _ (K2.out.2.1 _ (List.mem_cons_of_mem _ List.mem_cons_self))).mono ?_
    rintro e3 w3 ⟨A3, c3, rfl, hr3, hb3⟩
    have K3 := Lib.hid (K2.out.add hb3 hr3)
    clear hb3 K2 hr3
    go_wp2_with fail
    refine (Hs.out _ _ _ (K3.out.2.1 _ (List.mem_cons_of_mem _ List.mem_cons_self))).mono ?_
    rintro e4 w4 ⟨A4, c4, rfl, hr4, hb4⟩
    have K4 := Lib.hid (K3.out.add hb4 hr4)
    clear hb4 K3 hr4
    go_wp2_with fail
    refine (Hb.out _ _ _ (K4.out.2.1 _ (List.mem_cons_of_mem _ (List.mem_cons_of_mem _ List.mem_cons_self)))).mono ?_
    rintro e5 w5 ⟨rfl, hb5⟩
    have K5 := Lib.hid (K4.out.go hb5)
    clear hb5 K4
    have hal : Below w5.heap.size w5 (w5.alloc (.cells #[.int .i64 r0, .int .i64 r1, .int .i64 r2, .int .i64 r3] 38)) := (Below.refl _ _).alloc (Nat.le_refl _) _
    have P : Hid (RcAt (w5.alloc (.cells #[.int .i64 r0, .int .i64 r1, .int .i64 r2, .int .i64 r3] 38)) w5.heap.size ⟨r0, r1, r2, r3⟩) := Lib.hid (RcAt.new w5 ⟨r0, r1, r2, r3⟩ _ rfl)
    have K5a := Lib.hid (K5.out.go hal); clear hal K5
    go_wp2_with fail
    go_ret
    exact ⟨rfl, K5a.out.2.2⟩
set_option maxHeartbeats 80000000 in
theorem shifts_nil (Aa Ab : Option Addr) (ca cb na nb nX nY nS nT nO nL np : Nat) (a b X Y S T O L : List Rc) (dx dy r0 r1 r2 r3 ax ek : Int) (w : World) (ha : RIn w Aa ca a) (hb : RIn w Ab cb b) (ma : na ≤ 6) (mb : nb ≤ 6) (hX : nX = 0) (hS : nS = 0)
    (HSM : Hid (Calls Try.prog 7 #[] w (BlIs true w)))
    (Hx : Hid (∀ (w' : World) (A1 : Option Addr) (c1 : Nat), RIn w' A1 c1 a → Calls Try.prog 8 #[.slice A1 na c1] w' (RR X nX 0 w')))
    (Hy : Hid (∀ (w' : World) (A1 : Option Addr) (c1 : Nat), RIn w' A1 c1 b → Calls Try.prog 8 #[.slice A1 nb c1] w' (RR Y nY 0 w')))
    (Hs : Hid (∀ (w' : World) (A1 : Option Addr) (c1 : Nat), RIn w' A1 c1 X → Calls Try.prog 23 #[.slice A1 nX c1, .int .i64 dx, .int .i64 dy] w' (RR S nS 0 w'))) :
    Calls Try.prog 6 #[.slice Aa na ca, .slice Ab nb cb, .int .i64 dx, .int .i64 dy] w (BlIs true w) := by
  subst hX; subst hS
  have KA := Lib.hid ha; have KB := Lib.hid hb
  clear ha hb
  have m1 : ¬ (6 : Int) < (na : Int) := by omega
  have m2 : ¬ (6 : Int) < (nb : Int) := by omega
  go_enter Try.func6, Try.ntmps6
  go_wp2_with fail
  refine HSM.out.mono ?_
  rintro e1 w1 ⟨rfl, hb1⟩
  have K1 := Lib.hid (SK.start2 w w1 hb1 KA.out KB.out)
  clear hb1 KA KB
  go_wp2_with fail
  refine (Hx.out _ _ _ (K1.out.2.1 _ (List.mem_cons_of_mem _ List.mem_cons_self))).mono ?_
  rintro e2 w2 ⟨A2, c2, rfl, hr2, hb2⟩
  have K2 := Lib.hid (K1.out.add hb2 hr2)
  clear hb2 K1 hr2
  go_wp2_with fail
  refine (Hy.out _ _ _ (K2.out.2.1 _ (List.mem_cons_of_mem _ List.mem_cons_self))).mono ?_
  rintro e3 w3 ⟨A3, c3, rfl, hr3, hb3⟩
  have K3 := Lib.hid (K2.out.add hb3 hr3)
  clear hb3 K2 hr3
  go_wp2_with fail
  refine (Hs.out _ _ _ (K3.out.2.1 _ (List.mem_cons_of_mem _ List.mem_cons_self))).mono ?_
  rintro e4 w4 ⟨A4, c4, rfl, hr4, hb4⟩
  have K4 := Lib.hid (K3.out.add hb4 hr4)
  clear hb4 K3 hr4
  go_wp2_with fail
  go_ret
  exact ⟨rfl, K4.out.2.2⟩
set_option maxHeartbeats 80000000 in
theorem shifts_err (Aa Ab : Option Addr) (ca cb na nb nX nY nS nT nO nL np : Nat) (a b X Y S T O L : List Rc) (dx dy r0 r1 r2 r3 ax ek : Int) (w : World) (ha : RIn w Aa ca a) (hb : RIn w Ab cb b) (ma : na ≤ 6) (mb : nb ≤ 6) (er ef : Int) (hee : (er != 0) = true ∨ (er != 0) = false ∧ (ef != 0) = true)
    (HSM : Hid (Calls Try.prog 7 #[] w (BlIs true w)))
    (Hx : Hid (∀ (w' : World) (A1 : Option Addr) (c1 : Nat), RIn w' A1 c1 a → Calls Try.prog 8 #[.slice A1 na c1] w' (RR X nX er w')))
    (Hy : Hid (∀ (w' : World) (A1 : Option Addr) (c1 : Nat), RIn w' A1 c1 b → Calls Try.prog 8 #[.slice A1 nb c1] w' (RR Y nY ef w'))) :
    Calls Try.prog 6 #[.slice Aa na ca, .slice Ab nb cb, .int .i64 dx, .int .i64 dy] w (BlIs true w) := by
  rcases hee with he | ⟨he, hf⟩
  · skip
    have KA := Lib.hid ha; have KB := Lib.hid hb
    clear ha hb
    have m1 : ¬ (6 : Int) < (na : Int) := by omega
    have m2 : ¬ (6 : Int) < (nb : Int) := by omega
    go_enter Try.func6, Try.ntmps6
    go_wp2_with fail
    refine HSM.out.mono ?_
    rintro e1 w1 ⟨rfl, hb1⟩
    have K1 := Lib.hid (SK.start2 w w1 hb1 KA.out KB.out)
    clear hb1 KA KB
    go_wp2_with fail
    refine (Hx.out _ _ _ (K1.out.2.1 _ (List.mem_cons_of_mem _ List.mem_cons_self))).mono ?_
    rintro e2 w2 ⟨A2, c2, rfl, hr2, hb2⟩
    have K2 := Lib.hid (K1.out.add hb2 hr2)
    clear hb2 K1 hr2
    go_wp2_with fail
    refine (Hy.out _ _ _ (K2.out.2.1 _ (List.mem_cons_of_mem _ List.mem_cons_self))).mono ?_
    rintro e3 w3 ⟨A3, c3, rfl, hr3, hb3⟩
    have K3 := Lib.hid (K2.out.add hb3 hr3)
    clear hb3 K2 hr3
    go_wp2_with fail
    go_ret
    exact ⟨rfl, K3.out.2.2⟩
  · skip
    have KA := Lib.hid ha; have KB := Lib.hid hb
    clear ha hb
    have m1 : ¬ (6 : Int) < (na : Int) := by omega
    have m2 : ¬ (6 : Int) < (nb : Int) := by omega
    go_enter Try.func6, Try.ntmps6
    go_wp2_with fail
    refine HSM.out.mono ?_
    rintro e1 w1 ⟨rfl, hb1⟩
    have K1 := Lib.hid (SK.start2 w w1 hb1 KA.out KB.out)
    clear hb1 KA KB
    go_wp2_with fail
    refine (Hx.out _ _ _ (K1.out.2.1 _ (List.mem_cons_of_mem _ List.mem_cons_self))).mono ?_
    rintro e2 w2 ⟨A2, c2, rfl, hr2, hb2⟩
    have K2 := Lib.hid (K1.out.add hb2 hr2)
    clear hb2 K1 hr2
    go_wp2_with fail
    refine (Hy.out _ _ _ (K2.out.2.1 _ (List.mem_cons_of_mem _ List.mem_cons_self))).mono ?_
    rintro e3 w3 ⟨A3, c3, rfl, hr3, hb3⟩
    have K3 := Lib.hid (K2.out.add hb3 hr3)
    clear hb3 K2 hr3
    go_wp2_with fail
    go_ret
    exact ⟨rfl, K3.out.2.2⟩
end Go.Proofs.Ytoalfmdjdplbkaa
