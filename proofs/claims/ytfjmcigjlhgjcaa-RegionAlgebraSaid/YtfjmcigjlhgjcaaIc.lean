/-
  The walk of RegionAlgebra, its calls' contracts as hypotheses.
-/
import Derived.Test.YtfjmcigjlhgjcaaIb
set_option linter.unusedVariables false
set_option maxRecDepth 100000
namespace Go.Proofs.Ytfjmcigjlhgjcaa
open Go.RowKit

theorem SK.start (w0 w : World) (hb : Below w0.heap.size w0 w) {Aa Ab Ac : Option Addr} {ca cb cc : Nat} {a b c : List Rc} (ha : RIn w0 Aa ca a) (hbb : RIn w0 Ab cb b) (hc : RIn w0 Ac cc c) : SK [] [(Ac, cc, c), (Ab, cb, b), (Aa, ca, a)] w0 w := by
  refine ⟨fun p hp => (by cases hp), fun p hp => ?_, hb⟩
  simp only [List.mem_cons, List.not_mem_nil, or_false] at hp
  rcases hp with rfl | rfl | rfl
  · exact hc.below hb
  · exact hbb.below hb
  · exact ha.below hb
set_option maxHeartbeats 80000000 in
theorem algebra_core (Aa Ab Ac : Option Addr) (ca cb cc na nb nc nX nY nZ nXY nYZ nAL nIN nXZ nT3 nLE nT5 : Nat) (a b c X Y Z XY YZ AL IN XZ T3 LE T5 : List Rc) (aXY aIN aX aY e3 e5 : Int) (w : World)
    (ha : RIn w Aa ca a) (hb : RIn w Ab cb b) (hc : RIn w Ac cc c) (HNA : Hid (na = a.length)) (HNB : Hid (nb = b.length)) (HNC : Hid (nc = c.length)) (HAN : Hid (Aa = none → ca = 0)) (HBN : Hid (Ab = none → cb = 0)) (HCN : Hid (Ac = none → cc = 0))
    (ma : na ≤ 4) (mb : nb ≤ 4) (mc : nc ≤ 4) (x0 : 0 ≤ aXY ∧ aXY ≤ 1000000000000000) (x1 : 0 ≤ aIN ∧ aIN ≤ 1000000000000000) (x2 : 0 ≤ aX ∧ aX ≤ 1000000000000000) (x3 : 0 ≤ aY ∧ aY ≤ 1000000000000000) (xs : ((aXY + aIN) != (aX + aY)) = false)
    (Hx : Hid (∀ (w' : World) (A1 : Option Addr) (c1 : Nat), RIn w' A1 c1 a → Calls Try.prog 10 #[.slice A1 na c1] w' (RR X nX 0 w')))
    (Hy : Hid (∀ (w' : World) (A1 : Option Addr) (c1 : Nat), RIn w' A1 c1 b → Calls Try.prog 10 #[.slice A1 nb c1] w' (RR Y nY 0 w')))
    (Hz : Hid (∀ (w' : World) (A1 : Option Addr) (c1 : Nat), RIn w' A1 c1 c → Calls Try.prog 10 #[.slice A1 nc c1] w' (RR Z nZ 0 w')))
    (Hxy : Hid (∀ (w' : World) (A1 : Option Addr) (c1 : Nat) (A2 : Option Addr) (c2 : Nat), RIn w' A1 c1 X → RIn w' A2 c2 Y → Calls Try.prog 15 #[.slice A1 nX c1, .slice A2 nY c2] w' (RR XY nXY 0 w')))
    (Hyx : Hid (∀ (w' : World) (A1 : Option Addr) (c1 : Nat) (A2 : Option Addr) (c2 : Nat), RIn w' A1 c1 Y → RIn w' A2 c2 X → Calls Try.prog 15 #[.slice A1 nY c1, .slice A2 nX c2] w' (RR XY nXY 0 w')))
    (Hyz : Hid (∀ (w' : World) (A1 : Option Addr) (c1 : Nat) (A2 : Option Addr) (c2 : Nat), RIn w' A1 c1 Y → RIn w' A2 c2 Z → Calls Try.prog 15 #[.slice A1 nY c1, .slice A2 nZ c2] w' (RR YZ nYZ 0 w')))
    (Hone : Hid (∀ (w' : World) (A1 : Option Addr) (c1 : Nat) (A2 : Option Addr) (c2 : Nat), RIn w' A1 c1 XY → RIn w' A2 c2 Z → Calls Try.prog 15 #[.slice A1 nXY c1, .slice A2 nZ c2] w' (RR AL nAL 0 w')))
    (Htwo : Hid (∀ (w' : World) (A1 : Option Addr) (c1 : Nat) (A2 : Option Addr) (c2 : Nat), RIn w' A1 c1 X → RIn w' A2 c2 YZ → Calls Try.prog 15 #[.slice A1 nX c1, .slice A2 nYZ c2] w' (RR AL nAL 0 w')))
    (Hin : Hid (∀ (w' : World) (A1 : Option Addr) (c1 : Nat) (A2 : Option Addr) (c2 : Nat), RIn w' A1 c1 X → RIn w' A2 c2 Y → Calls Try.prog 16 #[.slice A1 nX c1, .slice A2 nY c2] w' (RR IN nIN 0 w')))
    (Hback : Hid (∀ (w' : World) (A1 : Option Addr) (c1 : Nat) (A2 : Option Addr) (c2 : Nat), RIn w' A1 c1 Y → RIn w' A2 c2 X → Calls Try.prog 16 #[.slice A1 nY c1, .slice A2 nX c2] w' (RR IN nIN 0 w')))
    (Sxy : Hid (∀ (w' : World) (A1 : Option Addr) (c1 : Nat) (A2 : Option Addr) (c2 : Nat), RIn w' A1 c1 XY → RIn w' A2 c2 XY → Calls Try.prog 12 #[.slice A1 nXY c1, .slice A2 nXY c2] w' (BlIs true w')))
    (Sal : Hid (∀ (w' : World) (A1 : Option Addr) (c1 : Nat) (A2 : Option Addr) (c2 : Nat), RIn w' A1 c1 AL → RIn w' A2 c2 AL → Calls Try.prog 12 #[.slice A1 nAL c1, .slice A2 nAL c2] w' (BlIs true w')))
    (Sin : Hid (∀ (w' : World) (A1 : Option Addr) (c1 : Nat) (A2 : Option Addr) (c2 : Nat), RIn w' A1 c1 IN → RIn w' A2 c2 IN → Calls Try.prog 12 #[.slice A1 nIN c1, .slice A2 nIN c2] w' (BlIs true w')))
    (Axy : Hid (∀ (w' : World) (A1 : Option Addr) (c1 : Nat), RIn w' A1 c1 XY → Calls Try.prog 21 #[.slice A1 nXY c1] w' (InIs aXY w')))
    (Ain : Hid (∀ (w' : World) (A1 : Option Addr) (c1 : Nat), RIn w' A1 c1 IN → Calls Try.prog 21 #[.slice A1 nIN c1] w' (InIs aIN w')))
    (Ax : Hid (∀ (w' : World) (A1 : Option Addr) (c1 : Nat), RIn w' A1 c1 X → Calls Try.prog 21 #[.slice A1 nX c1] w' (InIs aX w')))
    (Ay : Hid (∀ (w' : World) (A1 : Option Addr) (c1 : Nat), RIn w' A1 c1 Y → Calls Try.prog 21 #[.slice A1 nY c1] w' (InIs aY w')))
    (Hxz : Hid (∀ (w' : World) (A1 : Option Addr) (c1 : Nat) (A2 : Option Addr) (c2 : Nat), RIn w' A1 c1 X → RIn w' A2 c2 Z → Calls Try.prog 16 #[.slice A1 nX c1, .slice A2 nZ c2] w' (RR XZ nXZ 0 w')))
    (Hthree : Hid (∀ (w' : World) (A1 : Option Addr) (c1 : Nat) (A2 : Option Addr) (c2 : Nat), RIn w' A1 c1 X → RIn w' A2 c2 YZ → Calls Try.prog 16 #[.slice A1 nX c1, .slice A2 nYZ c2] w' (RR T3 nT3 e3 w')))
    (Hfour : Hid (∀ (w' : World) (A1 : Option Addr) (c1 : Nat) (A2 : Option Addr) (c2 : Nat), RIn w' A1 c1 IN → RIn w' A2 c2 XZ → Calls Try.prog 15 #[.slice A1 nIN c1, .slice A2 nXZ c2] w' (RR T3 nT3 e3 w')))
    (Hless : Hid (∀ (w' : World) (A1 : Option Addr) (c1 : Nat) (A2 : Option Addr) (c2 : Nat), RIn w' A1 c1 X → RIn w' A2 c2 Y → Calls Try.prog 17 #[.slice A1 nX c1, .slice A2 nY c2] w' (RR LE nLE 0 w')))
    (Hrest : Hid (∀ (w' : World) (A1 : Option Addr) (c1 : Nat) (A2 : Option Addr) (c2 : Nat), RIn w' A1 c1 LE → RIn w' A2 c2 Y → Calls Try.prog 16 #[.slice A1 nLE c1, .slice A2 nY c2] w' (RR [] 0 0 w')))
    (Hwhole : Hid (∀ (w' : World) (A1 : Option Addr) (c1 : Nat) (A2 : Option Addr) (c2 : Nat), RIn w' A1 c1 LE → RIn w' A2 c2 IN → Calls Try.prog 15 #[.slice A1 nLE c1, .slice A2 nIN c2] w' (RR X nX 0 w')))
    (Hfive : Hid (∀ (w' : World) (A1 : Option Addr) (c1 : Nat) (A2 : Option Addr) (c2 : Nat), RIn w' A1 c1 X → RIn w' A2 c2 YZ → Calls Try.prog 17 #[.slice A1 nX c1, .slice A2 nYZ c2] w' (RR T5 nT5 e5 w')))
    (Hsix : Hid (∀ (w' : World) (A1 : Option Addr) (c1 : Nat) (A2 : Option Addr) (c2 : Nat), RIn w' A1 c1 LE → RIn w' A2 c2 Z → Calls Try.prog 17 #[.slice A1 nLE c1, .slice A2 nZ c2] w' (RR T5 nT5 e5 w')))
    (St3 : Hid (∀ (w' : World) (A1 : Option Addr) (c1 : Nat) (A2 : Option Addr) (c2 : Nat), RIn w' A1 c1 T3 → RIn w' A2 c2 T3 → Calls Try.prog 12 #[.slice A1 nT3 c1, .slice A2 nT3 c2] w' (BlIs true w')))
    (Sx : Hid (∀ (w' : World) (A1 : Option Addr) (c1 : Nat) (A2 : Option Addr) (c2 : Nat), RIn w' A1 c1 X → RIn w' A2 c2 X → Calls Try.prog 12 #[.slice A1 nX c1, .slice A2 nX c2] w' (BlIs true w')))
    (St5 : Hid (∀ (w' : World) (A1 : Option Addr) (c1 : Nat) (A2 : Option Addr) (c2 : Nat), RIn w' A1 c1 T5 → RIn w' A2 c2 T5 → Calls Try.prog 12 #[.slice A1 nT5 c1, .slice A2 nT5 c2] w' (BlIs true w')))
    (Hall : Hid (∀ (w' : World) (B : Nat) (v : Value), w'.ownsRow B 39 4 v (na + nb + nc) (rcells a ++ (rcells b ++ rcells c)) → Calls Try.prog 10 #[v] w' (RR AL nAL 0 w')))
    (HSM : Hid (Calls Try.prog 9 #[] w (BlIs true w))) :
    Calls Try.prog 5 #[.slice Aa na ca, .slice Ab nb cb, .slice Ac nc cc] w (BlIs true w) := by
  obtain ⟨i0, hi9, hz0, hz1, hz2⟩ := info_parts infoRect
  have KA := Lib.hid ha; have KB := Lib.hid hb; have KC := Lib.hid hc
  clear ha hb hc
  obtain ⟨y0, y1⟩ := x0
  obtain ⟨y2, y3⟩ := x1
  obtain ⟨y4, y5⟩ := x2
  obtain ⟨y6, y7⟩ := x3
  have u1 : IntKind.i64.wrap (aXY + aIN) = aXY + aIN := IntWalk.i64_in _ (by omega)
  have u2 : IntKind.i64.wrap (aX + aY) = aX + aY := IntWalk.i64_in _ (by omega)
  have m1 : ¬ (4 : Int) < (na : Int) := by omega
  have m2 : ¬ (4 : Int) < (nb : Int) := by omega
  have m3 : ¬ (4 : Int) < (nc : Int) := by omega
  go_enter Try.func5, Try.ntmps5
  go_wp2_with fail
  refine HSM.out.mono ?_
  rintro e1 w1 ⟨rfl, hb1⟩
  have K1 := Lib.hid (SK.start w w1 hb1 KA.out KB.out KC.out)
  clear hb1 KA KB KC
  go_wp2_with fail
  refine (Hx.out _ _ _ (K1.out.2.1 _ (List.mem_cons_of_mem _ (List.mem_cons_of_mem _ List.mem_cons_self)))).mono ?_
  rintro e2 w2 ⟨A2, c2, rfl, hr2, hb2⟩
  have K2 := Lib.hid (K1.out.add hb2 hr2); clear hr2 hb2 K1
  go_wp2_with fail
  refine (Hy.out _ _ _ (K2.out.2.1 _ (List.mem_cons_of_mem _ (List.mem_cons_of_mem _ List.mem_cons_self)))).mono ?_
  rintro e3 w3 ⟨A3, c3, rfl, hr3, hb3⟩
  have K3 := Lib.hid (K2.out.add hb3 hr3); clear hr3 hb3 K2
  go_wp2_with fail
  refine (Hz.out _ _ _ (K3.out.2.1 _ (List.mem_cons_of_mem _ (List.mem_cons_of_mem _ List.mem_cons_self)))).mono ?_
  rintro e4 w4 ⟨A4, c4, rfl, hr4, hb4⟩
  have K4 := Lib.hid (K3.out.add hb4 hr4); clear hr4 hb4 K3
  go_wp2_with fail
  refine (Hxy.out _ _ _ _ _ (K4.out.2.1 _ (List.mem_cons_of_mem _ (List.mem_cons_of_mem _ List.mem_cons_self))) (K4.out.2.1 _ (List.mem_cons_of_mem _ List.mem_cons_self))).mono ?_
  rintro e5 w5 ⟨A5, c5, rfl, hr5, hb5⟩
  have K5 := Lib.hid (K4.out.add hb5 hr5); clear hr5 hb5 K4
  go_wp2_with fail
  refine (Hyx.out _ _ _ _ _ (K5.out.2.1 _ (List.mem_cons_of_mem _ (List.mem_cons_of_mem _ List.mem_cons_self))) (K5.out.2.1 _ (List.mem_cons_of_mem _ (List.mem_cons_of_mem _ (List.mem_cons_of_mem _ List.mem_cons_self))))).mono ?_
  rintro e6 w6 ⟨A6, c6, rfl, hr6, hb6⟩
  have K6 := Lib.hid (K5.out.add hb6 hr6); clear hr6 hb6 K5
  go_wp2_with fail
  refine (Hyz.out _ _ _ _ _ (K6.out.2.1 _ (List.mem_cons_of_mem _ (List.mem_cons_of_mem _ (List.mem_cons_of_mem _ List.mem_cons_self)))) (K6.out.2.1 _ (List.mem_cons_of_mem _ (List.mem_cons_of_mem _ List.mem_cons_self)))).mono ?_
  rintro e7 w7 ⟨A7, c7, rfl, hr7, hb7⟩
  have K7 := Lib.hid (K6.out.add hb7 hr7); clear hr7 hb7 K6
  go_wp2_with fail
  refine (Hone.out _ _ _ _ _ (K7.out.2.1 _ (List.mem_cons_of_mem _ (List.mem_cons_of_mem _ List.mem_cons_self))) (K7.out.2.1 _ (List.mem_cons_of_mem _ (List.mem_cons_of_mem _ (List.mem_cons_of_mem _ List.mem_cons_self))))).mono ?_
  rintro e8 w8 ⟨A8, c8, rfl, hr8, hb8⟩
  have K8 := Lib.hid (K7.out.add hb8 hr8); clear hr8 hb8 K7
  go_wp2_with fail
  refine (Htwo.out _ _ _ _ _ (K8.out.2.1 _ (List.mem_cons_of_mem _ (List.mem_cons_of_mem _ (List.mem_cons_of_mem _ (List.mem_cons_of_mem _ (List.mem_cons_of_mem _ (List.mem_cons_of_mem _ List.mem_cons_self))))))) (K8.out.2.1 _ (List.mem_cons_of_mem _ List.mem_cons_self))).mono ?_
  rintro e9 w9 ⟨A9, c9, rfl, hr9, hb9⟩
  have K9 := Lib.hid (K8.out.add hb9 hr9); clear hr9 hb9 K8
  have st1 : Hid ((w9.alloc (.cells #[] 39)).ownsRow w9.heap.size 39 4 (.slice (some ⟨w9.heap.size, 0, none⟩) 0 0) 0 []) := Lib.hid ⟨rfl, Or.inr ⟨w9.heap.size, 0, #[], rfl, Nat.le_refl _, heap_alloc_new w9 _, Nat.le_refl _, by unfold maxLen; omega, rfl, rfl⟩⟩
  have HB1 : Hid (Below w9.heap.size w9 (w9.alloc (.cells #[] 39))) := Lib.hid ((Below.refl _ _).alloc (Nat.le_refl _) _)
  have SR1 : Hid (Src (w9.alloc (.cells #[] 39)) (.slice Aa na ca) na (rcells a)) := Lib.hid (by rw [HNA.out]; exact src_of ((K9.out.2.1 _ (List.mem_cons_of_mem _ (List.mem_cons_of_mem _ (List.mem_cons_of_mem _ (List.mem_cons_of_mem _ (List.mem_cons_of_mem _ (List.mem_cons_of_mem _ (List.mem_cons_of_mem _ (List.mem_cons_of_mem _ (List.mem_cons_of_mem _ (List.mem_cons_of_mem _ List.mem_cons_self))))))))))).below HB1.out) HAN.out)
  go_wp2_with (at_builtin; refine wpList_append_src rfl _ _ 22 rfl w9.heap.size 39 i0 (.agg #[.int .i64 0, .int .i64 0, .int .i64 0, .int .i64 0]) 32 Try.underlying22 hi9 hz0 hz1 hz2 rfl _ _ _ rfl st1.out _ _ _ rfl SR1.out ?q1 ?q2 ?q3 ?_)
  case q1 => unfold maxLen; omega
  case q2 => omega
  case q3 => exact HB1.out.size
  intro v1 u1 own1 gr1
  have HO1 : Hid (u1.ownsRow w9.heap.size 39 4 v1 na (rcells a)) := Lib.hid (by first | exact own1 | (rw [Nat.zero_add, List.nil_append] at own1; exact own1))
  have HB2 : Hid (Below w9.heap.size w9 u1) := Lib.hid (Below.grown HB1.out gr1 HB1.out.size (fun j hj => (st1.out.lt j hj).1))
  have SR2 : Hid (Src u1 (.slice Ab nb cb) nb (rcells b)) := Lib.hid (by rw [HNB.out]; exact src_of ((K9.out.2.1 _ (List.mem_cons_of_mem _ (List.mem_cons_of_mem _ (List.mem_cons_of_mem _ (List.mem_cons_of_mem _ (List.mem_cons_of_mem _ (List.mem_cons_of_mem _ (List.mem_cons_of_mem _ (List.mem_cons_of_mem _ (List.mem_cons_of_mem _ List.mem_cons_self)))))))))).below HB2.out) HBN.out)
  clear own1 gr1 st1 SR1 HB1
  go_wp2_with (at_builtin; refine wpList_append_src rfl _ _ 22 rfl w9.heap.size 39 i0 (.agg #[.int .i64 0, .int .i64 0, .int .i64 0, .int .i64 0]) 32 Try.underlying22 hi9 hz0 hz1 hz2 rfl _ _ _ rfl HO1.out _ _ _ rfl SR2.out ?q1 ?q2 ?q3 ?_)
  case q1 => unfold maxLen; omega
  case q2 => omega
  case q3 => exact HB2.out.size
  intro v2 u2 own2 gr2
  have HO2 := Lib.hid own2
  have HB3 : Hid (Below w9.heap.size w9 u2) := Lib.hid (Below.grown HB2.out gr2 HB2.out.size (fun j hj => (HO1.out.lt j hj).1))
  have SR3 : Hid (Src u2 (.slice Ac nc cc) nc (rcells c)) := Lib.hid (by rw [HNC.out]; exact src_of ((K9.out.2.1 _ (List.mem_cons_of_mem _ (List.mem_cons_of_mem _ (List.mem_cons_of_mem _ (List.mem_cons_of_mem _ (List.mem_cons_of_mem _ (List.mem_cons_of_mem _ (List.mem_cons_of_mem _ (List.mem_cons_of_mem _ List.mem_cons_self))))))))).below HB3.out) HCN.out)
  clear own2 gr2 HO1 SR2 HB2
  go_wp2_with (at_builtin; refine wpList_append_src rfl _ _ 22 rfl w9.heap.size 39 i0 (.agg #[.int .i64 0, .int .i64 0, .int .i64 0, .int .i64 0]) 32 Try.underlying22 hi9 hz0 hz1 hz2 rfl _ _ _ rfl HO2.out _ _ _ rfl SR3.out ?q1 ?q2 ?q3 ?_)
  case q1 => unfold maxLen; omega
  case q2 => omega
  case q3 => exact HB3.out.size
  intro v3 u3 own3 gr3
  have HO3 := Lib.hid own3
  have HB4 : Hid (Below w9.heap.size w9 u3) := Lib.hid (Below.grown HB3.out gr3 HB3.out.size (fun j hj => (HO2.out.lt j hj).1))
  clear own3 gr3 HO2 SR3 HB3
  go_wp2_with fail
  refine (Hall.out _ _ _ HO3.out).mono ?_
  rintro e10 w10 ⟨A10, c10, rfl, hr10, hb10⟩
  have K10 := Lib.hid ((K9.out.go HB4.out).add hb10 hr10); clear hr10 hb10 K9 HO3 HB4
  go_wp2_with fail
  refine (Hin.out _ _ _ _ _ (K10.out.2.1 _ (List.mem_cons_of_mem _ (List.mem_cons_of_mem _ (List.mem_cons_of_mem _ (List.mem_cons_of_mem _ (List.mem_cons_of_mem _ (List.mem_cons_of_mem _ (List.mem_cons_of_mem _ (List.mem_cons_of_mem _ List.mem_cons_self))))))))) (K10.out.2.1 _ (List.mem_cons_of_mem _ (List.mem_cons_of_mem _ (List.mem_cons_of_mem _ (List.mem_cons_of_mem _ (List.mem_cons_of_mem _ (List.mem_cons_of_mem _ (List.mem_cons_of_mem _ List.mem_cons_self))))))))).mono ?_
  rintro e11 w11 ⟨A11, c11, rfl, hr11, hb11⟩
  have K11 := Lib.hid (K10.out.add hb11 hr11); clear hr11 hb11 K10
  go_wp2_with fail
  refine (Hback.out _ _ _ _ _ (K11.out.2.1 _ (List.mem_cons_of_mem _ (List.mem_cons_of_mem _ (List.mem_cons_of_mem _ (List.mem_cons_of_mem _ (List.mem_cons_of_mem _ (List.mem_cons_of_mem _ (List.mem_cons_of_mem _ (List.mem_cons_of_mem _ List.mem_cons_self))))))))) (K11.out.2.1 _ (List.mem_cons_of_mem _ (List.mem_cons_of_mem _ (List.mem_cons_of_mem _ (List.mem_cons_of_mem _ (List.mem_cons_of_mem _ (List.mem_cons_of_mem _ (List.mem_cons_of_mem _ (List.mem_cons_of_mem _ (List.mem_cons_of_mem _ List.mem_cons_self))))))))))).mono ?_
  rintro e12 w12 ⟨A12, c12, rfl, hr12, hb12⟩
  have K12 := Lib.hid (K11.out.add hb12 hr12); clear hr12 hb12 K11
  go_wp2_with fail
  refine (Sxy.out _ _ _ _ _ (K12.out.2.1 _ (List.mem_cons_of_mem _ (List.mem_cons_of_mem _ (List.mem_cons_of_mem _ (List.mem_cons_of_mem _ (List.mem_cons_of_mem _ (List.mem_cons_of_mem _ (List.mem_cons_of_mem _ List.mem_cons_self)))))))) (K12.out.2.1 _ (List.mem_cons_of_mem _ (List.mem_cons_of_mem _ (List.mem_cons_of_mem _ (List.mem_cons_of_mem _ (List.mem_cons_of_mem _ (List.mem_cons_of_mem _ List.mem_cons_self)))))))).mono ?_
  rintro e13 w13 ⟨rfl, hb13⟩
  have K13 := Lib.hid (K12.out.go hb13); clear hb13 K12
  go_wp2_with fail
  refine (Sal.out _ _ _ _ _ (K13.out.2.1 _ (List.mem_cons_of_mem _ (List.mem_cons_of_mem _ (List.mem_cons_of_mem _ (List.mem_cons_of_mem _ List.mem_cons_self))))) (K13.out.2.1 _ (List.mem_cons_of_mem _ (List.mem_cons_of_mem _ (List.mem_cons_of_mem _ List.mem_cons_self))))).mono ?_
  rintro e14 w14 ⟨rfl, hb14⟩
  have K14 := Lib.hid (K13.out.go hb14); clear hb14 K13
  go_wp2_with fail
  refine (Sal.out _ _ _ _ _ (K14.out.2.1 _ (List.mem_cons_of_mem _ (List.mem_cons_of_mem _ (List.mem_cons_of_mem _ (List.mem_cons_of_mem _ List.mem_cons_self))))) (K14.out.2.1 _ (List.mem_cons_of_mem _ (List.mem_cons_of_mem _ List.mem_cons_self)))).mono ?_
  rintro e15 w15 ⟨rfl, hb15⟩
  have K15 := Lib.hid (K14.out.go hb15); clear hb15 K14
  go_wp2_with fail
  refine (Sin.out _ _ _ _ _ (K15.out.2.1 _ (List.mem_cons_of_mem _ List.mem_cons_self)) (K15.out.2.1 _ List.mem_cons_self)).mono ?_
  rintro e16 w16 ⟨rfl, hb16⟩
  have K16 := Lib.hid (K15.out.go hb16); clear hb16 K15
  go_wp2_with fail
  refine (Axy.out _ _ _ (K16.out.2.1 _ (List.mem_cons_of_mem _ (List.mem_cons_of_mem _ (List.mem_cons_of_mem _ (List.mem_cons_of_mem _ (List.mem_cons_of_mem _ (List.mem_cons_of_mem _ (List.mem_cons_of_mem _ List.mem_cons_self))))))))).mono ?_
  rintro e17 w17 ⟨rfl, hb17⟩
  have K17 := Lib.hid (K16.out.go hb17); clear hb17 K16
  go_wp2_with fail
  refine (Ain.out _ _ _ (K17.out.2.1 _ (List.mem_cons_of_mem _ List.mem_cons_self))).mono ?_
  rintro e18 w18 ⟨rfl, hb18⟩
  have K18 := Lib.hid (K17.out.go hb18); clear hb18 K17
  go_wp2_with fail
  refine (Ax.out _ _ _ (K18.out.2.1 _ (List.mem_cons_of_mem _ (List.mem_cons_of_mem _ (List.mem_cons_of_mem _ (List.mem_cons_of_mem _ (List.mem_cons_of_mem _ (List.mem_cons_of_mem _ (List.mem_cons_of_mem _ (List.mem_cons_of_mem _ (List.mem_cons_of_mem _ (List.mem_cons_of_mem _ List.mem_cons_self)))))))))))).mono ?_
  rintro e19 w19 ⟨rfl, hb19⟩
  have K19 := Lib.hid (K18.out.go hb19); clear hb19 K18
  go_wp2_with fail
  refine (Ay.out _ _ _ (K19.out.2.1 _ (List.mem_cons_of_mem _ (List.mem_cons_of_mem _ (List.mem_cons_of_mem _ (List.mem_cons_of_mem _ (List.mem_cons_of_mem _ (List.mem_cons_of_mem _ (List.mem_cons_of_mem _ (List.mem_cons_of_mem _ (List.mem_cons_of_mem _ List.mem_cons_self))))))))))).mono ?_
  rintro e20 w20 ⟨rfl, hb20⟩
  have K20 := Lib.hid (K19.out.go hb20); clear hb20 K19
  go_wp2_with fail
  refine (Hxz.out _ _ _ _ _ (K20.out.2.1 _ (List.mem_cons_of_mem _ (List.mem_cons_of_mem _ (List.mem_cons_of_mem _ (List.mem_cons_of_mem _ (List.mem_cons_of_mem _ (List.mem_cons_of_mem _ (List.mem_cons_of_mem _ (List.mem_cons_of_mem _ (List.mem_cons_of_mem _ (List.mem_cons_of_mem _ List.mem_cons_self))))))))))) (K20.out.2.1 _ (List.mem_cons_of_mem _ (List.mem_cons_of_mem _ (List.mem_cons_of_mem _ (List.mem_cons_of_mem _ (List.mem_cons_of_mem _ (List.mem_cons_of_mem _ (List.mem_cons_of_mem _ (List.mem_cons_of_mem _ List.mem_cons_self)))))))))).mono ?_
  rintro e21 w21 ⟨A21, c21, rfl, hr21, hb21⟩
  have K21 := Lib.hid (K20.out.add hb21 hr21); clear hr21 hb21 K20
  go_wp2_with fail
  refine (Hthree.out _ _ _ _ _ (K21.out.2.1 _ (List.mem_cons_of_mem _ (List.mem_cons_of_mem _ (List.mem_cons_of_mem _ (List.mem_cons_of_mem _ (List.mem_cons_of_mem _ (List.mem_cons_of_mem _ (List.mem_cons_of_mem _ (List.mem_cons_of_mem _ (List.mem_cons_of_mem _ (List.mem_cons_of_mem _ (List.mem_cons_of_mem _ List.mem_cons_self)))))))))))) (K21.out.2.1 _ (List.mem_cons_of_mem _ (List.mem_cons_of_mem _ (List.mem_cons_of_mem _ (List.mem_cons_of_mem _ (List.mem_cons_of_mem _ (List.mem_cons_of_mem _ List.mem_cons_self)))))))).mono ?_
  rintro e22 w22 ⟨A22, c22, rfl, hr22, hb22⟩
  have K22 := Lib.hid (K21.out.add hb22 hr22); clear hr22 hb22 K21
  go_wp2_with fail
  refine (Hfour.out _ _ _ _ _ (K22.out.2.1 _ (List.mem_cons_of_mem _ (List.mem_cons_of_mem _ (List.mem_cons_of_mem _ List.mem_cons_self)))) (K22.out.2.1 _ (List.mem_cons_of_mem _ List.mem_cons_self))).mono ?_
  rintro e23 w23 ⟨A23, c23, rfl, hr23, hb23⟩
  have K23 := Lib.hid (K22.out.add hb23 hr23); clear hr23 hb23 K22
  go_wp2_with fail
  refine (Hless.out _ _ _ _ _ (K23.out.2.1 _ (List.mem_cons_of_mem _ (List.mem_cons_of_mem _ (List.mem_cons_of_mem _ (List.mem_cons_of_mem _ (List.mem_cons_of_mem _ (List.mem_cons_of_mem _ (List.mem_cons_of_mem _ (List.mem_cons_of_mem _ (List.mem_cons_of_mem _ (List.mem_cons_of_mem _ (List.mem_cons_of_mem _ (List.mem_cons_of_mem _ (List.mem_cons_of_mem _ List.mem_cons_self)))))))))))))) (K23.out.2.1 _ (List.mem_cons_of_mem _ (List.mem_cons_of_mem _ (List.mem_cons_of_mem _ (List.mem_cons_of_mem _ (List.mem_cons_of_mem _ (List.mem_cons_of_mem _ (List.mem_cons_of_mem _ (List.mem_cons_of_mem _ (List.mem_cons_of_mem _ (List.mem_cons_of_mem _ (List.mem_cons_of_mem _ (List.mem_cons_of_mem _ List.mem_cons_self)))))))))))))).mono ?_
  rintro e24 w24 ⟨A24, c24, rfl, hr24, hb24⟩
  have K24 := Lib.hid (K23.out.add hb24 hr24); clear hr24 hb24 K23
  go_wp2_with fail
  refine (Hrest.out _ _ _ _ _ (K24.out.2.1 _ List.mem_cons_self) (K24.out.2.1 _ (List.mem_cons_of_mem _ (List.mem_cons_of_mem _ (List.mem_cons_of_mem _ (List.mem_cons_of_mem _ (List.mem_cons_of_mem _ (List.mem_cons_of_mem _ (List.mem_cons_of_mem _ (List.mem_cons_of_mem _ (List.mem_cons_of_mem _ (List.mem_cons_of_mem _ (List.mem_cons_of_mem _ (List.mem_cons_of_mem _ (List.mem_cons_of_mem _ List.mem_cons_self))))))))))))))).mono ?_
  rintro e25 w25 ⟨A25, c25, rfl, hr25, hb25⟩
  have K25 := Lib.hid (K24.out.add hb25 hr25); clear hr25 hb25 K24
  go_wp2_with fail
  refine (Hwhole.out _ _ _ _ _ (K25.out.2.1 _ (List.mem_cons_of_mem _ List.mem_cons_self)) (K25.out.2.1 _ (List.mem_cons_of_mem _ (List.mem_cons_of_mem _ (List.mem_cons_of_mem _ (List.mem_cons_of_mem _ (List.mem_cons_of_mem _ (List.mem_cons_of_mem _ List.mem_cons_self)))))))).mono ?_
  rintro e26 w26 ⟨A26, c26, rfl, hr26, hb26⟩
  have K26 := Lib.hid (K25.out.add hb26 hr26); clear hr26 hb26 K25
  go_wp2_with fail
  refine (Hfive.out _ _ _ _ _ (K26.out.2.1 _ (List.mem_cons_of_mem _ (List.mem_cons_of_mem _ (List.mem_cons_of_mem _ (List.mem_cons_of_mem _ (List.mem_cons_of_mem _ (List.mem_cons_of_mem _ (List.mem_cons_of_mem _ (List.mem_cons_of_mem _ (List.mem_cons_of_mem _ (List.mem_cons_of_mem _ (List.mem_cons_of_mem _ (List.mem_cons_of_mem _ (List.mem_cons_of_mem _ (List.mem_cons_of_mem _ (List.mem_cons_of_mem _ (List.mem_cons_of_mem _ List.mem_cons_self))))))))))))))))) (K26.out.2.1 _ (List.mem_cons_of_mem _ (List.mem_cons_of_mem _ (List.mem_cons_of_mem _ (List.mem_cons_of_mem _ (List.mem_cons_of_mem _ (List.mem_cons_of_mem _ (List.mem_cons_of_mem _ (List.mem_cons_of_mem _ (List.mem_cons_of_mem _ (List.mem_cons_of_mem _ (List.mem_cons_of_mem _ List.mem_cons_self))))))))))))).mono ?_
  rintro e27 w27 ⟨A27, c27, rfl, hr27, hb27⟩
  have K27 := Lib.hid (K26.out.add hb27 hr27); clear hr27 hb27 K26
  go_wp2_with fail
  refine (Hsix.out _ _ _ _ _ (K27.out.2.1 _ (List.mem_cons_of_mem _ (List.mem_cons_of_mem _ (List.mem_cons_of_mem _ List.mem_cons_self)))) (K27.out.2.1 _ (List.mem_cons_of_mem _ (List.mem_cons_of_mem _ (List.mem_cons_of_mem _ (List.mem_cons_of_mem _ (List.mem_cons_of_mem _ (List.mem_cons_of_mem _ (List.mem_cons_of_mem _ (List.mem_cons_of_mem _ (List.mem_cons_of_mem _ (List.mem_cons_of_mem _ (List.mem_cons_of_mem _ (List.mem_cons_of_mem _ (List.mem_cons_of_mem _ (List.mem_cons_of_mem _ (List.mem_cons_of_mem _ List.mem_cons_self))))))))))))))))).mono ?_
  rintro e28 w28 ⟨A28, c28, rfl, hr28, hb28⟩
  have K28 := Lib.hid (K27.out.add hb28 hr28); clear hr28 hb28 K27
  go_wp2_with fail
  refine (St3.out _ _ _ _ _ (K28.out.2.1 _ (List.mem_cons_of_mem _ (List.mem_cons_of_mem _ (List.mem_cons_of_mem _ (List.mem_cons_of_mem _ (List.mem_cons_of_mem _ (List.mem_cons_of_mem _ List.mem_cons_self))))))) (K28.out.2.1 _ (List.mem_cons_of_mem _ (List.mem_cons_of_mem _ (List.mem_cons_of_mem _ (List.mem_cons_of_mem _ (List.mem_cons_of_mem _ List.mem_cons_self))))))).mono ?_
  rintro e29 w29 ⟨rfl, hb29⟩
  have K29 := Lib.hid (K28.out.go hb29); clear hb29 K28
  go_wp2_with fail
  refine (Sx.out _ _ _ _ _ (K29.out.2.1 _ (List.mem_cons_of_mem _ (List.mem_cons_of_mem _ List.mem_cons_self))) (K29.out.2.1 _ (List.mem_cons_of_mem _ (List.mem_cons_of_mem _ (List.mem_cons_of_mem _ (List.mem_cons_of_mem _ (List.mem_cons_of_mem _ (List.mem_cons_of_mem _ (List.mem_cons_of_mem _ (List.mem_cons_of_mem _ (List.mem_cons_of_mem _ (List.mem_cons_of_mem _ (List.mem_cons_of_mem _ (List.mem_cons_of_mem _ (List.mem_cons_of_mem _ (List.mem_cons_of_mem _ (List.mem_cons_of_mem _ (List.mem_cons_of_mem _ (List.mem_cons_of_mem _ (List.mem_cons_of_mem _ List.mem_cons_self)))))))))))))))))))).mono ?_
  rintro e30 w30 ⟨rfl, hb30⟩
  have K30 := Lib.hid (K29.out.go hb30); clear hb30 K29
  go_wp2_with fail
  refine (St5.out _ _ _ _ _ (K30.out.2.1 _ (List.mem_cons_of_mem _ List.mem_cons_self)) (K30.out.2.1 _ List.mem_cons_self)).mono ?_
  rintro e31 w31 ⟨rfl, hb31⟩
  have K31 := Lib.hid (K30.out.go hb31); clear hb31 K30
  go_wp2_with fail
  go_ret
  exact ⟨rfl, K31.out.2.2⟩
end Go.Proofs.Ytfjmcigjlhgjcaa
