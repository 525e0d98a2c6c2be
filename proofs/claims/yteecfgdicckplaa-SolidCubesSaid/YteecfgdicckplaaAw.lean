/-
  SolidCubes: the law's walk, its calls' contracts as hypotheses.
-/
import Derived.Test.YteecfgdicckplaaAu
import Derived.Test.YteecfgdicckplaaBf
set_option linter.unusedVariables false
set_option maxRecDepth 100000
namespace Go.Proofs.Yteecfgdicckplaa
open Go.RowKit

def Cov9 (l : List Bx) (n : Nat) (p : F3) : Prop := ∀ (w' : World) (A1 : Option Addr) (c1 : Nat) (x y z : Int), BIn w' A1 c1 l → Calls Try.prog 15 #[.slice A1 n c1, .int .i64 x, .int .i64 y, .int .i64 z] w' (BlIs (p x y z) w')
def Near9 (l : List Bx) (n : Nat) (b : Bool) : Prop := ∀ (w' : World) (A1 : Option Addr) (c1 : Nat), BIn w' A1 c1 l → Calls Try.prog 9 #[.slice A1 n c1, .int .i64 6] w' (BlIs b w')
def Has9 (P : List Sl) (n : Nat) (p : F3) : Prop := ∀ (w' : World) (A1 : Option Addr) (c1 : Nat) (x y z : Int), SIn w' A1 c1 P → Calls Try.prog 16 #[.slice A1 n c1, .int .i64 x, .int .i64 y, .int .i64 z] w' (BlIs (p x y z) w')
def Rig9 (P : List Sl) (n : Nat) : Prop := ∀ (w' : World) (A1 : Option Addr) (c1 : Nat), SIn w' A1 c1 P → Calls Try.prog 14 #[.slice A1 n c1] w' (BlIs true w')
def Same9 (P : List Sl) (n : Nat) (Q : List Sl) (m : Nat) (b : Bool) : Prop := ∀ (w' : World) (A1 : Option Addr) (c1 : Nat) (A2 : Option Addr) (c2 : Nat), SIn w' A1 c1 P → SIn w' A2 c2 Q → Calls Try.prog 18 #[.slice A1 n c1, .slice A2 m c2] w' (BlIs b w')
theorem i64_of9 {a b : Int} (h : a = b) : Value.int .i64 a = .int .i64 b := by rw [h]
set_option maxHeartbeats 80000000 in
theorem cubes_core (Aa Ab : Option Addr) (ca cb na nb nC nD nU nI nM : Nat) (a b : List Bx) (C D U I M : List Sl) (p q : F3) (w : World)
    (ha : BIn w Aa ca a) (hb : BIn w Ab cb b)
    (HSM : Hid (Calls Try.prog 8 #[] w (BlIs true w)))
    (Na : Hid (Near9 a na true)) (Nb : Hid (Near9 b nb true))
    (Hx : Hid (Of9 a na C nC 0)) (Hy : Hid (Of9 b nb D nD 0))
    (Hu : Hid (Op9 11 C nC D nD U nU 0)) (Hi : Hid (Op9 12 C nC D nD I nI 0)) (Hm : Hid (Op9 13 C nC D nD M nM 0))
    (RC : Hid (Rig9 C nC)) (RU : Hid (Rig9 U nU)) (RI : Hid (Rig9 I nI)) (RM : Hid (Rig9 M nM))
    (Ca : Hid (Cov9 a na p)) (Cb : Hid (Cov9 b nb q))
    (KC : Hid (Has9 C nC p)) (KU : Hid (Has9 U nU (fOr9 p q))) (KI : Hid (Has9 I nI (fAnd9 p q))) (KM : Hid (Has9 M nM (fNot9 p q)))
    (VC : Hid (Vol9 C nC (cnt9 p 8 0 0))) (VD : Hid (Vol9 D nD (cnt9 q 8 0 0))) (VI : Hid (Vol9 I nI (cnt9 (fAnd9 p q) 8 0 0)))
    (VU : Hid (Vol9 U nU (cnt9 p 8 0 0 + cnt9 q 8 0 0 - cnt9 (fAnd9 p q) 8 0 0))) (VM : Hid (Vol9 M nM (cnt9 p 8 0 0 - cnt9 (fAnd9 p q) 8 0 0)))
    (SCD : Hid (Same9 C nC D nD (decide (cnt9 p 8 0 0 = cnt9 (fAnd9 p q) 8 0 0 ∧ cnt9 q 8 0 0 = cnt9 (fAnd9 p q) 8 0 0))))
    (P8 : Hid (p 0 0 8 = false)) (P1 : Hid (p (-1) 0 0 = false)) :
    Calls Try.prog 3 #[.slice Aa na ca, .slice Ab nb cb] w (BlIs true w) := by
  have KA := Lib.hid ha; have KB := Lib.hid hb
  clear ha hb
  go_enter Try.func3, Try.ntmps3
  go_wp2_with fail
  refine HSM.out.mono ?_
  rintro e0 w0 ⟨rfl, hb0⟩
  have K0 := Lib.hid ((SK9.start w).go hb0)
  clear hb0
  go_wp2_with fail
  refine (Na.out _ _ _ (KA.out.below K0.out.2.2)).mono ?_
  rintro e1 w1 ⟨rfl, hb1⟩
  have K1 := Lib.hid (K0.out.go hb1)
  clear hb1 K0
  go_wp2_with fail
  refine (Nb.out _ _ _ (KB.out.below K1.out.2.2)).mono ?_
  rintro e2 w2 ⟨rfl, hb2⟩
  have K2 := Lib.hid (K1.out.go hb2)
  clear hb2 K1
  go_wp2_with fail
  refine (Hx.out _ _ _ (KA.out.below K2.out.2.2).row).mono ?_
  rintro e3 w3 ⟨A3, c3, rfl, hr3, hb3⟩
  have K3 := Lib.hid (K2.out.addM hb3 hr3)
  clear hr3 hb3 K2
  go_wp2_with fail
  refine (Hy.out _ _ _ (KB.out.below K3.out.2.2).row).mono ?_
  rintro e4 w4 ⟨A4, c4, rfl, hr4, hb4⟩
  have K4 := Lib.hid (K3.out.addM hb4 hr4)
  clear hr4 hb4 K3
  go_wp2_with fail
  refine (Hu.out _ _ _ _ _ (K4.out.2.1 _ (List.mem_cons_of_mem _ List.mem_cons_self)) (K4.out.2.1 _ List.mem_cons_self)).mono ?_
  rintro e5 w5 ⟨A5, c5, rfl, hr5, hb5⟩
  have K5 := Lib.hid (K4.out.addM hb5 hr5)
  clear hr5 hb5 K4
  go_wp2_with fail
  refine (Hi.out _ _ _ _ _ (K5.out.2.1 _ (List.mem_cons_of_mem _ (List.mem_cons_of_mem _ List.mem_cons_self))) (K5.out.2.1 _ (List.mem_cons_of_mem _ List.mem_cons_self))).mono ?_
  rintro e6 w6 ⟨A6, c6, rfl, hr6, hb6⟩
  have K6 := Lib.hid (K5.out.addM hb6 hr6)
  clear hr6 hb6 K5
  go_wp2_with fail
  refine (Hm.out _ _ _ _ _ (K6.out.2.1 _ (List.mem_cons_of_mem _ (List.mem_cons_of_mem _ (List.mem_cons_of_mem _ List.mem_cons_self)))) (K6.out.2.1 _ (List.mem_cons_of_mem _ (List.mem_cons_of_mem _ List.mem_cons_self)))).mono ?_
  rintro e7 w7 ⟨A7, c7, rfl, hr7, hb7⟩
  have K7 := Lib.hid (K6.out.addM hb7 hr7)
  clear hr7 hb7 K6
  go_wp2_with fail
  refine (RC.out _ _ _ (K7.out.2.1 _ (List.mem_cons_of_mem _ (List.mem_cons_of_mem _ (List.mem_cons_of_mem _ (List.mem_cons_of_mem _ List.mem_cons_self)))))).mono ?_
  rintro e8 w8 ⟨rfl, hb8⟩
  have K8 := Lib.hid (K7.out.go hb8)
  clear hb8 K7
  go_wp2_with fail
  refine (RU.out _ _ _ (K8.out.2.1 _ (List.mem_cons_of_mem _ (List.mem_cons_of_mem _ List.mem_cons_self)))).mono ?_
  rintro e9 w9 ⟨rfl, hb9⟩
  have K9 := Lib.hid (K8.out.go hb9)
  clear hb9 K8
  go_wp2_with fail
  refine (RI.out _ _ _ (K9.out.2.1 _ (List.mem_cons_of_mem _ List.mem_cons_self))).mono ?_
  rintro e10 w10 ⟨rfl, hb10⟩
  have K10 := Lib.hid (K9.out.go hb10)
  clear hb10 K9
  go_wp2_with fail
  refine (RM.out _ _ _ (K10.out.2.1 _ List.mem_cons_self)).mono ?_
  rintro e11 w11 ⟨rfl, hb11⟩
  have K11 := Lib.hid (K10.out.go hb11)
  clear hb11 K10
  go_wp2_with fail
  have Ia := Lib.hid (KA.out.below K11.out.2.2); have Ib := Lib.hid (KB.out.below K11.out.2.2)
  have IC := Lib.hid (K11.out.2.1 _ (List.mem_cons_of_mem _ (List.mem_cons_of_mem _ (List.mem_cons_of_mem _ (List.mem_cons_of_mem _ List.mem_cons_self)))))
  have ID := Lib.hid (K11.out.2.1 _ (List.mem_cons_of_mem _ (List.mem_cons_of_mem _ (List.mem_cons_of_mem _ List.mem_cons_self))))
  have IU := Lib.hid (K11.out.2.1 _ (List.mem_cons_of_mem _ (List.mem_cons_of_mem _ List.mem_cons_self)))
  have II := Lib.hid (K11.out.2.1 _ (List.mem_cons_of_mem _ List.mem_cons_self))
  have IM := Lib.hid (K11.out.2.1 _ List.mem_cons_self)
  have HW := Lib.hid K11.out.2.2
  have HB0 := Lib.hid (Below.refl w11.heap.size w11)
  clear K11 KA KB HSM Na Nb Hx Hy Hu Hi Hm RC RU RI RM
  go_loopw [16, 17, 18, 19] (fun one two com z wr => ∃ Z : Nat, Z ≤ 8 ∧ z = .int .i64 Z ∧ one = .int .i64 (cnt9 p Z 0 0) ∧ two = .int .i64 (cnt9 q Z 0 0) ∧ com = .int .i64 (cnt9 (fAnd9 p q) Z 0 0) ∧ Hid (Below w11.heap.size w11 wr)) (fun _ _ _ z _ => 8 - (intOf z).toNat)
  case atStart => exact ⟨0, by omega, rfl, rfl, rfl, rfl, HB0⟩
  case round =>
    clear HB0
    obtain ⟨Z, hZ, rfl, rfl, rfl, rfl, HB⟩ := hrel
    by_cases hlz : Z < 8
    · have z1 : (Z : Int) < 8 := by omega
      go_wp2_with fail
      go_loopw [16, 17, 18, 20] (fun one two com x wr => ∃ X : Nat, X ≤ 8 ∧ x = .int .i64 X ∧ one = .int .i64 (cnt9 p Z X 0) ∧ two = .int .i64 (cnt9 q Z X 0) ∧ com = .int .i64 (cnt9 (fAnd9 p q) Z X 0) ∧ Hid (Below w11.heap.size w11 wr)) (fun _ _ _ x _ => 8 - (intOf x).toNat)
      case atStart => exact ⟨0, by omega, rfl, rfl, rfl, rfl, HB⟩
      case round =>
        clear HB
        obtain ⟨X, hX, rfl, rfl, rfl, rfl, HB⟩ := hrel
        by_cases hlx : X < 8
        · have x1 : (X : Int) < 8 := by omega
          go_wp2_with fail
          go_loopw [16, 17, 18, 21] (fun one two com y wr => ∃ Y : Nat, Y ≤ 8 ∧ y = .int .i64 Y ∧ one = .int .i64 (cnt9 p Z X Y) ∧ two = .int .i64 (cnt9 q Z X Y) ∧ com = .int .i64 (cnt9 (fAnd9 p q) Z X Y) ∧ Hid (Below w11.heap.size w11 wr)) (fun _ _ _ y _ => 8 - (intOf y).toNat)
          case atStart => exact ⟨0, by omega, rfl, rfl, rfl, rfl, HB⟩
          case round =>
            clear HB
            obtain ⟨Y, hY, rfl, rfl, rfl, rfl, HB⟩ := hrel
            by_cases hly : Y < 8
            · have y1 : (Y : Int) < 8 := by omega
              have Da := Lib.hid (fun (w' : World) (h : Below w11.heap.size w11 w') => Ca.out w' _ _ (X : Int) (Y : Int) (Z : Int) (Ia.out.below h))
              have Db := Lib.hid (fun (w' : World) (h : Below w11.heap.size w11 w') => Cb.out w' _ _ (X : Int) (Y : Int) (Z : Int) (Ib.out.below h))
              have DC := Lib.hid (fun (w' : World) (h : Below w11.heap.size w11 w') => KC.out w' _ _ (X : Int) (Y : Int) (Z : Int) (IC.out.below h))
              have DU := Lib.hid (fun (w' : World) (h : Below w11.heap.size w11 w') => KU.out w' _ _ (X : Int) (Y : Int) (Z : Int) (IU.out.below h))
              have DI := Lib.hid (fun (w' : World) (h : Below w11.heap.size w11 w') => KI.out w' _ _ (X : Int) (Y : Int) (Z : Int) (II.out.below h))
              have DM := Lib.hid (fun (w' : World) (h : Below w11.heap.size w11 w') => KM.out w' _ _ (X : Int) (Y : Int) (Z : Int) (IM.out.below h))
              have b0 := cnt9_bd p hZ hX hY; have b1 := cnt9_bd q hZ hX hY; have b2 := cnt9_bd (fAnd9 p q) hZ hX hY
              have N0 := Lib.hid (cnt9_y p Z X Y); have N1 := Lib.hid (cnt9_y q Z X Y); have N2 := Lib.hid (cnt9_y (fAnd9 p q) Z X Y)
              have eU : fOr9 p q (X : Int) (Y : Int) (Z : Int) = (p (X : Int) (Y : Int) (Z : Int) || q (X : Int) (Y : Int) (Z : Int)) := rfl
              have eI : fAnd9 p q (X : Int) (Y : Int) (Z : Int) = (p (X : Int) (Y : Int) (Z : Int) && q (X : Int) (Y : Int) (Z : Int)) := rfl
              have eM : fNot9 p q (X : Int) (Y : Int) (Z : Int) = (p (X : Int) (Y : Int) (Z : Int) && !(q (X : Int) (Y : Int) (Z : Int))) := rfl
              rw [eU] at DU; rw [eI] at DI N2; rw [eM] at DM
              clear eU eI eM
              generalize p (X : Int) (Y : Int) (Z : Int) = pv at *
              generalize q (X : Int) (Y : Int) (Z : Int) = qv at *
              generalize cnt9 p Z X Y = n0 at *
              generalize cnt9 q Z X Y = n1 at *
              generalize cnt9 (fAnd9 p q) Z X Y = n2 at *
              have r0 : IntKind.i64.wrap (n0 + 1) = n0 + 1 := IntWalk.i64_in _ (by omega)
              have r1 : IntKind.i64.wrap (n1 + 1) = n1 + 1 := IntWalk.i64_in _ (by omega)
              have r2 : IntKind.i64.wrap (n2 + 1) = n2 + 1 := IntWalk.i64_in _ (by omega)
              clear b0 b1 b2
              clear VC VD VI VU VM SCD P8 P1 HW
              cases pv with
              | false =>
                cases qv with
                | false =>
                  go_wp2_with fail
                  refine (Da.out _ HB.out).mono ?_
                  rintro e v0 ⟨rfl, hb⟩
                  have S0 := Lib.hid (HB.out.trans (hb.mono HB.out.size)); clear hb HB
                  go_wp2_with fail
                  refine (Db.out _ S0.out).mono ?_
                  rintro e v1 ⟨rfl, hb⟩
                  have S1 := Lib.hid (S0.out.trans (hb.mono S0.out.size)); clear hb S0
                  go_wp2_with fail
                  refine (DC.out _ S1.out).mono ?_
                  rintro e v2 ⟨rfl, hb⟩
                  have S2 := Lib.hid (S1.out.trans (hb.mono S1.out.size)); clear hb S1
                  go_wp2_with fail
                  refine (DU.out _ S2.out).mono ?_
                  rintro e v3 ⟨rfl, hb⟩
                  have S3 := Lib.hid (S2.out.trans (hb.mono S2.out.size)); clear hb S2
                  go_wp2_with fail
                  refine (DI.out _ S3.out).mono ?_
                  rintro e v4 ⟨rfl, hb⟩
                  have S4 := Lib.hid (S3.out.trans (hb.mono S3.out.size)); clear hb S3
                  go_wp2_with fail
                  refine (DM.out _ S4.out).mono ?_
                  rintro e v5 ⟨rfl, hb⟩
                  have S5 := Lib.hid (S4.out.trans (hb.mono S4.out.size)); clear hb S4
                  go_wp2_with fail
                  go_roundw
                  case rel => exact ⟨Y + 1, by omega, by go_num, by rw [N0.out]; rfl, by rw [N1.out]; rfl, by rw [N2.out]; rfl, S5⟩
                  case measure => simp [intOf]; omega
                | true =>
                  go_wp2_with fail
                  refine (Da.out _ HB.out).mono ?_
                  rintro e v0 ⟨rfl, hb⟩
                  have S0 := Lib.hid (HB.out.trans (hb.mono HB.out.size)); clear hb HB
                  go_wp2_with fail
                  refine (Db.out _ S0.out).mono ?_
                  rintro e v1 ⟨rfl, hb⟩
                  have S1 := Lib.hid (S0.out.trans (hb.mono S0.out.size)); clear hb S0
                  go_wp2_with fail
                  refine (DC.out _ S1.out).mono ?_
                  rintro e v2 ⟨rfl, hb⟩
                  have S2 := Lib.hid (S1.out.trans (hb.mono S1.out.size)); clear hb S1
                  go_wp2_with fail
                  refine (DU.out _ S2.out).mono ?_
                  rintro e v3 ⟨rfl, hb⟩
                  have S3 := Lib.hid (S2.out.trans (hb.mono S2.out.size)); clear hb S2
                  go_wp2_with fail
                  refine (DI.out _ S3.out).mono ?_
                  rintro e v4 ⟨rfl, hb⟩
                  have S4 := Lib.hid (S3.out.trans (hb.mono S3.out.size)); clear hb S3
                  go_wp2_with fail
                  refine (DM.out _ S4.out).mono ?_
                  rintro e v5 ⟨rfl, hb⟩
                  have S5 := Lib.hid (S4.out.trans (hb.mono S4.out.size)); clear hb S4
                  go_wp2_with fail
                  go_roundw
                  case rel => exact ⟨Y + 1, by omega, by go_num, by rw [N0.out]; rfl, by rw [N1.out]; rfl, by rw [N2.out]; rfl, S5⟩
                  case measure => simp [intOf]; omega
              | true =>
                cases qv with
                | false =>
                  go_wp2_with fail
                  refine (Da.out _ HB.out).mono ?_
                  rintro e v0 ⟨rfl, hb⟩
                  have S0 := Lib.hid (HB.out.trans (hb.mono HB.out.size)); clear hb HB
                  go_wp2_with fail
                  refine (Db.out _ S0.out).mono ?_
                  rintro e v1 ⟨rfl, hb⟩
                  have S1 := Lib.hid (S0.out.trans (hb.mono S0.out.size)); clear hb S0
                  go_wp2_with fail
                  refine (DC.out _ S1.out).mono ?_
                  rintro e v2 ⟨rfl, hb⟩
                  have S2 := Lib.hid (S1.out.trans (hb.mono S1.out.size)); clear hb S1
                  go_wp2_with fail
                  refine (DU.out _ S2.out).mono ?_
                  rintro e v3 ⟨rfl, hb⟩
                  have S3 := Lib.hid (S2.out.trans (hb.mono S2.out.size)); clear hb S2
                  go_wp2_with fail
                  refine (DI.out _ S3.out).mono ?_
                  rintro e v4 ⟨rfl, hb⟩
                  have S4 := Lib.hid (S3.out.trans (hb.mono S3.out.size)); clear hb S3
                  go_wp2_with fail
                  refine (DM.out _ S4.out).mono ?_
                  rintro e v5 ⟨rfl, hb⟩
                  have S5 := Lib.hid (S4.out.trans (hb.mono S4.out.size)); clear hb S4
                  go_wp2_with fail
                  go_roundw
                  case rel => exact ⟨Y + 1, by omega, by go_num, by rw [N0.out]; rfl, by rw [N1.out]; rfl, by rw [N2.out]; rfl, S5⟩
                  case measure => simp [intOf]; omega
                | true =>
                  go_wp2_with fail
                  refine (Da.out _ HB.out).mono ?_
                  rintro e v0 ⟨rfl, hb⟩
                  have S0 := Lib.hid (HB.out.trans (hb.mono HB.out.size)); clear hb HB
                  go_wp2_with fail
                  refine (Db.out _ S0.out).mono ?_
                  rintro e v1 ⟨rfl, hb⟩
                  have S1 := Lib.hid (S0.out.trans (hb.mono S0.out.size)); clear hb S0
                  go_wp2_with fail
                  refine (DC.out _ S1.out).mono ?_
                  rintro e v2 ⟨rfl, hb⟩
                  have S2 := Lib.hid (S1.out.trans (hb.mono S1.out.size)); clear hb S1
                  go_wp2_with fail
                  refine (DU.out _ S2.out).mono ?_
                  rintro e v3 ⟨rfl, hb⟩
                  have S3 := Lib.hid (S2.out.trans (hb.mono S2.out.size)); clear hb S2
                  go_wp2_with fail
                  refine (DI.out _ S3.out).mono ?_
                  rintro e v4 ⟨rfl, hb⟩
                  have S4 := Lib.hid (S3.out.trans (hb.mono S3.out.size)); clear hb S3
                  go_wp2_with fail
                  refine (DM.out _ S4.out).mono ?_
                  rintro e v5 ⟨rfl, hb⟩
                  have S5 := Lib.hid (S4.out.trans (hb.mono S4.out.size)); clear hb S4
                  go_wp2_with fail
                  go_roundw
                  case rel => exact ⟨Y + 1, by omega, by go_num, by rw [N0.out]; rfl, by rw [N1.out]; rfl, by rw [N2.out]; rfl, S5⟩
                  case measure => simp [intOf]; omega
            · obtain rfl : Y = 8 := by omega
              go_wp2_with fail
              go_roundw
              case rel => exact ⟨X + 1, by omega, by go_num, by rw [cnt9_x], by rw [cnt9_x], by rw [cnt9_x], HB⟩
              case measure => simp [intOf]; omega
        · obtain rfl : X = 8 := by omega
          go_wp2_with fail
          go_roundw
          case rel => exact ⟨Z + 1, by omega, by go_num, by rw [cnt9_z], by rw [cnt9_z], by rw [cnt9_z], HB⟩
          case measure => simp [intOf]; omega
    · obtain rfl : Z = 8 := by omega
      have b0 := cnt9_bd p (Z := 8) (X := 0) (Y := 0) (by omega) (by omega) (by omega)
      have b1 := cnt9_bd q (Z := 8) (X := 0) (Y := 0) (by omega) (by omega) (by omega)
      have b2 := cnt9_bd (fAnd9 p q) (Z := 8) (X := 0) (Y := 0) (by omega) (by omega) (by omega)
      have Q8 := Lib.hid (fun (w' : World) (h : Below w11.heap.size w11 w') => KC.out w' _ _ 0 0 8 (IC.out.below h))
      have Q1 := Lib.hid (fun (w' : World) (h : Below w11.heap.size w11 w') => KC.out w' _ _ (-1) 0 0 (IC.out.below h))
      rw [P8.out] at Q8; rw [P1.out] at Q1
      clear Ca Cb KC KU KI KM Ia Ib
      generalize cnt9 p 8 0 0 = n0 at *
      generalize cnt9 q 8 0 0 = n1 at *
      generalize cnt9 (fAnd9 p q) 8 0 0 = n2 at *
      have r0 : IntKind.i64.wrap (n0 + n1) = n0 + n1 := IntWalk.i64_in _ (by omega)
      have r1 : IntKind.i64.wrap (n0 + n1 - n2) = n0 + n1 - n2 := IntWalk.i64_in _ (by omega)
      have r2 : IntKind.i64.wrap (n0 - n2) = n0 - n2 := IntWalk.i64_in _ (by omega)
      clear b0 b1 b2
      go_wp2_with fail
      refine (VC.out _ _ _ (IC.out.below HB.out)).mono ?_
      rintro e v0 ⟨rfl, hb⟩
      have S0 := Lib.hid (HB.out.trans (hb.mono HB.out.size)); clear hb HB
      go_wp2_with fail
      refine (VD.out _ _ _ (ID.out.below S0.out)).mono ?_
      rintro e v1 ⟨rfl, hb⟩
      have S1 := Lib.hid (S0.out.trans (hb.mono S0.out.size)); clear hb S0
      go_wp2_with fail
      refine (VI.out _ _ _ (II.out.below S1.out)).mono ?_
      rintro e v2 ⟨rfl, hb⟩
      have S2 := Lib.hid (S1.out.trans (hb.mono S1.out.size)); clear hb S1
      go_wp2_with fail
      refine (VU.out _ _ _ (IU.out.below S2.out)).mono ?_
      rintro e v3 ⟨rfl, hb⟩
      have S3 := Lib.hid (S2.out.trans (hb.mono S2.out.size)); clear hb S2
      go_wp2_with fail
      refine (VM.out _ _ _ (IM.out.below S3.out)).mono ?_
      rintro e v4 ⟨rfl, hb⟩
      have S4 := Lib.hid (S3.out.trans (hb.mono S3.out.size)); clear hb S3
      go_wp2_with fail
      have HS := Lib.hid (SCD.out _ _ _ _ _ (IC.out.below S4.out) (ID.out.below S4.out))
      clear VC VD VI VU VM SCD IC ID IU II IM
      by_cases e1 : n0 = n2
      · by_cases e2 : n1 = n2
        · skip
          have ev : decide (n0 = n2 ∧ n1 = n2) = true := by simp [e1, e2]
          rw [ev] at HS
          clear ev
          have f1 : (n0 == n2) = true := by simp [e1]
          have f2 : (n1 == n2) = true := by simp [e2]
          refine HS.out.mono ?_
          rintro e v5 ⟨rfl, hb⟩
          have S5 := Lib.hid (S4.out.trans (hb.mono S4.out.size)); clear hb S4
          go_wp2_with fail
          refine (Q8.out _ S5.out).mono ?_
          rintro e v6 ⟨rfl, hb⟩
          have S6 := Lib.hid (S5.out.trans (hb.mono S5.out.size)); clear hb S5
          go_wp2_with fail
          refine (Q1.out _ S6.out).mono ?_
          rintro e v7 ⟨rfl, hb⟩
          have S7 := Lib.hid (S6.out.trans (hb.mono S6.out.size)); clear hb S6
          go_wp2_with fail
          go_ret
          exact ⟨by first | rfl | (rw [f2]; rfl) | (rw [f1]; rfl) | (rw [f1, f2]; rfl) | simp [f1, f2], HW.out.trans (S7.out.mono HW.out.size)⟩
        · skip
          have ev : decide (n0 = n2 ∧ n1 = n2) = false := by simp [e1, e2]
          rw [ev] at HS
          clear ev
          have f1 : (n0 == n2) = true := by simp [e1]
          have f2 : (n1 == n2) = false := by simp [e2]
          refine HS.out.mono ?_
          rintro e v5 ⟨rfl, hb⟩
          have S5 := Lib.hid (S4.out.trans (hb.mono S4.out.size)); clear hb S4
          go_wp2_with fail
          refine (Q8.out _ S5.out).mono ?_
          rintro e v6 ⟨rfl, hb⟩
          have S6 := Lib.hid (S5.out.trans (hb.mono S5.out.size)); clear hb S5
          go_wp2_with fail
          refine (Q1.out _ S6.out).mono ?_
          rintro e v7 ⟨rfl, hb⟩
          have S7 := Lib.hid (S6.out.trans (hb.mono S6.out.size)); clear hb S6
          go_wp2_with fail
          go_ret
          exact ⟨by first | rfl | (rw [f2]; rfl) | (rw [f1]; rfl) | (rw [f1, f2]; rfl) | simp [f1, f2], HW.out.trans (S7.out.mono HW.out.size)⟩
      · by_cases e2 : n1 = n2
        · skip
          have ev : decide (n0 = n2 ∧ n1 = n2) = false := by simp [e1, e2]
          rw [ev] at HS
          clear ev
          have f1 : (n0 == n2) = false := by simp [e1]
          have f2 : (n1 == n2) = true := by simp [e2]
          refine HS.out.mono ?_
          rintro e v5 ⟨rfl, hb⟩
          have S5 := Lib.hid (S4.out.trans (hb.mono S4.out.size)); clear hb S4
          go_wp2_with fail
          refine (Q8.out _ S5.out).mono ?_
          rintro e v6 ⟨rfl, hb⟩
          have S6 := Lib.hid (S5.out.trans (hb.mono S5.out.size)); clear hb S5
          go_wp2_with fail
          refine (Q1.out _ S6.out).mono ?_
          rintro e v7 ⟨rfl, hb⟩
          have S7 := Lib.hid (S6.out.trans (hb.mono S6.out.size)); clear hb S6
          go_wp2_with fail
          go_ret
          exact ⟨by first | rfl | (rw [f2]; rfl) | (rw [f1]; rfl) | (rw [f1, f2]; rfl) | simp [f1, f2], HW.out.trans (S7.out.mono HW.out.size)⟩
        · skip
          have ev : decide (n0 = n2 ∧ n1 = n2) = false := by simp [e1, e2]
          rw [ev] at HS
          clear ev
          have f1 : (n0 == n2) = false := by simp [e1]
          have f2 : (n1 == n2) = false := by simp [e2]
          refine HS.out.mono ?_
          rintro e v5 ⟨rfl, hb⟩
          have S5 := Lib.hid (S4.out.trans (hb.mono S4.out.size)); clear hb S4
          go_wp2_with fail
          refine (Q8.out _ S5.out).mono ?_
          rintro e v6 ⟨rfl, hb⟩
          have S6 := Lib.hid (S5.out.trans (hb.mono S5.out.size)); clear hb S5
          go_wp2_with fail
          refine (Q1.out _ S6.out).mono ?_
          rintro e v7 ⟨rfl, hb⟩
          have S7 := Lib.hid (S6.out.trans (hb.mono S6.out.size)); clear hb S6
          go_wp2_with fail
          go_ret
          exact ⟨by first | rfl | (rw [f2]; rfl) | (rw [f1]; rfl) | (rw [f1, f2]; rfl) | simp [f1, f2], HW.out.trans (S7.out.mono HW.out.size)⟩
end Go.Proofs.Yteecfgdicckplaa
