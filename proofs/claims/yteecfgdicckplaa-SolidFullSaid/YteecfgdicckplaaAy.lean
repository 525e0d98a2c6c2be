/-
  SolidFull: the law's walk.
-/
import Derived.Test.YteecfgdicckplaaBh
import Derived.Test.YteecfgdicckplaaBd
set_option linter.unusedVariables false
set_option maxRecDepth 100000
namespace Go.Proofs.Yteecfgdicckplaa
open Go.RowKit

set_option maxHeartbeats 80000000 in
theorem full9_walk (n : Int) (A : Option Addr) (cap : Nat) (S : List Sl) (w : World) (h1 : SlRow0 w A S) (hl : S.length ≤ 9223372036854775807) (hc : S.length ≤ cap) (hs : cap ≤ 9223372036854775807) :
    Calls Try.prog 7 #[.int .i64 n, .slice A S.length cap] w (BlIs true w) := by
  have HSM := Lib.hid (csmall_any w)
  by_cases c1 : n < 1
  · clear h1
    go_enter Try.func7, Try.ntmps7
    go_wp2_with fail
    refine HSM.out.mono ?_
    rintro e w1 ⟨rfl, hb1⟩
    have HB1 := Lib.hid hb1; clear hb1
    go_wp2_with fail
    go_ret
    exact ⟨rfl, HB1.out⟩
  by_cases c2 : 120 < n
  · clear h1
    go_enter Try.func7, Try.ntmps7
    go_wp2_with fail
    refine HSM.out.mono ?_
    rintro e w1 ⟨rfl, hb1⟩
    have HB1 := Lib.hid hb1; clear hb1
    go_wp2_with fail
    go_ret
    exact ⟨rfl, HB1.out⟩
  have HF := Lib.hid (fun (w' : World) (hb : Below w.heap.size w w') => cfew_any A cap S w' (h1.below hb) hl)
  by_cases hf : Few9 S
  case neg =>
    rw [show few9 S = false by rw [← Bool.not_eq_true, few9_iff]; exact hf] at HF
    clear h1 hf
    go_enter Try.func7, Try.ntmps7
    go_wp2_with fail
    refine HSM.out.mono ?_
    rintro e w1 ⟨rfl, hb1⟩
    have HB1 := Lib.hid hb1; clear hb1
    go_wp2_with fail
    refine (HF.out _ HB1.out).mono ?_
    rintro e w2 ⟨rfl, hb2⟩
    have HB2 := Lib.hid (HB1.out.trans (hb2.mono HB1.out.size)); clear hb2
    go_wp2_with fail
    go_ret
    exact ⟨rfl, HB2.out⟩
  case pos =>
    rw [(few9_iff S).2 hf] at HF
    have HIN : Hid (SIn w A cap S) := Lib.hid (few9_in h1 hc hs hf)
    obtain ⟨m, rfl⟩ : ∃ m : Nat, n = m := ⟨n.toNat, by omega⟩
    have hm1 : 1 ≤ m := by omega
    have hm2 : m ≤ 120 := by omega
    obtain ⟨i0, hi9, hz0, hz1, hz2⟩ := info_parts infoBox
    clear h1 hf
    go_enter Try.func7, Try.ntmps7
    go_wp2_with fail
    refine HSM.out.mono ?_
    rintro e w1 ⟨rfl, hb1⟩
    have HB1 := Lib.hid hb1; clear hb1 HSM
    go_wp2_with fail
    refine (HF.out _ HB1.out).mono ?_
    rintro e w2 ⟨rfl, hb2⟩
    have K0 : Hid (w2.ownsRow w.heap.size 39 6 (.slice none 0 0) 0 (bxcells (cubes9 0)) ∧ Below w.heap.size w w2) := Lib.hid ⟨World.ownsRow_nil _ _ _ _, HB1.out.trans (hb2.mono HB1.out.size)⟩
    clear hb2 HB1 HF
    go_wp2_with fail
    clear c1 c2
    go_loopw [6, 7] (fun v i wr => ∃ (k : Nat) (vl : Value), k ≤ m ∧ i = .int .i64 k ∧ vl = v ∧ Hid (wr.ownsRow w.heap.size 39 6 vl k (bxcells (cubes9 k)) ∧ Below w.heap.size w wr)) (fun _ i _ => m - (intOf i).toNat)
    case atStart => exact ⟨0, _, by omega, rfl, rfl, K0⟩
    case round =>
      clear K0
      obtain ⟨k, vl, hk, rfl, rfl, HK⟩ := hrel
      by_cases hlt : k < m
      · have j0 : (0 : Int) ≤ (k : Int) := by omega
        have j1 : (k : Int) < (m : Int) := by omega
        have HSN : Hid (cubes9 (k + 1) = cubes9 k ++ [⟨⟨3, 3, 4, 4⟩, 2 * (k : Int), 2 * (k : Int) + 1⟩]) := Lib.hid (cubes9_next k)
        have u3 : IntKind.i64.wrap (2 * (k : Int)) = 2 * (k : Int) := IntWalk.i64_in _ (by omega)
        have u5 : IntKind.i64.wrap (2 * (k : Int) + 1) = 2 * (k : Int) + 1 := IntWalk.i64_in _ (by omega)
        have HO := Lib.hid HK.out.1
        have hsz := HK.out.2.size
        go_wp2_with (at_builtin; refine wpList_append_own _ rfl _ _ 22 rfl w.heap.size 39 i0 (.agg #[.int .i64 0, .int .i64 0, .int .i64 0, .int .i64 0, .int .i64 0, .int .i64 0]) 6 48 Try.underlying22 hi9 hz0 hz1 hz2 rfl (by decide) _ _ _ rfl (HO.out.alloc _) ⟨wr.heap.size, 0, none⟩ 1 1 [.int .i64 3, .int .i64 3, .int .i64 4, .int .i64 4, .int .i64 (2 * (k : Int)), .int .i64 (2 * (k : Int) + 1)] rfl rfl ?c1 ?c2 ?c3 ?c4 ?c5 ?_)
        case c1 =>
          intro t u ht
          match t, ht with
          | 0, ht => simp at ht; subst ht; simp [Addr.add]
          | 1, ht => simp at ht; subst ht; simp [Addr.add]
          | 2, ht => simp at ht; subst ht; simp [Addr.add]
          | 3, ht => simp at ht; subst ht; simp [Addr.add]
          | 4, ht => simp at ht; subst ht; simp [Addr.add]
          | 5, ht => simp at ht; subst ht; simp [Addr.add]
        case c2 => intro u hu; simp only [List.mem_cons, List.not_mem_nil, or_false] at hu; rcases hu with rfl | rfl | rfl | rfl | rfl | rfl <;> rfl
        case c3 => unfold maxLen; omega
        case c4 => omega
        case c5 => simp; omega
        intro v' w4 hown' hgr _
        have HX : Hid (w4.ownsRow w.heap.size 39 6 v' (k + 1) (bxcells (cubes9 (k + 1))) ∧ Below w.heap.size w w4) := Lib.hid ⟨by rw [HSN.out, bxcells_append]; exact hown', Below.grown (w := wr.alloc (.cells #[.int .i64 3, .int .i64 3, .int .i64 4, .int .i64 4, .int .i64 (2 * (k : Int)), .int .i64 (2 * (k : Int) + 1)] 39)) (HK.out.2.alloc hsz _) hgr (by simp; omega) (fun k hk => (HO.out.lt k hk).1)⟩
        clear hown' hgr HO HK u3 u5
        go_wp2_with fail
        go_roundw
        case rel => exact ⟨k + 1, _, by omega, by go_num, rfl, HX⟩
        case measure => simp [intOf]; omega
      · obtain rfl : k = m := by omega
        have ho : wr.ownsRow w.heap.size 39 6 vl (cubes9 k).length (bxcells (cubes9 k)) := by rw [cubes9_len]; exact HK.out.1
        obtain ⟨A1, c1, hv, hr1, _, _⟩ := own_boxes ho
        rw [cubes9_len] at hv
        subst hv
        have HOF0 := bof_any A1 c1 (cubes9 k) wr hr1 (by rw [cubes9_len]; omega)
        rw [cubes9_len] at HOF0
        have HBR := Lib.hid HK.out.2
        clear ho hr1 HK
        by_cases h80 : k ≤ 80
        · rw [(full9_small h80).1] at HOF0
          have hof : Calls Try.prog 10 #[.slice A1 k c1] wr (RS9 (tow9 k) k 0 wr) := HOF0.mono fun e w2 h2 => by
            obtain ⟨A2, c2, rfl, hr, hb⟩ := h2
            exact ⟨A2, c2, by show Ending.returned (.tuple #[.slice A2 (tow9 k).length c2, .int .i64 0]) = _; rw [tow9_len], hr, hb⟩
          have HOF := Lib.hid hof
          have HVF := Lib.hid (show Vol9 (tow9 k) k (k : Int) from by
            have := vol9_of (full9_small h80).2
            rw [tow9_len, tow9_vol] at this; exact this)
          clear HOF0 hof
          have s1 : (k : Int) ≤ 80 := by omega
          go_wp2_with fail
          refine HOF.out.mono ?_
          rintro e2 w3 ⟨A2, c2, rfl, hri, hb2⟩
          have HRI := Lib.hid hri
          have HB2 := Lib.hid (HBR.out.trans (hb2.mono HBR.out.size)); clear hri hb2 HOF HBR
          go_wp2_with fail
          refine (HVF.out _ _ _ HRI.out).mono ?_
          rintro e2 w4 ⟨rfl, hb5⟩
          have HBB := Lib.hid (HB2.out.trans (hb5.mono HB2.out.size)); clear hb5 HB2 HVF HRI
          by_cases hreg : SolP S
          · have HRT := Lib.hid (fun w' (hb : Below w.heap.size w w') => bright_yes (A := A) (cap := cap) (S := S) (HIN.out.below hb) hreg)
            clear hreg
            go_wp2_with fail
            refine (HRT.out _ HBB.out).mono ?_
            rintro e3 q3 ⟨rfl, hb3⟩
            have HB3 := Lib.hid (HBB.out.trans (hb3.mono HBB.out.size)); clear hb3 HBB
            go_wp2_with fail
            go_ret
            exact ⟨rfl, HB3.out⟩
          · have HRT := Lib.hid (fun w' (hb : Below w.heap.size w w') => bright_no (A := A) (cap := cap) (S := S) (HIN.out.below hb) hreg)
            have HU := Lib.hid (op9_of (P := S) (Q := [⟨0, 1, [⟨0, 0, 1, 1⟩]⟩]) (R := []) (er := 1) bunion_any (opS_arg (fun h => hreg h.1)))
            have HC := Lib.hid (op9_of (P := [⟨0, 1, [⟨0, 0, 1, 1⟩]⟩]) (Q := S) (R := []) (er := 1) bcommon_any (opS_arg (fun h => hreg h.2)))
            have HM := Lib.hid (op9_of (P := [⟨0, 1, [⟨0, 0, 1, 1⟩]⟩]) (Q := S) (R := []) (er := 1) bminus_any (opS_arg (fun h => hreg h.2)))
            have HVO := Lib.hid (fun w' (hb : Below w.heap.size w w') => bvolume_no (A := A) (cap := cap) (S := S) (HIN.out.below hb) hreg)
            have HBX := Lib.hid (fun w' (hb : Below w.heap.size w w') => show Calls Try.prog 25 #[.slice A S.length cap] w' (Len9 0 w') from (bboxes_no (A := A) (cap := cap) (S := S) (HIN.out.below hb) hreg).mono fun e w2 hk => by
              obtain ⟨v, rfl, ho, hb⟩ := hk
              obtain ⟨A', c', rfl, _⟩ := own_boxes ho
              exact ⟨A', c', rfl, hb⟩)
            have HTO := Lib.hid (fun w' (hb : Below w.heap.size w w') => btop_no (A := A) (cap := cap) (S := S) (HIN.out.below hb) hreg 0 0)
            have HSE := Lib.hid (fun w' (hb : Below w.heap.size w w') => show Calls Try.prog 21 #[.slice A S.length cap, .int .i64 0] w' (Len9 0 w') from (bsection_no (A := A) (cap := cap) (S := S) (HIN.out.below hb) hreg 0).mono fun e w2 hk => by
              obtain ⟨v, rfl, ho, hb⟩ := hk
              obtain ⟨A', c', rfl, _⟩ := own_rects ho
              exact ⟨A', c', rfl, hb⟩)
            have HHA := Lib.hid (fun w' (hb : Below w.heap.size w w') => show Calls Try.prog 16 #[.slice A S.length cap, .int .i64 0, .int .i64 0, .int .i64 0] w' (BlIs false w') from by
              have := bhas_any A cap S 0 0 0 w' (HIN.out.below hb)
              rw [hasGS_no hreg] at this; exact this)
            have HSQ := Lib.hid (fun (w' : World) => csquare_any 0 0 1 1 w')
            clear hreg
            go_wp2_with fail
            refine (HRT.out _ HBB.out).mono ?_
            rintro e3 q3 ⟨rfl, hb3⟩
            have HB3 := Lib.hid (HBB.out.trans (hb3.mono HBB.out.size)); clear hb3 HBB HRT
            go_wp2_with fail
            refine (HSQ.out _).mono ?_
            rintro e4 q4 ⟨A4, c4, rfl, hr4, hb4⟩
            have K4 := Lib.hid (show SK9 [(A4, c4, [⟨0, 0, 1, 1⟩])] [] w q4 from ((show SK9 [] [] w q3 from ⟨fun p hp => (by cases hp), fun p hp => (by cases hp), HB3.out⟩).addR hb4 hr4))
            clear hr4 hb4 HSQ HB3
            go_wp2_with fail
            have K5 := Lib.hid (K4.out.addM ((Below.refl _ _).alloc (Nat.le_refl _) _) (show SIn _ _ 1 [⟨0, 1, [⟨0, 0, 1, 1⟩]⟩] from lit_slabs q4 [⟨⟨0, 1, [⟨0, 0, 1, 1⟩]⟩, A4, c4⟩] (fun t ht => by
              rw [List.mem_singleton] at ht; subst ht
              exact K4.out.1 _ List.mem_cons_self) _ rfl _ rfl (by simp)))
            clear K4
            refine (HU.out _ _ _ _ _ (HIN.out.below K5.out.2.2) (K5.out.2.1 _ List.mem_cons_self)).mono ?_
            rintro e5 q5 ⟨A5, c5, rfl, _, hb5⟩
            have K6 := Lib.hid (K5.out.go hb5); clear hb5 K5
            go_wp2_with fail
            refine (HC.out _ _ _ _ _ (K6.out.2.1 _ List.mem_cons_self) (HIN.out.below K6.out.2.2)).mono ?_
            rintro e6 q6 ⟨A6, c6, rfl, _, hb6⟩
            have K7 := Lib.hid (K6.out.go hb6); clear hb6 K6
            go_wp2_with fail
            refine (HM.out _ _ _ _ _ (K7.out.2.1 _ List.mem_cons_self) (HIN.out.below K7.out.2.2)).mono ?_
            rintro e7 q7 ⟨A7, c7, rfl, _, hb7⟩
            have K8 := Lib.hid (K7.out.go hb7); clear hb7 K7
            go_wp2_with fail
            refine (HVO.out _ K8.out.2.2).mono ?_
            rintro e8 q8 ⟨rfl, hb8⟩
            have K9 := Lib.hid (K8.out.go hb8); clear hb8 K8
            go_wp2_with fail
            refine (HBX.out _ K9.out.2.2).mono ?_
            rintro e9 q9 ⟨A9, c9, rfl, hb9⟩
            have K10 := Lib.hid (K9.out.go hb9); clear hb9 K9
            go_wp2_with fail
            refine (HTO.out _ K10.out.2.2).mono ?_
            rintro e10 q10 ⟨rfl, hb10⟩
            have K11 := Lib.hid (K10.out.go hb10); clear hb10 K10
            go_wp2_with fail
            refine (HSE.out _ K11.out.2.2).mono ?_
            rintro e11 q11 ⟨A11, c11, rfl, hb11⟩
            have K12 := Lib.hid (K11.out.go hb11); clear hb11 K11
            go_wp2_with fail
            refine (HHA.out _ K12.out.2.2).mono ?_
            rintro e12 q12 ⟨rfl, hb12⟩
            have K13 := Lib.hid (K12.out.go hb12); clear hb12 K12
            go_wp2_with fail
            go_ret
            exact ⟨rfl, K13.out.2.2⟩
        · rw [full9_great (by omega) hm2] at HOF0
          have HOF := Lib.hid (show Calls Try.prog 10 #[.slice A1 k c1] wr (RS9 [] 0 6 wr) from HOF0)
          clear HOF0
          have s1 : ¬ (k : Int) ≤ 80 := by omega
          go_wp2_with fail
          refine HOF.out.mono ?_
          rintro e2 w3 ⟨A2, c2, rfl, _, hb2⟩
          have HBB := Lib.hid (HBR.out.trans (hb2.mono HBR.out.size)); clear hb2 HOF HBR
          by_cases hreg : SolP S
          · have HRT := Lib.hid (fun w' (hb : Below w.heap.size w w') => bright_yes (A := A) (cap := cap) (S := S) (HIN.out.below hb) hreg)
            clear hreg
            go_wp2_with fail
            refine (HRT.out _ HBB.out).mono ?_
            rintro e3 q3 ⟨rfl, hb3⟩
            have HB3 := Lib.hid (HBB.out.trans (hb3.mono HBB.out.size)); clear hb3 HBB
            go_wp2_with fail
            go_ret
            exact ⟨rfl, HB3.out⟩
          · have HRT := Lib.hid (fun w' (hb : Below w.heap.size w w') => bright_no (A := A) (cap := cap) (S := S) (HIN.out.below hb) hreg)
            have HU := Lib.hid (op9_of (P := S) (Q := [⟨0, 1, [⟨0, 0, 1, 1⟩]⟩]) (R := []) (er := 1) bunion_any (opS_arg (fun h => hreg h.1)))
            have HC := Lib.hid (op9_of (P := [⟨0, 1, [⟨0, 0, 1, 1⟩]⟩]) (Q := S) (R := []) (er := 1) bcommon_any (opS_arg (fun h => hreg h.2)))
            have HM := Lib.hid (op9_of (P := [⟨0, 1, [⟨0, 0, 1, 1⟩]⟩]) (Q := S) (R := []) (er := 1) bminus_any (opS_arg (fun h => hreg h.2)))
            have HVO := Lib.hid (fun w' (hb : Below w.heap.size w w') => bvolume_no (A := A) (cap := cap) (S := S) (HIN.out.below hb) hreg)
            have HBX := Lib.hid (fun w' (hb : Below w.heap.size w w') => show Calls Try.prog 25 #[.slice A S.length cap] w' (Len9 0 w') from (bboxes_no (A := A) (cap := cap) (S := S) (HIN.out.below hb) hreg).mono fun e w2 hk => by
              obtain ⟨v, rfl, ho, hb⟩ := hk
              obtain ⟨A', c', rfl, _⟩ := own_boxes ho
              exact ⟨A', c', rfl, hb⟩)
            have HTO := Lib.hid (fun w' (hb : Below w.heap.size w w') => btop_no (A := A) (cap := cap) (S := S) (HIN.out.below hb) hreg 0 0)
            have HSE := Lib.hid (fun w' (hb : Below w.heap.size w w') => show Calls Try.prog 21 #[.slice A S.length cap, .int .i64 0] w' (Len9 0 w') from (bsection_no (A := A) (cap := cap) (S := S) (HIN.out.below hb) hreg 0).mono fun e w2 hk => by
              obtain ⟨v, rfl, ho, hb⟩ := hk
              obtain ⟨A', c', rfl, _⟩ := own_rects ho
              exact ⟨A', c', rfl, hb⟩)
            have HHA := Lib.hid (fun w' (hb : Below w.heap.size w w') => show Calls Try.prog 16 #[.slice A S.length cap, .int .i64 0, .int .i64 0, .int .i64 0] w' (BlIs false w') from by
              have := bhas_any A cap S 0 0 0 w' (HIN.out.below hb)
              rw [hasGS_no hreg] at this; exact this)
            have HSQ := Lib.hid (fun (w' : World) => csquare_any 0 0 1 1 w')
            clear hreg
            go_wp2_with fail
            refine (HRT.out _ HBB.out).mono ?_
            rintro e3 q3 ⟨rfl, hb3⟩
            have HB3 := Lib.hid (HBB.out.trans (hb3.mono HBB.out.size)); clear hb3 HBB HRT
            go_wp2_with fail
            refine (HSQ.out _).mono ?_
            rintro e4 q4 ⟨A4, c4, rfl, hr4, hb4⟩
            have K4 := Lib.hid (show SK9 [(A4, c4, [⟨0, 0, 1, 1⟩])] [] w q4 from ((show SK9 [] [] w q3 from ⟨fun p hp => (by cases hp), fun p hp => (by cases hp), HB3.out⟩).addR hb4 hr4))
            clear hr4 hb4 HSQ HB3
            go_wp2_with fail
            have K5 := Lib.hid (K4.out.addM ((Below.refl _ _).alloc (Nat.le_refl _) _) (show SIn _ _ 1 [⟨0, 1, [⟨0, 0, 1, 1⟩]⟩] from lit_slabs q4 [⟨⟨0, 1, [⟨0, 0, 1, 1⟩]⟩, A4, c4⟩] (fun t ht => by
              rw [List.mem_singleton] at ht; subst ht
              exact K4.out.1 _ List.mem_cons_self) _ rfl _ rfl (by simp)))
            clear K4
            refine (HU.out _ _ _ _ _ (HIN.out.below K5.out.2.2) (K5.out.2.1 _ List.mem_cons_self)).mono ?_
            rintro e5 q5 ⟨A5, c5, rfl, _, hb5⟩
            have K6 := Lib.hid (K5.out.go hb5); clear hb5 K5
            go_wp2_with fail
            refine (HC.out _ _ _ _ _ (K6.out.2.1 _ List.mem_cons_self) (HIN.out.below K6.out.2.2)).mono ?_
            rintro e6 q6 ⟨A6, c6, rfl, _, hb6⟩
            have K7 := Lib.hid (K6.out.go hb6); clear hb6 K6
            go_wp2_with fail
            refine (HM.out _ _ _ _ _ (K7.out.2.1 _ List.mem_cons_self) (HIN.out.below K7.out.2.2)).mono ?_
            rintro e7 q7 ⟨A7, c7, rfl, _, hb7⟩
            have K8 := Lib.hid (K7.out.go hb7); clear hb7 K7
            go_wp2_with fail
            refine (HVO.out _ K8.out.2.2).mono ?_
            rintro e8 q8 ⟨rfl, hb8⟩
            have K9 := Lib.hid (K8.out.go hb8); clear hb8 K8
            go_wp2_with fail
            refine (HBX.out _ K9.out.2.2).mono ?_
            rintro e9 q9 ⟨A9, c9, rfl, hb9⟩
            have K10 := Lib.hid (K9.out.go hb9); clear hb9 K9
            go_wp2_with fail
            refine (HTO.out _ K10.out.2.2).mono ?_
            rintro e10 q10 ⟨rfl, hb10⟩
            have K11 := Lib.hid (K10.out.go hb10); clear hb10 K10
            go_wp2_with fail
            refine (HSE.out _ K11.out.2.2).mono ?_
            rintro e11 q11 ⟨A11, c11, rfl, hb11⟩
            have K12 := Lib.hid (K11.out.go hb11); clear hb11 K11
            go_wp2_with fail
            refine (HHA.out _ K12.out.2.2).mono ?_
            rintro e12 q12 ⟨rfl, hb12⟩
            have K13 := Lib.hid (K12.out.go hb12); clear hb12 K12
            go_wp2_with fail
            go_ret
            exact ⟨rfl, K13.out.2.2⟩
end Go.Proofs.Yteecfgdicckplaa
