/-
  The walk of RegionFull.
-/
import Derived.Test.YtfjmcigjlhgjcaaHw
set_option linter.unusedVariables false
set_option maxRecDepth 100000
namespace Go.Proofs.Ytfjmcigjlhgjcaa
open Go.RowKit

set_option maxHeartbeats 40000000 in
theorem full_walk (n : Int) (A : Option Addr) (cap : Nat) (l : List Rc) (w : World) (hrow : RRow w A l) (hlen : l.length ≤ 9223372036854775807) (hroom : l.length ≤ cap) (hroom2 : cap ≤ 9223372036854775807) :
    Calls Try.prog 8 #[.int .i64 n, .slice A l.length cap] w (BlIs true w) := by
  have HS := Lib.hid (small_any w)
  by_cases c1 : n < 1
  · clear hrow
    go_enter Try.func8, Try.ntmps8
    go_wp2_with fail
    refine HS.out.mono ?_
    rintro e w1 ⟨rfl, hb1⟩
    have HB1 := Lib.hid hb1; clear hb1
    go_wp2_with fail
    go_ret
    exact ⟨rfl, HB1.out⟩
  · by_cases c2 : 450 < n
    · clear hrow
      go_enter Try.func8, Try.ntmps8
      go_wp2_with fail
      refine HS.out.mono ?_
      rintro e w1 ⟨rfl, hb1⟩
      have HB1 := Lib.hid hb1; clear hb1
      go_wp2_with fail
      go_ret
      exact ⟨rfl, HB1.out⟩
    · by_cases c3 : 60 < l.length
      · have c4 : (60 : Int) < (l.length : Int) := by omega
        clear hrow c3
        go_enter Try.func8, Try.ntmps8
        go_wp2_with fail
        refine HS.out.mono ?_
        rintro e w1 ⟨rfl, hb1⟩
        have HB1 := Lib.hid hb1; clear hb1
        go_wp2_with fail
        go_ret
        exact ⟨rfl, HB1.out⟩
      · have c4 : ¬ (60 : Int) < (l.length : Int) := by omega
        have HIN : Hid (RIn w A cap l) := Lib.hid ⟨hrow, by omega, hroom, hroom2⟩
        obtain ⟨m, rfl⟩ : ∃ m : Nat, n = m := ⟨n.toNat, by omega⟩
        have hm1 : 1 ≤ m := by omega
        have hm2 : m ≤ 450 := by omega
        obtain ⟨i0, hi9, hz0, hz1, hz2⟩ := info_parts infoRect
        clear hrow
        go_enter Try.func8, Try.ntmps8
        go_wp2_with fail
        refine HS.out.mono ?_
        rintro e w1 ⟨rfl, hb1⟩
        have K0 : Hid (w1.ownsRow w.heap.size 39 4 (.slice none 0 0) 0 (rcells (singles 0)) ∧ Below w.heap.size w w1) := Lib.hid ⟨World.ownsRow_nil _ _ _ _, hb1⟩
        clear hb1 HS
        go_wp2_with fail
        clear c1 c2 c3 c4
        go_loopw [6, 7] (fun v i wr => ∃ (k : Nat) (vl : Value), k ≤ m ∧ i = .int .i64 k ∧ vl = v ∧ Hid (wr.ownsRow w.heap.size 39 4 vl k (rcells (singles k)) ∧ Below w.heap.size w wr)) (fun _ i _ => m - (intOf i).toNat)
        case atStart => exact ⟨0, _, by omega, rfl, rfl, K0⟩
        case round =>
          clear K0
          obtain ⟨k, vl, hk, rfl, rfl, HK⟩ := hrel
          by_cases hlt : k < m
          · have j0 : (0 : Int) ≤ (k : Int) := by omega
            have j1 : (k : Int) < (m : Int) := by omega
            obtain ⟨P, hP⟩ : ∃ P, P = (k : Int) % 15 := ⟨_, rfl⟩
            obtain ⟨Q, hQ⟩ : ∃ Q, Q = (k : Int) / 15 := ⟨_, rfl⟩
            have p1 : 0 ≤ P := by omega
            have p2 : P ≤ 14 := by omega
            have q1 : 0 ≤ Q := by omega
            have q2 : Q ≤ 30 := by omega
            have HSN : Hid (singles (k + 1) = singles k ++ [⟨2 * P, 2 * Q, 2 * P + 1, 2 * Q + 1⟩]) := Lib.hid (by rw [singles_next, hP, hQ]; rfl)
            have t1 : Int.tmod (k : Int) 15 = P := by rw [Int.tmod_eq_emod_of_nonneg (by omega)]; exact hP.symm
            have t2 : Int.tdiv (k : Int) 15 = Q := by rw [Int.tdiv_eq_ediv_of_nonneg (by omega)]; exact hQ.symm
            have t3 : (k : Int) % 15 = P := hP.symm
            have t4 : (k : Int) / 15 = Q := hQ.symm
            have u1 : IntKind.i64.wrap P = P := IntWalk.i64_in _ (by omega)
            have u2 : IntKind.i64.wrap Q = Q := IntWalk.i64_in _ (by omega)
            have u3 : IntKind.i64.wrap (2 * P) = 2 * P := IntWalk.i64_in _ (by omega)
            have u4 : IntKind.i64.wrap (2 * Q) = 2 * Q := IntWalk.i64_in _ (by omega)
            have u5 : IntKind.i64.wrap (2 * P + 1) = 2 * P + 1 := IntWalk.i64_in _ (by omega)
            have u6 : IntKind.i64.wrap (2 * Q + 1) = 2 * Q + 1 := IntWalk.i64_in _ (by omega)
            clear hP hQ
            have HO := Lib.hid HK.out.1
            have hsz := HK.out.2.size
            go_wp2_with (at_builtin; refine wpList_append_own _ rfl _ _ 22 rfl w.heap.size 39 i0 (.agg #[.int .i64 0, .int .i64 0, .int .i64 0, .int .i64 0]) 4 32 Try.underlying22 hi9 hz0 hz1 hz2 rfl (by decide) _ _ _ rfl (HO.out.alloc _) ⟨wr.heap.size, 0, none⟩ 1 1 [.int .i64 (2 * P), .int .i64 (2 * Q), .int .i64 (2 * P + 1), .int .i64 (2 * Q + 1)] rfl rfl ?c1 ?c2 ?c3 ?c4 ?c5 ?_)
            case c1 =>
              intro t u ht
              match t, ht with
              | 0, ht => simp at ht; subst ht; simp [Addr.add]
              | 1, ht => simp at ht; subst ht; simp [Addr.add]
              | 2, ht => simp at ht; subst ht; simp [Addr.add]
              | 3, ht => simp at ht; subst ht; simp [Addr.add]
            case c2 => intro u hu; simp only [List.mem_cons, List.not_mem_nil, or_false] at hu; rcases hu with rfl | rfl | rfl | rfl <;> rfl
            case c3 => unfold maxLen; omega
            case c4 => omega
            case c5 => simp; omega
            intro v' w4 hown' hgr _
            have HX : Hid (w4.ownsRow w.heap.size 39 4 v' (k + 1) (rcells (singles (k + 1))) ∧ Below w.heap.size w w4) := Lib.hid ⟨by rw [HSN.out, rcells_append]; exact hown', Below.grown (w := wr.alloc (.cells #[.int .i64 (2 * P), .int .i64 (2 * Q), .int .i64 (2 * P + 1), .int .i64 (2 * Q + 1)] 39)) (HK.out.2.alloc hsz _) hgr (by simp; omega) (fun k hk => (HO.out.lt k hk).1)⟩
            clear hown' hgr HO HK t1 t2 t3 t4 u1 u2 u3 u4 u5 u6
            go_wp2_with fail
            go_roundw
            case rel => exact ⟨k + 1, _, by omega, by go_num, rfl, HX⟩
            case measure => simp [intOf]; omega
          · obtain rfl : k = m := by omega
            have ho : wr.ownsRow w.heap.size 39 4 vl (singles k).length (rcells (singles k)) := by rw [singles_len]; exact HK.out.1
            obtain ⟨A1, c1, hv, hr1, _⟩ := own_rects ho
            rw [singles_len] at hv
            subst hv
            have HOF0 := gof_any A1 c1 (singles k) wr hr1 (by rw [singles_len]; omega)
            have HBR := Lib.hid HK.out.2
            clear ho hr1 HK
            by_cases h200 : k ≤ 200
            · have hof : Calls Try.prog 10 #[.slice A1 k c1] wr (RR (formL (singles k)) k 0 wr) := by
                rw [(full_small h200).1, singles_len] at HOF0
                have hfl := (singles_form (n := k) (by omega)).1
                exact HOF0.mono fun e w2 h2 => by
                  have := h2.rr (by show (formL (singles k)).length ≤ _; omega)
                  rw [show (formL (singles k), (0 : Int)).1.length = k from hfl] at this
                  exact this
              have HOF := Lib.hid hof
              have HAF := Lib.hid (fun (w' : World) (A2 : Option Addr) (c2 : Nat) (h : RIn w' A2 c2 (formL (singles k))) => show Calls Try.prog 21 #[.slice A2 k c2] w' (InIs (k : Int) w') from by
                have := garea_yes A2 c2 (formL (singles k)) w' h (full_small h200).2
                rw [(singles_form (n := k) (by omega)).1, (singles_form (n := k) (by omega)).2.1] at this; exact this)
              clear HOF0 hof
              have s1 : (k : Int) ≤ 200 := by omega
              go_wp2_with fail
              refine HOF.out.mono ?_
              rintro e2 w2 ⟨A2, c2, rfl, hri, hb2⟩
              have HRI := Lib.hid hri
              have HB2 := Lib.hid (HBR.out.trans (hb2.mono HBR.out.size)); clear hri hb2 HOF
              go_wp2_with fail
              refine (HAF.out _ _ _ HRI.out).mono ?_
              rintro e2 w5 ⟨rfl, hb5⟩
              have HBB := Lib.hid (HB2.out.trans (hb5.mono HB2.out.size)); clear hb5 HB2 HAF HRI
              by_cases hreg : RegP l
              · have HRT := Lib.hid (fun w' (hb : Below w.heap.size w w') => gright_yes A cap l w' (HIN.out.below hb).row HIN.out.len HIN.out.room HIN.out.room2 hreg)
                clear hreg
                go_wp2_with fail
                refine (HRT.out _ HBB.out).mono ?_
                rintro e3 w3 ⟨rfl, hb3⟩
                have HB3 := Lib.hid (HBB.out.trans (hb3.mono HBB.out.size)); clear hb3 HBB
                go_wp2_with fail
                go_ret
                exact ⟨rfl, HB3.out⟩
              · have HRT := Lib.hid (fun w' (hb : Below w.heap.size w w') => gright_no A cap l w' (HIN.out.below hb).row HIN.out.len HIN.out.room HIN.out.room2 hreg)
                have hop1 : ∀ op b, opR op l b = ([], 1) := fun op b => if_neg (fun h => hreg h.1)
                have hop2 : ∀ op b, opR op b l = ([], 1) := fun op b => if_neg (fun h => hreg h.2)
                have HU := Lib.hid (fun w' (hb : Below w.heap.size w w') (b : Nat) (h : RB w' b [⟨0, 0, 1, 1⟩]) => show Calls Try.prog 15 #[.slice A l.length cap, .slice (some ⟨b, 0, none⟩) 1 1] w' (RR [] 0 1 w') from by
                  have := gunion_any A cap _ 1 l [⟨0, 0, 1, 1⟩] w' (HIN.out.below hb) (h.row (by decide))
                  rw [hop1] at this; exact this.mono fun e w2 h2 => h2.rr (by decide))
                have HC := Lib.hid (fun w' (hb : Below w.heap.size w w') (b : Nat) (h : RB w' b [⟨0, 0, 1, 1⟩]) => show Calls Try.prog 16 #[.slice (some ⟨b, 0, none⟩) 1 1, .slice A l.length cap] w' (RR [] 0 1 w') from by
                  have := gcommon_any _ 1 A cap [⟨0, 0, 1, 1⟩] l w' (h.row (by decide)) (HIN.out.below hb)
                  rw [hop2] at this; exact this.mono fun e w2 h2 => h2.rr (by decide))
                have HM := Lib.hid (fun w' (hb : Below w.heap.size w w') (b : Nat) (h : RB w' b [⟨0, 0, 1, 1⟩]) => show Calls Try.prog 17 #[.slice (some ⟨b, 0, none⟩) 1 1, .slice A l.length cap] w' (RR [] 0 1 w') from by
                  have := gminus_any _ 1 A cap [⟨0, 0, 1, 1⟩] l w' (h.row (by decide)) (HIN.out.below hb)
                  rw [hop2] at this; exact this.mono fun e w2 h2 => h2.rr (by decide))
                have HSH := Lib.hid (fun w' (hb : Below w.heap.size w w') => gshift_no A cap l w' 0 0 (HIN.out.below hb) hreg)
                have HBD := Lib.hid (fun w' (hb : Below w.heap.size w w') => gbounds_no A cap l w' (HIN.out.below hb) hreg)
                have HAR := Lib.hid (fun w' (hb : Below w.heap.size w w') => garea_no A cap l w' (HIN.out.below hb) hreg)
                have HPA := Lib.hid (fun w' (hb : Below w.heap.size w w') => gparts_no A cap l w' (HIN.out.below hb) hreg)
                clear hreg hop1 hop2
                go_wp2_with fail
                refine (HRT.out _ HBB.out).mono ?_
                rintro e3 w3 ⟨rfl, hb3⟩
                have HB3 := Lib.hid (HBB.out.trans (hb3.mono HBB.out.size)); clear hb3 HBB
                go_wp2_with fail
                have K1 := Lib.hid ((show SK [] [] w w3 from ⟨fun p hp => (by cases hp), fun p hp => (by cases hp), HB3.out⟩).new [⟨0, 0, 1, 1⟩] _ rfl w3.heap.size rfl)
                refine (HU.out _ K1.out.2.2 _ (K1.out.1 _ List.mem_cons_self)).mono ?_
                rintro e4 w4 ⟨A4, c4, rfl, _, hb4⟩
                have K2 := Lib.hid (K1.out.go hb4); clear hb4 K1
                go_wp2_with fail
                refine (HC.out _ K2.out.2.2 _ (K2.out.1 _ List.mem_cons_self)).mono ?_
                rintro e5 w5 ⟨A5, c5, rfl, _, hb5⟩
                have K3 := Lib.hid (K2.out.go hb5); clear hb5 K2
                go_wp2_with fail
                refine (HM.out _ K3.out.2.2 _ (K3.out.1 _ List.mem_cons_self)).mono ?_
                rintro e6 w6 ⟨A6, c6, rfl, _, hb6⟩
                have K4 := Lib.hid (K3.out.go hb6); clear hb6 K3
                go_wp2_with fail
                refine (HSH.out _ K4.out.2.2).mono ?_
                rintro e7 w7 ⟨A7, c7, rfl, _, hb7⟩
                have K5 := Lib.hid (K4.out.go hb7); clear hb7 K4
                go_wp2_with fail
                refine (HBD.out _ K5.out.2.2).mono ?_
                rintro e8 w8 ⟨rfl, hb8⟩
                have K6 := Lib.hid ((K5.out.go hb8).new [⟨0, 0, 0, 0⟩] _ rfl w8.heap.size rfl); clear hb8 K5
                go_wp2_with fail
                refine (HAR.out _ K6.out.2.2).mono ?_
                rintro e9 w9 ⟨rfl, hb9⟩
                have K7 := Lib.hid (K6.out.go hb9); clear hb9 K6
                go_wp2_with fail
                refine (HPA.out _ K7.out.2.2).mono ?_
                rintro e10 w10 ⟨rfl, hb10⟩
                have K8 := Lib.hid (K7.out.go hb10); clear hb10 K7
                have hz8 : RB w10 w8.heap.size [⟨0, 0, 0, 0⟩] := K8.out.1 _ List.mem_cons_self
                obtain ⟨_, hcc⟩ := RRow.some (hz8.row (by decide)).row (by decide)
                obtain ⟨y0, y1, y2, y3⟩ := hcc 0 (by decide)
                simp only [Nat.zero_mul, Nat.add_zero, List.getElem_cons_zero, Nat.zero_add] at y0 y1 y2 y3
                have yl := hz8.lt
                clear hz8 hcc
                go_wp2_with fail
                go_ret
                exact ⟨rfl, K8.out.2.2⟩
            · have hof : Calls Try.prog 10 #[.slice A1 k c1] wr (RR [] 0 6 wr) := by
                rw [full_great (by omega) hm2, singles_len] at HOF0
                exact HOF0.mono fun e w2 h2 => h2.rr (by simp)
              have HOF := Lib.hid hof
              clear HOF0 hof
              have s1 : ¬ (k : Int) ≤ 200 := by omega
              go_wp2_with fail
              refine HOF.out.mono ?_
              rintro e2 w2 ⟨A2, c2, rfl, _, hb2⟩
              have HBB := Lib.hid (HBR.out.trans (hb2.mono HBR.out.size)); clear hb2 HOF
              by_cases hreg : RegP l
              · have HRT := Lib.hid (fun w' (hb : Below w.heap.size w w') => gright_yes A cap l w' (HIN.out.below hb).row HIN.out.len HIN.out.room HIN.out.room2 hreg)
                clear hreg
                go_wp2_with fail
                refine (HRT.out _ HBB.out).mono ?_
                rintro e3 w3 ⟨rfl, hb3⟩
                have HB3 := Lib.hid (HBB.out.trans (hb3.mono HBB.out.size)); clear hb3 HBB
                go_wp2_with fail
                go_ret
                exact ⟨rfl, HB3.out⟩
              · have HRT := Lib.hid (fun w' (hb : Below w.heap.size w w') => gright_no A cap l w' (HIN.out.below hb).row HIN.out.len HIN.out.room HIN.out.room2 hreg)
                have hop1 : ∀ op b, opR op l b = ([], 1) := fun op b => if_neg (fun h => hreg h.1)
                have hop2 : ∀ op b, opR op b l = ([], 1) := fun op b => if_neg (fun h => hreg h.2)
                have HU := Lib.hid (fun w' (hb : Below w.heap.size w w') (b : Nat) (h : RB w' b [⟨0, 0, 1, 1⟩]) => show Calls Try.prog 15 #[.slice A l.length cap, .slice (some ⟨b, 0, none⟩) 1 1] w' (RR [] 0 1 w') from by
                  have := gunion_any A cap _ 1 l [⟨0, 0, 1, 1⟩] w' (HIN.out.below hb) (h.row (by decide))
                  rw [hop1] at this; exact this.mono fun e w2 h2 => h2.rr (by decide))
                have HC := Lib.hid (fun w' (hb : Below w.heap.size w w') (b : Nat) (h : RB w' b [⟨0, 0, 1, 1⟩]) => show Calls Try.prog 16 #[.slice (some ⟨b, 0, none⟩) 1 1, .slice A l.length cap] w' (RR [] 0 1 w') from by
                  have := gcommon_any _ 1 A cap [⟨0, 0, 1, 1⟩] l w' (h.row (by decide)) (HIN.out.below hb)
                  rw [hop2] at this; exact this.mono fun e w2 h2 => h2.rr (by decide))
                have HM := Lib.hid (fun w' (hb : Below w.heap.size w w') (b : Nat) (h : RB w' b [⟨0, 0, 1, 1⟩]) => show Calls Try.prog 17 #[.slice (some ⟨b, 0, none⟩) 1 1, .slice A l.length cap] w' (RR [] 0 1 w') from by
                  have := gminus_any _ 1 A cap [⟨0, 0, 1, 1⟩] l w' (h.row (by decide)) (HIN.out.below hb)
                  rw [hop2] at this; exact this.mono fun e w2 h2 => h2.rr (by decide))
                have HSH := Lib.hid (fun w' (hb : Below w.heap.size w w') => gshift_no A cap l w' 0 0 (HIN.out.below hb) hreg)
                have HBD := Lib.hid (fun w' (hb : Below w.heap.size w w') => gbounds_no A cap l w' (HIN.out.below hb) hreg)
                have HAR := Lib.hid (fun w' (hb : Below w.heap.size w w') => garea_no A cap l w' (HIN.out.below hb) hreg)
                have HPA := Lib.hid (fun w' (hb : Below w.heap.size w w') => gparts_no A cap l w' (HIN.out.below hb) hreg)
                clear hreg hop1 hop2
                go_wp2_with fail
                refine (HRT.out _ HBB.out).mono ?_
                rintro e3 w3 ⟨rfl, hb3⟩
                have HB3 := Lib.hid (HBB.out.trans (hb3.mono HBB.out.size)); clear hb3 HBB
                go_wp2_with fail
                have K1 := Lib.hid ((show SK [] [] w w3 from ⟨fun p hp => (by cases hp), fun p hp => (by cases hp), HB3.out⟩).new [⟨0, 0, 1, 1⟩] _ rfl w3.heap.size rfl)
                refine (HU.out _ K1.out.2.2 _ (K1.out.1 _ List.mem_cons_self)).mono ?_
                rintro e4 w4 ⟨A4, c4, rfl, _, hb4⟩
                have K2 := Lib.hid (K1.out.go hb4); clear hb4 K1
                go_wp2_with fail
                refine (HC.out _ K2.out.2.2 _ (K2.out.1 _ List.mem_cons_self)).mono ?_
                rintro e5 w5 ⟨A5, c5, rfl, _, hb5⟩
                have K3 := Lib.hid (K2.out.go hb5); clear hb5 K2
                go_wp2_with fail
                refine (HM.out _ K3.out.2.2 _ (K3.out.1 _ List.mem_cons_self)).mono ?_
                rintro e6 w6 ⟨A6, c6, rfl, _, hb6⟩
                have K4 := Lib.hid (K3.out.go hb6); clear hb6 K3
                go_wp2_with fail
                refine (HSH.out _ K4.out.2.2).mono ?_
                rintro e7 w7 ⟨A7, c7, rfl, _, hb7⟩
                have K5 := Lib.hid (K4.out.go hb7); clear hb7 K4
                go_wp2_with fail
                refine (HBD.out _ K5.out.2.2).mono ?_
                rintro e8 w8 ⟨rfl, hb8⟩
                have K6 := Lib.hid ((K5.out.go hb8).new [⟨0, 0, 0, 0⟩] _ rfl w8.heap.size rfl); clear hb8 K5
                go_wp2_with fail
                refine (HAR.out _ K6.out.2.2).mono ?_
                rintro e9 w9 ⟨rfl, hb9⟩
                have K7 := Lib.hid (K6.out.go hb9); clear hb9 K6
                go_wp2_with fail
                refine (HPA.out _ K7.out.2.2).mono ?_
                rintro e10 w10 ⟨rfl, hb10⟩
                have K8 := Lib.hid (K7.out.go hb10); clear hb10 K7
                have hz8 : RB w10 w8.heap.size [⟨0, 0, 0, 0⟩] := K8.out.1 _ List.mem_cons_self
                obtain ⟨_, hcc⟩ := RRow.some (hz8.row (by decide)).row (by decide)
                obtain ⟨y0, y1, y2, y3⟩ := hcc 0 (by decide)
                simp only [Nat.zero_mul, Nat.add_zero, List.getElem_cons_zero, Nat.zero_add] at y0 y1 y2 y3
                have yl := hz8.lt
                clear hz8 hcc
                go_wp2_with fail
                go_ret
                exact ⟨rfl, K8.out.2.2⟩
end Go.Proofs.Ytfjmcigjlhgjcaa
