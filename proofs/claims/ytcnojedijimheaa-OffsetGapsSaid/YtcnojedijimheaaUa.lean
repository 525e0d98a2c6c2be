/-
  OffsetAdjoint: inside; the law's walk.
-/
import Derived.Test.YtcnojedijimheaaTa
import Derived.Test.YtcnojedijimheaaGj
set_option linter.unusedVariables false
set_option maxRecDepth 100000
namespace Go.Proofs.Ytcnojedijimheaa
open Go.RowKit

theorem comb_sub : CombOk 2 andnot := vcombine_sub
set_option maxHeartbeats 16000000 in
theorem zinside_any (A1 : Option Addr) (c1 : Nat) (A2 : Option Addr) (c2 : Nat) (a b : List Rc) (w : World) (h1 : RRow w A1 a) (h2 : RRow w A2 b) (hla : a.length ≤ 1000) (hlb : b.length ≤ 1000) (ha : ∀ r ∈ a, ROk r) (hb : ∀ r ∈ b, ROk r) :
    Calls Try.prog 28 #[.slice A1 a.length c1, .slice A2 b.length c2] w (BlIs (decide ((formO andnot a b).length = 0)) w) := by
  have HF := Lib.hid (vForm_any 2 andnot rfl comb_sub A1 c1 A2 c2 a b w h1 h2 hla hlb ha hb)
  obtain ⟨F, hF⟩ : ∃ F, F = formO andnot a b := ⟨_, rfl⟩
  rw [← hF] at HF ⊢
  clear hF h1 h2 hla hlb ha hb
  by_cases h0 : F.length = 0
  · rw [decide_eq_true h0]
    obtain rfl : F = [] := List.length_eq_zero_iff.1 h0
    clear h0
    go_enter Try.func28, Try.ntmps28
    go_wp2_with fail
    refine HF.out.mono ?_
    rintro e1 w1 ⟨v1, rfl, h1, h2⟩
    have HB1 := Lib.hid h2
    obtain ⟨A6, c6, rfl, _⟩ := own_rects h1
    clear h1 h2 HF
    go_wp2_with fail
    go_ret
    exact ⟨rfl, HB1.out⟩
  · rw [decide_eq_false h0]
    have q1 : ¬ ((F.length : Int) = 0) := by omega
    have q3 : ((F.length : Int) == 0) = false := beq_eq_false_iff_ne.2 q1
    have q2 : decide ((F.length : Int) = 0) = false := decide_eq_false q1
    go_enter Try.func28, Try.ntmps28
    go_wp2_with fail
    refine HF.out.mono ?_
    rintro e1 w1 ⟨v1, rfl, h1, h2⟩
    have HB1 := Lib.hid h2
    obtain ⟨A6, c6, rfl, _⟩ := own_rects h1
    clear h1 h2 HF
    generalize F.length = n at *
    go_wp2_with fail
    go_ret
    exact ⟨rfl, HB1.out⟩
set_option maxHeartbeats 40000000 in
theorem zadj_core (A : Option Addr) (c : Nat) (A2 : Option Addr) (c2 : Nat) (a b S O G : List Rc) (d e f h : Int) (p : Bool) (w : World) (hA : RIn w A c a) (hB : RIn w A2 c2 b) (h24 : a.length ≤ 24) (h24b : b.length ≤ 24) (hr : RegP a) (hrb : RegP b) (hd : 0 ≤ d) (hm : d ≤ 1048576)
    (hS : ∀ w', Below w.heap.size w w' → Calls Try.prog 19 #[.slice A a.length c, .int .i64 d] w' (RG S S.length e w'))
    (hO : ∀ w' A1 c1, RIn w' A1 c1 S → Calls Try.prog 17 #[.slice A1 S.length c1, .int .i64 d] w' (RG O O.length f w'))
    (hG : ∀ w', Below w.heap.size w w' → Calls Try.prog 17 #[.slice A2 b.length c2, .int .i64 d] w' (RG G G.length h w'))
    (hI1 : e = 0 → f = 0 → ∀ w' A1 c1, RIn w' A1 c1 O → Below w.heap.size w w' → Calls Try.prog 28 #[.slice A1 O.length c1, .slice A a.length c] w' (BlIs true w'))
    (hI2 : e = 0 → h = 0 → AwayL b d → ∀ w' A1 c1, RIn w' A1 c1 G → Below w.heap.size w w' → Calls Try.prog 28 #[.slice A1 G.length c1, .slice A a.length c] w' (BlIs p w'))
    (hI3 : e = 0 → h = 0 → AwayL b d → ∀ w' A1 c1, RIn w' A1 c1 S → Below w.heap.size w w' → Calls Try.prog 28 #[.slice A2 b.length c2, .slice A1 S.length c1] w' (BlIs p w'))
    (he : e = 0 ∨ e = 6) (hf : f = 0 ∨ f = 6) (hh : h = 0 ∨ h = 6) :
    Calls Try.prog 7 #[.slice A a.length c, .slice A2 b.length c2, .int .i64 d] w (BlIs true w) := by
  have HA := Lib.hid hA
  have HRB := Lib.hid hB.row
  have HR1 := Lib.hid (fun w' (hb : Below w.heap.size w w') => vRight_rin (hA.below hb) hr)
  have HR2 := Lib.hid (fun w' (hx : Below w.heap.size w w') => vRight_rin (hB.below hx) hrb)
  have S1 := Lib.hid hS; have O1 := Lib.hid hO; have G1 := Lib.hid hG; have I1 := Lib.hid hI1; have I2 := Lib.hid hI2; have I3 := Lib.hid hI3
  have HF1 : Hid (decide (a.length ≤ 24) = true) := Lib.hid (decide_eq_true h24)
  have HF2 : Hid (decide (b.length ≤ 24) = true) := Lib.hid (decide_eq_true h24b)
  have s0 : ¬ d < 0 := by omega
  have s2 : ¬ (1048576 : Int) < d := by omega
  have q3 : IntKind.i64.wrap (1048576 - d) = 1048576 - d := IntWalk.i64_in _ (by omega)
  clear hA hB h24 hr hrb hS hO hG hI1 hI2 hI3 hd hm
  rcases he with rfl | rfl
  · rcases hf with rfl | rfl
    · rcases hh with rfl | rfl
      · go_enter Try.func7, Try.ntmps7
        go_wp2_with fail
        refine (zsmall_any _).mono ?_
        rintro e1 w1 ⟨rfl, hb1⟩
        have HB1 := Lib.hid hb1; clear hb1
        go_wp2_with fail
        refine (zfew_any A c a _).mono ?_
        rw [HF1.out]
        rintro e2 w2 ⟨rfl, hb2⟩
        have HB2 := Lib.hid (HB1.out.trans (hb2.mono HB1.out.size)); clear hb2 HB1
        go_wp2_with fail
        refine (zfew_any A2 c2 b _).mono ?_
        rw [HF2.out]
        rintro e3 w3 ⟨rfl, hb3⟩
        have HB3 := Lib.hid (HB2.out.trans (hb3.mono HB2.out.size)); clear hb3 HB2
        go_wp2_with fail
        refine (HR1.out _ HB3.out).mono ?_
        rintro e4 w4 ⟨rfl, hb4⟩
        have HB4 := Lib.hid (HB3.out.trans (hb4.mono HB3.out.size)); clear hb4 HB3
        go_wp2_with fail
        refine (HR2.out _ HB4.out).mono ?_
        rintro e5 w5 ⟨rfl, hb5⟩
        have HB5 := Lib.hid (HB4.out.trans (hb5.mono HB4.out.size)); clear hb5 HB4
        go_wp2_with fail
        refine (S1.out _ HB5.out).mono ?_
        rintro e6 w6 ⟨AS, cS, rfl, hS, hb6⟩
        have HB6 := Lib.hid (HB5.out.trans (hb6.mono HB5.out.size))
        have HS := Lib.hid hS; clear hS hb6 HB5
        go_wp2_with fail
        refine (O1.out _ AS cS HS.out).mono ?_
        rintro e7 w7 ⟨AO, cO, rfl, hO, hb7⟩
        have HB7 := Lib.hid (HB6.out.trans (hb7.mono HB6.out.size))
        have HS := Lib.hid (HS.out.below hb7)
        have HO := Lib.hid hO; clear hO hb7 HB6
        go_wp2_with fail
        refine (I1.out (by first | exact trivial | rfl) (by first | exact trivial | rfl) _ AO cO HO.out HB7.out).mono ?_
        rintro e8 w8 ⟨rfl, hb8⟩
        have HB8 := Lib.hid (HB7.out.trans (hb8.mono HB7.out.size))
        have HS := Lib.hid (HS.out.below hb8)
        clear hb8 HB7
        go_wp2_with fail
        go_loopw [12] (fun i wr => ∃ (k : Nat), k ≤ b.length ∧ i = .int .i64 k ∧ Hid (Below w.heap.size w wr) ∧ Hid (RIn wr AS cS S) ∧ Hid (∀ j (h : j < b.length), j < k → d ≤ b[j].X0 ∧ d ≤ b[j].Y0 ∧ b[j].X1 ≤ 1048576 - d ∧ b[j].Y1 ≤ 1048576 - d)) (fun i _ => b.length - (intOf i).toNat)
        case atStart => exact ⟨0, Nat.zero_le _, rfl, HB8, HS, Lib.hid (fun j h hj => absurd hj (Nat.not_lt_zero _))⟩
        case round =>
          clear HB8 HS
          obtain ⟨k, hk, rfl, HB, HS, HT⟩ := hrel
          by_cases hlt : k < b.length
          · obtain ⟨b1, o1, rfl, hb1, hv1⟩ := HRB.out (by omega)
            obtain ⟨x0, x1, x2, x3⟩ := hv1 k hlt
            have wc := fun o => HB.out.cell (p := ⟨b1, o, none⟩) hb1
            have x0 := (wc _).trans x0; have x1 := (wc _).trans x1; have x2 := (wc _).trans x2; have x3 := (wc _).trans x3
            clear hv1 wc
            have n0 : (0 : Int) ≤ (k : Int) := by omega
            have n1 : (k : Int) < (b.length : Int) := by omega
            have HN : Hid (d ≤ b[k].X0 ∧ d ≤ b[k].Y0 ∧ b[k].X1 ≤ 1048576 - d ∧ b[k].Y1 ≤ 1048576 - d → ∀ j (h : j < b.length), j < k + 1 → d ≤ b[j].X0 ∧ d ≤ b[j].Y0 ∧ b[j].X1 ≤ 1048576 - d ∧ b[j].Y1 ≤ 1048576 - d) := Lib.hid (fun h j hj hj2 => by
              by_cases e : j < k
              · exact HT.out j hj e
              · obtain rfl : j = k := by omega
                exact h)
            obtain ⟨u, hu⟩ : ∃ u, u = b[k] := ⟨_, rfl⟩
            rw [← hu] at x0 x1 x2 x3 HN
            clear hu HT
            by_cases c0 : u.X0 < d
            · have d0 : decide (u.X0 < d) = true := decide_eq_true c0
              clear HN
              go_wp2_with fail
              go_ret
              exact ⟨rfl, HB.out⟩
            · have d0 : decide (u.X0 < d) = false := decide_eq_false c0
              by_cases c1 : u.Y0 < d
              · have d1 : decide (u.Y0 < d) = true := decide_eq_true c1
                clear HN
                go_wp2_with fail
                go_ret
                exact ⟨rfl, HB.out⟩
              · have d1 : decide (u.Y0 < d) = false := decide_eq_false c1
                by_cases c2 : 1048576 - d < u.X1
                · have d2 : decide (1048576 - d < u.X1) = true := decide_eq_true c2
                  clear HN
                  go_wp2_with fail
                  go_ret
                  exact ⟨rfl, HB.out⟩
                · have d2 : decide (1048576 - d < u.X1) = false := decide_eq_false c2
                  by_cases c3 : 1048576 - d < u.Y1
                  · have d3 : decide (1048576 - d < u.Y1) = true := decide_eq_true c3
                    clear HN
                    go_wp2_with fail
                    go_ret
                    exact ⟨rfl, HB.out⟩
                  · have d3 : decide (1048576 - d < u.Y1) = false := decide_eq_false c3
                    have HT := Lib.hid (HN.out ⟨by omega, by omega, by omega, by omega⟩)
                    clear HN
                    go_wp2_with fail
                    go_roundw
                    case rel => exact ⟨k + 1, by omega, by go_num, HB, HS, HT⟩
                    case measure => simp [intOf]; omega
          · obtain rfl : k = b.length := by omega
            have HW : Hid (AwayL b d) := Lib.hid (fun r hr => by
              obtain ⟨j, hj, rfl⟩ := List.mem_iff_getElem.1 hr
              exact HT.out j hj hj)
            clear HT
            go_wp2_with fail
            refine (G1.out _ HB.out).mono ?_
            rintro e20 w20 ⟨AG, cG, rfl, hG, hb20⟩
            have HB20 := Lib.hid (HB.out.trans (hb20.mono HB.out.size))
            have HS := Lib.hid (HS.out.below hb20)
            have HG := Lib.hid hG; clear hG hb20 HB
            go_wp2_with fail
            refine (I2.out (by first | exact trivial | rfl) (by first | exact trivial | rfl) HW.out _ AG cG HG.out HB20.out).mono ?_
            rintro e21 w21 ⟨rfl, hb21⟩
            have HB21 := Lib.hid (HB20.out.trans (hb21.mono HB20.out.size))
            have HS := Lib.hid (HS.out.below hb21)
            clear hb21 HB20
            go_wp2_with fail
            refine (I3.out (by first | exact trivial | rfl) (by first | exact trivial | rfl) HW.out _ AS cS HS.out HB21.out).mono ?_
            rintro e22 w22 ⟨rfl, hb22⟩
            have HB22 := Lib.hid (HB21.out.trans (hb22.mono HB21.out.size))
            clear hb22 HB21
            go_wp2_with fail
            go_ret
            exact ⟨rfl, HB22.out⟩
      · go_enter Try.func7, Try.ntmps7
        go_wp2_with fail
        refine (zsmall_any _).mono ?_
        rintro e1 w1 ⟨rfl, hb1⟩
        have HB1 := Lib.hid hb1; clear hb1
        go_wp2_with fail
        refine (zfew_any A c a _).mono ?_
        rw [HF1.out]
        rintro e2 w2 ⟨rfl, hb2⟩
        have HB2 := Lib.hid (HB1.out.trans (hb2.mono HB1.out.size)); clear hb2 HB1
        go_wp2_with fail
        refine (zfew_any A2 c2 b _).mono ?_
        rw [HF2.out]
        rintro e3 w3 ⟨rfl, hb3⟩
        have HB3 := Lib.hid (HB2.out.trans (hb3.mono HB2.out.size)); clear hb3 HB2
        go_wp2_with fail
        refine (HR1.out _ HB3.out).mono ?_
        rintro e4 w4 ⟨rfl, hb4⟩
        have HB4 := Lib.hid (HB3.out.trans (hb4.mono HB3.out.size)); clear hb4 HB3
        go_wp2_with fail
        refine (HR2.out _ HB4.out).mono ?_
        rintro e5 w5 ⟨rfl, hb5⟩
        have HB5 := Lib.hid (HB4.out.trans (hb5.mono HB4.out.size)); clear hb5 HB4
        go_wp2_with fail
        refine (S1.out _ HB5.out).mono ?_
        rintro e6 w6 ⟨AS, cS, rfl, hS, hb6⟩
        have HB6 := Lib.hid (HB5.out.trans (hb6.mono HB5.out.size))
        have HS := Lib.hid hS; clear hS hb6 HB5
        go_wp2_with fail
        refine (O1.out _ AS cS HS.out).mono ?_
        rintro e7 w7 ⟨AO, cO, rfl, hO, hb7⟩
        have HB7 := Lib.hid (HB6.out.trans (hb7.mono HB6.out.size))
        have HS := Lib.hid (HS.out.below hb7)
        have HO := Lib.hid hO; clear hO hb7 HB6
        go_wp2_with fail
        refine (I1.out (by first | exact trivial | rfl) (by first | exact trivial | rfl) _ AO cO HO.out HB7.out).mono ?_
        rintro e8 w8 ⟨rfl, hb8⟩
        have HB8 := Lib.hid (HB7.out.trans (hb8.mono HB7.out.size))
        have HS := Lib.hid (HS.out.below hb8)
        clear hb8 HB7
        go_wp2_with fail
        go_loopw [12] (fun i wr => ∃ (k : Nat), k ≤ b.length ∧ i = .int .i64 k ∧ Hid (Below w.heap.size w wr) ∧ Hid (RIn wr AS cS S) ∧ Hid (∀ j (h : j < b.length), j < k → d ≤ b[j].X0 ∧ d ≤ b[j].Y0 ∧ b[j].X1 ≤ 1048576 - d ∧ b[j].Y1 ≤ 1048576 - d)) (fun i _ => b.length - (intOf i).toNat)
        case atStart => exact ⟨0, Nat.zero_le _, rfl, HB8, HS, Lib.hid (fun j h hj => absurd hj (Nat.not_lt_zero _))⟩
        case round =>
          clear HB8 HS
          obtain ⟨k, hk, rfl, HB, HS, HT⟩ := hrel
          by_cases hlt : k < b.length
          · obtain ⟨b1, o1, rfl, hb1, hv1⟩ := HRB.out (by omega)
            obtain ⟨x0, x1, x2, x3⟩ := hv1 k hlt
            have wc := fun o => HB.out.cell (p := ⟨b1, o, none⟩) hb1
            have x0 := (wc _).trans x0; have x1 := (wc _).trans x1; have x2 := (wc _).trans x2; have x3 := (wc _).trans x3
            clear hv1 wc
            have n0 : (0 : Int) ≤ (k : Int) := by omega
            have n1 : (k : Int) < (b.length : Int) := by omega
            have HN : Hid (d ≤ b[k].X0 ∧ d ≤ b[k].Y0 ∧ b[k].X1 ≤ 1048576 - d ∧ b[k].Y1 ≤ 1048576 - d → ∀ j (h : j < b.length), j < k + 1 → d ≤ b[j].X0 ∧ d ≤ b[j].Y0 ∧ b[j].X1 ≤ 1048576 - d ∧ b[j].Y1 ≤ 1048576 - d) := Lib.hid (fun h j hj hj2 => by
              by_cases e : j < k
              · exact HT.out j hj e
              · obtain rfl : j = k := by omega
                exact h)
            obtain ⟨u, hu⟩ : ∃ u, u = b[k] := ⟨_, rfl⟩
            rw [← hu] at x0 x1 x2 x3 HN
            clear hu HT
            by_cases c0 : u.X0 < d
            · have d0 : decide (u.X0 < d) = true := decide_eq_true c0
              clear HN
              go_wp2_with fail
              go_ret
              exact ⟨rfl, HB.out⟩
            · have d0 : decide (u.X0 < d) = false := decide_eq_false c0
              by_cases c1 : u.Y0 < d
              · have d1 : decide (u.Y0 < d) = true := decide_eq_true c1
                clear HN
                go_wp2_with fail
                go_ret
                exact ⟨rfl, HB.out⟩
              · have d1 : decide (u.Y0 < d) = false := decide_eq_false c1
                by_cases c2 : 1048576 - d < u.X1
                · have d2 : decide (1048576 - d < u.X1) = true := decide_eq_true c2
                  clear HN
                  go_wp2_with fail
                  go_ret
                  exact ⟨rfl, HB.out⟩
                · have d2 : decide (1048576 - d < u.X1) = false := decide_eq_false c2
                  by_cases c3 : 1048576 - d < u.Y1
                  · have d3 : decide (1048576 - d < u.Y1) = true := decide_eq_true c3
                    clear HN
                    go_wp2_with fail
                    go_ret
                    exact ⟨rfl, HB.out⟩
                  · have d3 : decide (1048576 - d < u.Y1) = false := decide_eq_false c3
                    have HT := Lib.hid (HN.out ⟨by omega, by omega, by omega, by omega⟩)
                    clear HN
                    go_wp2_with fail
                    go_roundw
                    case rel => exact ⟨k + 1, by omega, by go_num, HB, HS, HT⟩
                    case measure => simp [intOf]; omega
          · obtain rfl : k = b.length := by omega
            have HW : Hid (AwayL b d) := Lib.hid (fun r hr => by
              obtain ⟨j, hj, rfl⟩ := List.mem_iff_getElem.1 hr
              exact HT.out j hj hj)
            clear HT
            go_wp2_with fail
            refine (G1.out _ HB.out).mono ?_
            rintro e20 w20 ⟨AG, cG, rfl, hG, hb20⟩
            have HB20 := Lib.hid (HB.out.trans (hb20.mono HB.out.size))
            have HS := Lib.hid (HS.out.below hb20)
            have HG := Lib.hid hG; clear hG hb20 HB
            go_wp2_with fail
            go_ret
            exact ⟨rfl, HB20.out⟩
    · rcases hh with rfl | rfl
      · go_enter Try.func7, Try.ntmps7
        go_wp2_with fail
        refine (zsmall_any _).mono ?_
        rintro e1 w1 ⟨rfl, hb1⟩
        have HB1 := Lib.hid hb1; clear hb1
        go_wp2_with fail
        refine (zfew_any A c a _).mono ?_
        rw [HF1.out]
        rintro e2 w2 ⟨rfl, hb2⟩
        have HB2 := Lib.hid (HB1.out.trans (hb2.mono HB1.out.size)); clear hb2 HB1
        go_wp2_with fail
        refine (zfew_any A2 c2 b _).mono ?_
        rw [HF2.out]
        rintro e3 w3 ⟨rfl, hb3⟩
        have HB3 := Lib.hid (HB2.out.trans (hb3.mono HB2.out.size)); clear hb3 HB2
        go_wp2_with fail
        refine (HR1.out _ HB3.out).mono ?_
        rintro e4 w4 ⟨rfl, hb4⟩
        have HB4 := Lib.hid (HB3.out.trans (hb4.mono HB3.out.size)); clear hb4 HB3
        go_wp2_with fail
        refine (HR2.out _ HB4.out).mono ?_
        rintro e5 w5 ⟨rfl, hb5⟩
        have HB5 := Lib.hid (HB4.out.trans (hb5.mono HB4.out.size)); clear hb5 HB4
        go_wp2_with fail
        refine (S1.out _ HB5.out).mono ?_
        rintro e6 w6 ⟨AS, cS, rfl, hS, hb6⟩
        have HB6 := Lib.hid (HB5.out.trans (hb6.mono HB5.out.size))
        have HS := Lib.hid hS; clear hS hb6 HB5
        go_wp2_with fail
        refine (O1.out _ AS cS HS.out).mono ?_
        rintro e7 w7 ⟨AO, cO, rfl, hO, hb7⟩
        have HB7 := Lib.hid (HB6.out.trans (hb7.mono HB6.out.size))
        have HS := Lib.hid (HS.out.below hb7)
        have HO := Lib.hid hO; clear hO hb7 HB6
        go_wp2_with fail
        go_loopw [12] (fun i wr => ∃ (k : Nat), k ≤ b.length ∧ i = .int .i64 k ∧ Hid (Below w.heap.size w wr) ∧ Hid (RIn wr AS cS S) ∧ Hid (∀ j (h : j < b.length), j < k → d ≤ b[j].X0 ∧ d ≤ b[j].Y0 ∧ b[j].X1 ≤ 1048576 - d ∧ b[j].Y1 ≤ 1048576 - d)) (fun i _ => b.length - (intOf i).toNat)
        case atStart => exact ⟨0, Nat.zero_le _, rfl, HB7, HS, Lib.hid (fun j h hj => absurd hj (Nat.not_lt_zero _))⟩
        case round =>
          clear HB7 HS
          obtain ⟨k, hk, rfl, HB, HS, HT⟩ := hrel
          by_cases hlt : k < b.length
          · obtain ⟨b1, o1, rfl, hb1, hv1⟩ := HRB.out (by omega)
            obtain ⟨x0, x1, x2, x3⟩ := hv1 k hlt
            have wc := fun o => HB.out.cell (p := ⟨b1, o, none⟩) hb1
            have x0 := (wc _).trans x0; have x1 := (wc _).trans x1; have x2 := (wc _).trans x2; have x3 := (wc _).trans x3
            clear hv1 wc
            have n0 : (0 : Int) ≤ (k : Int) := by omega
            have n1 : (k : Int) < (b.length : Int) := by omega
            have HN : Hid (d ≤ b[k].X0 ∧ d ≤ b[k].Y0 ∧ b[k].X1 ≤ 1048576 - d ∧ b[k].Y1 ≤ 1048576 - d → ∀ j (h : j < b.length), j < k + 1 → d ≤ b[j].X0 ∧ d ≤ b[j].Y0 ∧ b[j].X1 ≤ 1048576 - d ∧ b[j].Y1 ≤ 1048576 - d) := Lib.hid (fun h j hj hj2 => by
              by_cases e : j < k
              · exact HT.out j hj e
              · obtain rfl : j = k := by omega
                exact h)
            obtain ⟨u, hu⟩ : ∃ u, u = b[k] := ⟨_, rfl⟩
            rw [← hu] at x0 x1 x2 x3 HN
            clear hu HT
            by_cases c0 : u.X0 < d
            · have d0 : decide (u.X0 < d) = true := decide_eq_true c0
              clear HN
              go_wp2_with fail
              go_ret
              exact ⟨rfl, HB.out⟩
            · have d0 : decide (u.X0 < d) = false := decide_eq_false c0
              by_cases c1 : u.Y0 < d
              · have d1 : decide (u.Y0 < d) = true := decide_eq_true c1
                clear HN
                go_wp2_with fail
                go_ret
                exact ⟨rfl, HB.out⟩
              · have d1 : decide (u.Y0 < d) = false := decide_eq_false c1
                by_cases c2 : 1048576 - d < u.X1
                · have d2 : decide (1048576 - d < u.X1) = true := decide_eq_true c2
                  clear HN
                  go_wp2_with fail
                  go_ret
                  exact ⟨rfl, HB.out⟩
                · have d2 : decide (1048576 - d < u.X1) = false := decide_eq_false c2
                  by_cases c3 : 1048576 - d < u.Y1
                  · have d3 : decide (1048576 - d < u.Y1) = true := decide_eq_true c3
                    clear HN
                    go_wp2_with fail
                    go_ret
                    exact ⟨rfl, HB.out⟩
                  · have d3 : decide (1048576 - d < u.Y1) = false := decide_eq_false c3
                    have HT := Lib.hid (HN.out ⟨by omega, by omega, by omega, by omega⟩)
                    clear HN
                    go_wp2_with fail
                    go_roundw
                    case rel => exact ⟨k + 1, by omega, by go_num, HB, HS, HT⟩
                    case measure => simp [intOf]; omega
          · obtain rfl : k = b.length := by omega
            have HW : Hid (AwayL b d) := Lib.hid (fun r hr => by
              obtain ⟨j, hj, rfl⟩ := List.mem_iff_getElem.1 hr
              exact HT.out j hj hj)
            clear HT
            go_wp2_with fail
            refine (G1.out _ HB.out).mono ?_
            rintro e20 w20 ⟨AG, cG, rfl, hG, hb20⟩
            have HB20 := Lib.hid (HB.out.trans (hb20.mono HB.out.size))
            have HS := Lib.hid (HS.out.below hb20)
            have HG := Lib.hid hG; clear hG hb20 HB
            go_wp2_with fail
            refine (I2.out (by first | exact trivial | rfl) (by first | exact trivial | rfl) HW.out _ AG cG HG.out HB20.out).mono ?_
            rintro e21 w21 ⟨rfl, hb21⟩
            have HB21 := Lib.hid (HB20.out.trans (hb21.mono HB20.out.size))
            have HS := Lib.hid (HS.out.below hb21)
            clear hb21 HB20
            go_wp2_with fail
            refine (I3.out (by first | exact trivial | rfl) (by first | exact trivial | rfl) HW.out _ AS cS HS.out HB21.out).mono ?_
            rintro e22 w22 ⟨rfl, hb22⟩
            have HB22 := Lib.hid (HB21.out.trans (hb22.mono HB21.out.size))
            clear hb22 HB21
            go_wp2_with fail
            go_ret
            exact ⟨rfl, HB22.out⟩
      · go_enter Try.func7, Try.ntmps7
        go_wp2_with fail
        refine (zsmall_any _).mono ?_
        rintro e1 w1 ⟨rfl, hb1⟩
        have HB1 := Lib.hid hb1; clear hb1
        go_wp2_with fail
        refine (zfew_any A c a _).mono ?_
        rw [HF1.out]
        rintro e2 w2 ⟨rfl, hb2⟩
        have HB2 := Lib.hid (HB1.out.trans (hb2.mono HB1.out.size)); clear hb2 HB1
        go_wp2_with fail
        refine (zfew_any A2 c2 b _).mono ?_
        rw [HF2.out]
        rintro e3 w3 ⟨rfl, hb3⟩
        have HB3 := Lib.hid (HB2.out.trans (hb3.mono HB2.out.size)); clear hb3 HB2
        go_wp2_with fail
        refine (HR1.out _ HB3.out).mono ?_
        rintro e4 w4 ⟨rfl, hb4⟩
        have HB4 := Lib.hid (HB3.out.trans (hb4.mono HB3.out.size)); clear hb4 HB3
        go_wp2_with fail
        refine (HR2.out _ HB4.out).mono ?_
        rintro e5 w5 ⟨rfl, hb5⟩
        have HB5 := Lib.hid (HB4.out.trans (hb5.mono HB4.out.size)); clear hb5 HB4
        go_wp2_with fail
        refine (S1.out _ HB5.out).mono ?_
        rintro e6 w6 ⟨AS, cS, rfl, hS, hb6⟩
        have HB6 := Lib.hid (HB5.out.trans (hb6.mono HB5.out.size))
        have HS := Lib.hid hS; clear hS hb6 HB5
        go_wp2_with fail
        refine (O1.out _ AS cS HS.out).mono ?_
        rintro e7 w7 ⟨AO, cO, rfl, hO, hb7⟩
        have HB7 := Lib.hid (HB6.out.trans (hb7.mono HB6.out.size))
        have HS := Lib.hid (HS.out.below hb7)
        have HO := Lib.hid hO; clear hO hb7 HB6
        go_wp2_with fail
        go_loopw [12] (fun i wr => ∃ (k : Nat), k ≤ b.length ∧ i = .int .i64 k ∧ Hid (Below w.heap.size w wr) ∧ Hid (RIn wr AS cS S) ∧ Hid (∀ j (h : j < b.length), j < k → d ≤ b[j].X0 ∧ d ≤ b[j].Y0 ∧ b[j].X1 ≤ 1048576 - d ∧ b[j].Y1 ≤ 1048576 - d)) (fun i _ => b.length - (intOf i).toNat)
        case atStart => exact ⟨0, Nat.zero_le _, rfl, HB7, HS, Lib.hid (fun j h hj => absurd hj (Nat.not_lt_zero _))⟩
        case round =>
          clear HB7 HS
          obtain ⟨k, hk, rfl, HB, HS, HT⟩ := hrel
          by_cases hlt : k < b.length
          · obtain ⟨b1, o1, rfl, hb1, hv1⟩ := HRB.out (by omega)
            obtain ⟨x0, x1, x2, x3⟩ := hv1 k hlt
            have wc := fun o => HB.out.cell (p := ⟨b1, o, none⟩) hb1
            have x0 := (wc _).trans x0; have x1 := (wc _).trans x1; have x2 := (wc _).trans x2; have x3 := (wc _).trans x3
            clear hv1 wc
            have n0 : (0 : Int) ≤ (k : Int) := by omega
            have n1 : (k : Int) < (b.length : Int) := by omega
            have HN : Hid (d ≤ b[k].X0 ∧ d ≤ b[k].Y0 ∧ b[k].X1 ≤ 1048576 - d ∧ b[k].Y1 ≤ 1048576 - d → ∀ j (h : j < b.length), j < k + 1 → d ≤ b[j].X0 ∧ d ≤ b[j].Y0 ∧ b[j].X1 ≤ 1048576 - d ∧ b[j].Y1 ≤ 1048576 - d) := Lib.hid (fun h j hj hj2 => by
              by_cases e : j < k
              · exact HT.out j hj e
              · obtain rfl : j = k := by omega
                exact h)
            obtain ⟨u, hu⟩ : ∃ u, u = b[k] := ⟨_, rfl⟩
            rw [← hu] at x0 x1 x2 x3 HN
            clear hu HT
            by_cases c0 : u.X0 < d
            · have d0 : decide (u.X0 < d) = true := decide_eq_true c0
              clear HN
              go_wp2_with fail
              go_ret
              exact ⟨rfl, HB.out⟩
            · have d0 : decide (u.X0 < d) = false := decide_eq_false c0
              by_cases c1 : u.Y0 < d
              · have d1 : decide (u.Y0 < d) = true := decide_eq_true c1
                clear HN
                go_wp2_with fail
                go_ret
                exact ⟨rfl, HB.out⟩
              · have d1 : decide (u.Y0 < d) = false := decide_eq_false c1
                by_cases c2 : 1048576 - d < u.X1
                · have d2 : decide (1048576 - d < u.X1) = true := decide_eq_true c2
                  clear HN
                  go_wp2_with fail
                  go_ret
                  exact ⟨rfl, HB.out⟩
                · have d2 : decide (1048576 - d < u.X1) = false := decide_eq_false c2
                  by_cases c3 : 1048576 - d < u.Y1
                  · have d3 : decide (1048576 - d < u.Y1) = true := decide_eq_true c3
                    clear HN
                    go_wp2_with fail
                    go_ret
                    exact ⟨rfl, HB.out⟩
                  · have d3 : decide (1048576 - d < u.Y1) = false := decide_eq_false c3
                    have HT := Lib.hid (HN.out ⟨by omega, by omega, by omega, by omega⟩)
                    clear HN
                    go_wp2_with fail
                    go_roundw
                    case rel => exact ⟨k + 1, by omega, by go_num, HB, HS, HT⟩
                    case measure => simp [intOf]; omega
          · obtain rfl : k = b.length := by omega
            have HW : Hid (AwayL b d) := Lib.hid (fun r hr => by
              obtain ⟨j, hj, rfl⟩ := List.mem_iff_getElem.1 hr
              exact HT.out j hj hj)
            clear HT
            go_wp2_with fail
            refine (G1.out _ HB.out).mono ?_
            rintro e20 w20 ⟨AG, cG, rfl, hG, hb20⟩
            have HB20 := Lib.hid (HB.out.trans (hb20.mono HB.out.size))
            have HS := Lib.hid (HS.out.below hb20)
            have HG := Lib.hid hG; clear hG hb20 HB
            go_wp2_with fail
            go_ret
            exact ⟨rfl, HB20.out⟩
  · clear hf hh
    go_enter Try.func7, Try.ntmps7
    go_wp2_with fail
    refine (zsmall_any _).mono ?_
    rintro e1 w1 ⟨rfl, hb1⟩
    have HB1 := Lib.hid hb1; clear hb1
    go_wp2_with fail
    refine (zfew_any A c a _).mono ?_
    rw [HF1.out]
    rintro e2 w2 ⟨rfl, hb2⟩
    have HB2 := Lib.hid (HB1.out.trans (hb2.mono HB1.out.size)); clear hb2 HB1
    go_wp2_with fail
    refine (zfew_any A2 c2 b _).mono ?_
    rw [HF2.out]
    rintro e3 w3 ⟨rfl, hb3⟩
    have HB3 := Lib.hid (HB2.out.trans (hb3.mono HB2.out.size)); clear hb3 HB2
    go_wp2_with fail
    refine (HR1.out _ HB3.out).mono ?_
    rintro e4 w4 ⟨rfl, hb4⟩
    have HB4 := Lib.hid (HB3.out.trans (hb4.mono HB3.out.size)); clear hb4 HB3
    go_wp2_with fail
    refine (HR2.out _ HB4.out).mono ?_
    rintro e5 w5 ⟨rfl, hb5⟩
    have HB5 := Lib.hid (HB4.out.trans (hb5.mono HB4.out.size)); clear hb5 HB4
    go_wp2_with fail
    refine (S1.out _ HB5.out).mono ?_
    rintro e6 w6 ⟨AS, cS, rfl, hS, hb6⟩
    have HB6 := Lib.hid (HB5.out.trans (hb6.mono HB5.out.size))
    have HS := Lib.hid hS; clear hS hb6 HB5
    go_wp2_with fail
    go_ret
    exact ⟨rfl, HB6.out⟩
theorem reg_nil : RegP [] := by
  have h := (eroF_is (l := []) (d := 0) (fun r hr => by cases hr) (Int.le_refl 0)).form
  have e : eroF [] 0 = [] := by unfold eroF; rw [show (boundsR []).2 = false from rfl]; rfl
  rw [e] at h
  exact ⟨h, by simp⟩
theorem len_nil {α : Type} (l : List α) : (decide (l.length = 0) = true) = (l = []) := by simp
set_option maxHeartbeats 40000000 in
theorem zadj_any (A : Option Addr) (c : Nat) (A2 : Option Addr) (c2 : Nat) (a b : List Rc) (d : Int) (w : World) (hra : RRow w A a) (hca : a.length ≤ c) (hcb : c ≤ 9223372036854775807) (hrb : RRow w A2 b) (hca2 : b.length ≤ c2) (hcb2 : c2 ≤ 9223372036854775807) (hd : -9223372036854775808 ≤ d ∧ d ≤ 9223372036854775807) :
    Calls Try.prog 7 #[.slice A a.length c, .slice A2 b.length c2, .int .i64 d] w (BlIs true w) := by
  by_cases h24 : a.length ≤ 24
  · have HF1 : Hid (decide (a.length ≤ 24) = true) := Lib.hid (decide_eq_true h24)
    have hA : RIn w A c a := ⟨hra, by omega, hca, hcb⟩
    by_cases h24b : b.length ≤ 24
    · have HF2 : Hid (decide (b.length ≤ 24) = true) := Lib.hid (decide_eq_true h24b)
      have hB : RIn w A2 c2 b := ⟨hrb, by omega, hca2, hcb2⟩
      by_cases hr : RegP a
      · have HR1 := Lib.hid (fun w' (hb : Below w.heap.size w w') => vRight_rin (hA.below hb) hr)
        by_cases hr2 : RegP b
        · have HR2 := Lib.hid (fun w' (hx : Below w.heap.size w w') => vRight_rin (hB.below hx) hr2)
          by_cases c0 : d < 0
          · clear hA hB h24 h24b hr hr2 hra hca hcb hrb hca2 hcb2 hd
            go_enter Try.func7, Try.ntmps7
            go_wp2_with fail
            refine (zsmall_any _).mono ?_
            rintro e1 w1 ⟨rfl, hb1⟩
            have HB1 := Lib.hid hb1; clear hb1
            go_wp2_with fail
            refine (zfew_any A c a _).mono ?_
            rw [HF1.out]
            rintro e2 w2 ⟨rfl, hb2⟩
            have HB2 := Lib.hid (HB1.out.trans (hb2.mono HB1.out.size)); clear hb2 HB1
            go_wp2_with fail
            refine (zfew_any A2 c2 b _).mono ?_
            rw [HF2.out]
            rintro e3 w3 ⟨rfl, hb3⟩
            have HB3 := Lib.hid (HB2.out.trans (hb3.mono HB2.out.size)); clear hb3 HB2
            go_wp2_with fail
            refine (HR1.out _ HB3.out).mono ?_
            rintro e4 w4 ⟨rfl, hb4⟩
            have HB4 := Lib.hid (HB3.out.trans (hb4.mono HB3.out.size)); clear hb4 HB3
            go_wp2_with fail
            refine (HR2.out _ HB4.out).mono ?_
            rintro e5 w5 ⟨rfl, hb5⟩
            have HB5 := Lib.hid (HB4.out.trans (hb5.mono HB4.out.size)); clear hb5 HB4
            go_wp2_with fail
            go_ret
            exact ⟨rfl, HB5.out⟩
          · by_cases c1 : 1048576 < d
            · clear hA hB h24 h24b hr hr2 hra hca hcb hrb hca2 hcb2 hd
              go_enter Try.func7, Try.ntmps7
              go_wp2_with fail
              refine (zsmall_any _).mono ?_
              rintro e1 w1 ⟨rfl, hb1⟩
              have HB1 := Lib.hid hb1; clear hb1
              go_wp2_with fail
              refine (zfew_any A c a _).mono ?_
              rw [HF1.out]
              rintro e2 w2 ⟨rfl, hb2⟩
              have HB2 := Lib.hid (HB1.out.trans (hb2.mono HB1.out.size)); clear hb2 HB1
              go_wp2_with fail
              refine (zfew_any A2 c2 b _).mono ?_
              rw [HF2.out]
              rintro e3 w3 ⟨rfl, hb3⟩
              have HB3 := Lib.hid (HB2.out.trans (hb3.mono HB2.out.size)); clear hb3 HB2
              go_wp2_with fail
              refine (HR1.out _ HB3.out).mono ?_
              rintro e4 w4 ⟨rfl, hb4⟩
              have HB4 := Lib.hid (HB3.out.trans (hb4.mono HB3.out.size)); clear hb4 HB3
              go_wp2_with fail
              refine (HR2.out _ HB4.out).mono ?_
              rintro e5 w5 ⟨rfl, hb5⟩
              have HB5 := Lib.hid (HB4.out.trans (hb5.mono HB4.out.size)); clear hb5 HB4
              go_wp2_with fail
              go_ret
              exact ⟨rfl, HB5.out⟩
            · clear HF1 HF2 HR1 HR2
              have g0 : 0 ≤ d := by omega
              have g1 : d ≤ 1048576 := by omega
              have oa := form_ok hr.1
              have ob := form_ok hr2.1
              refine zadj_core A c A2 c2 a b (shrinkM a d).1 (growM (shrinkM a d).1 d).1 (growM b d).1 d (shrinkM a d).2 (growM (shrinkM a d).1 d).2 (growM b d).2 (decide ((formO andnot (groF b d) a).length = 0)) w hA hB h24 h24b hr hr2 g0 g1
                (fun w' hb => yshrink_rg A c a d w' (hA.below hb)) (fun w' A1 c1 h => ygrow_rg A1 c1 _ d w' h) (fun w' hb => ygrow_rg A2 c2 b d w' (hB.below hb)) ?_ ?_ ?_ ?_ ?_ ?_
              · intro he hf w' A1 c1 h1 hb
                obtain ⟨e1, e2⟩ := shrinkM_reg hr g0 g1 he
                rw [e1] at hf h1 ⊢
                obtain ⟨e3, e4⟩ := growM_reg e2 g0 g1 hf
                rw [e3] at h1 ⊢
                have := e4.2
                have k := zinside_any A1 c1 A c (groF (eroF a d) d) a w' h1.row (hA.below hb).row (by omega) (by omega) (form_ok e4.1) oa
                rw [open_inside oa g0] at k
                exact k
              · intro he hh hw w' A1 c1 h1 hb
                obtain ⟨e3, e4⟩ := growM_reg hr2 g0 g1 hh
                rw [e3] at h1 ⊢
                have := e4.2
                exact zinside_any A1 c1 A c (groF b d) a w' h1.row (hA.below hb).row (by omega) (by omega) (form_ok e4.1) oa
              · intro he hh hw w' A1 c1 h1 hb
                obtain ⟨e1, e2⟩ := shrinkM_reg hr g0 g1 he
                rw [e1] at h1 ⊢
                have := e2.2
                have k := zinside_any A2 c2 A1 c1 b (eroF a d) w' (hB.below hb).row h1.row (by omega) (by omega) ob (form_ok e2.1)
                have ek : decide ((formO andnot b (eroF a d)).length = 0) = decide ((formO andnot (groF b d) a).length = 0) := by
                  apply Bool.eq_iff_iff.2
                  rw [len_nil, len_nil]
                  exact (adjoint oa ob g0 hw).symm
                rw [ek] at k
                exact k
              · rw [shrinkM_yes hr g0 g1]; exact capR_err _
              · by_cases he : (shrinkM a d).2 = 0
                · obtain ⟨e1, e2⟩ := shrinkM_reg hr g0 g1 he
                  rw [e1, growM_yes e2 g0 g1]; exact capR_err _
                · have hz : RegP (shrinkM a d).1 := by
                    rw [shrinkM_yes hr g0 g1] at he ⊢
                    have : (capR (eroF a d)).1 = [] := by unfold capR at he ⊢; split; · rename_i h; rw [if_pos h] at he; exact absurd rfl he
                                                          · rfl
                    rw [this]; exact reg_nil
                  rw [growM_yes hz g0 g1]; exact capR_err _
              · rw [growM_yes hr2 g0 g1]; exact capR_err _
        · have HR2 := Lib.hid (fun w' (hx : Below w.heap.size w w') => vRight_rin_no (hB.below hx) hr2)
          clear hA hB h24 h24b hr hr2 hra hca hcb hrb hca2 hcb2 hd
          go_enter Try.func7, Try.ntmps7
          go_wp2_with fail
          refine (zsmall_any _).mono ?_
          rintro e1 w1 ⟨rfl, hb1⟩
          have HB1 := Lib.hid hb1; clear hb1
          go_wp2_with fail
          refine (zfew_any A c a _).mono ?_
          rw [HF1.out]
          rintro e2 w2 ⟨rfl, hb2⟩
          have HB2 := Lib.hid (HB1.out.trans (hb2.mono HB1.out.size)); clear hb2 HB1
          go_wp2_with fail
          refine (zfew_any A2 c2 b _).mono ?_
          rw [HF2.out]
          rintro e3 w3 ⟨rfl, hb3⟩
          have HB3 := Lib.hid (HB2.out.trans (hb3.mono HB2.out.size)); clear hb3 HB2
          go_wp2_with fail
          refine (HR1.out _ HB3.out).mono ?_
          rintro e4 w4 ⟨rfl, hb4⟩
          have HB4 := Lib.hid (HB3.out.trans (hb4.mono HB3.out.size)); clear hb4 HB3
          go_wp2_with fail
          refine (HR2.out _ HB4.out).mono ?_
          rintro e5 w5 ⟨rfl, hb5⟩
          have HB5 := Lib.hid (HB4.out.trans (hb5.mono HB4.out.size)); clear hb5 HB4
          go_wp2_with fail
          go_ret
          exact ⟨rfl, HB5.out⟩
      · have HR1 := Lib.hid (fun w' (hb : Below w.heap.size w w') => vRight_rin_no (hA.below hb) hr)
        clear hA hB h24 h24b hr hra hca hcb hrb hca2 hcb2 hd
        go_enter Try.func7, Try.ntmps7
        go_wp2_with fail
        refine (zsmall_any _).mono ?_
        rintro e1 w1 ⟨rfl, hb1⟩
        have HB1 := Lib.hid hb1; clear hb1
        go_wp2_with fail
        refine (zfew_any A c a _).mono ?_
        rw [HF1.out]
        rintro e2 w2 ⟨rfl, hb2⟩
        have HB2 := Lib.hid (HB1.out.trans (hb2.mono HB1.out.size)); clear hb2 HB1
        go_wp2_with fail
        refine (zfew_any A2 c2 b _).mono ?_
        rw [HF2.out]
        rintro e3 w3 ⟨rfl, hb3⟩
        have HB3 := Lib.hid (HB2.out.trans (hb3.mono HB2.out.size)); clear hb3 HB2
        go_wp2_with fail
        refine (HR1.out _ HB3.out).mono ?_
        rintro e4 w4 ⟨rfl, hb4⟩
        have HB4 := Lib.hid (HB3.out.trans (hb4.mono HB3.out.size)); clear hb4 HB3
        go_wp2_with fail
        go_ret
        exact ⟨rfl, HB4.out⟩
    · have HF2 : Hid (decide (b.length ≤ 24) = false) := Lib.hid (decide_eq_false h24b)
      clear hA h24 h24b hra hca hcb hrb hca2 hcb2 hd
      go_enter Try.func7, Try.ntmps7
      go_wp2_with fail
      refine (zsmall_any _).mono ?_
      rintro e1 w1 ⟨rfl, hb1⟩
      have HB1 := Lib.hid hb1; clear hb1
      go_wp2_with fail
      refine (zfew_any A c a _).mono ?_
      rw [HF1.out]
      rintro e2 w2 ⟨rfl, hb2⟩
      have HB2 := Lib.hid (HB1.out.trans (hb2.mono HB1.out.size)); clear hb2 HB1
      go_wp2_with fail
      refine (zfew_any A2 c2 b _).mono ?_
      rw [HF2.out]
      rintro e3 w3 ⟨rfl, hb3⟩
      have HB3 := Lib.hid (HB2.out.trans (hb3.mono HB2.out.size)); clear hb3 HB2
      go_wp2_with fail
      go_ret
      exact ⟨rfl, HB3.out⟩
  · have HF1 : Hid (decide (a.length ≤ 24) = false) := Lib.hid (decide_eq_false h24)
    clear h24 hra hca hcb hrb hca2 hcb2 hd
    go_enter Try.func7, Try.ntmps7
    go_wp2_with fail
    refine (zsmall_any _).mono ?_
    rintro e1 w1 ⟨rfl, hb1⟩
    have HB1 := Lib.hid hb1; clear hb1
    go_wp2_with fail
    refine (zfew_any A c a _).mono ?_
    rw [HF1.out]
    rintro e2 w2 ⟨rfl, hb2⟩
    have HB2 := Lib.hid (HB1.out.trans (hb2.mono HB1.out.size)); clear hb2 HB1
    go_wp2_with fail
    go_ret
    exact ⟨rfl, HB2.out⟩
end Go.Proofs.Ytcnojedijimheaa
