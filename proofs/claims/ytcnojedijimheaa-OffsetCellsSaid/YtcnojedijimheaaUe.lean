/-
  OffsetCells: the law's walk.
-/
import Derived.Test.YtcnojedijimheaaTa
set_option linter.unusedVariables false
set_option maxRecDepth 100000
namespace Go.Proofs.Ytcnojedijimheaa
open Go.RowKit

def OneIn (H : Int → Int → Bool) (x0 x1 y0 y1 : Int) (b : Bool) : Prop := b = true ↔ ∃ u v, x0 ≤ u ∧ u ≤ x1 ∧ y0 ≤ v ∧ v ≤ y1 ∧ H u v = true
def AllIn (H : Int → Int → Bool) (x0 x1 y0 y1 : Int) (b : Bool) : Prop := b = true ↔ ∀ u v, x0 ≤ u → u ≤ x1 → y0 ≤ v → v ≤ y1 → H u v = true
theorem OneIn.start (H : Int → Int → Bool) (x0 y0 y1 : Int) : OneIn H x0 (x0 - 1) y0 y1 false := ⟨fun h => (by cases h), fun ⟨u, v, h1, h2, _⟩ => by omega⟩
theorem AllIn.start (H : Int → Int → Bool) (x0 y0 y1 : Int) : AllIn H x0 (x0 - 1) y0 y1 true := ⟨fun _ u v h1 h2 _ _ => by omega, fun _ => rfl⟩
def OneRow (H : Int → Int → Bool) (p : Bool) (i y0 k : Int) (b : Bool) : Prop := b = true ↔ p = true ∨ ∃ v, y0 ≤ v ∧ v < k ∧ H i v = true
def AllRow (H : Int → Int → Bool) (p : Bool) (i y0 k : Int) (b : Bool) : Prop := b = true ↔ p = true ∧ ∀ v, y0 ≤ v → v < k → H i v = true
theorem OneRow.start (H : Int → Int → Bool) (p : Bool) (i y0 : Int) : OneRow H p i y0 y0 p := ⟨Or.inl, fun h => h.elim id (fun ⟨v, h1, h2, _⟩ => by omega)⟩
theorem AllRow.start (H : Int → Int → Bool) (p : Bool) (i y0 : Int) : AllRow H p i y0 y0 p := ⟨fun h => ⟨h, fun v h1 h2 => by omega⟩, fun h => h.1⟩
theorem OneRow.step {H : Int → Int → Bool} {p : Bool} {i y0 k : Int} {b b' : Bool} (h : OneRow H p i y0 k b) (hk : y0 ≤ k) (e : b' = (b || H i k)) : OneRow H p i y0 (k + 1) b' := by
  unfold OneRow at h ⊢
  rw [e, Bool.or_eq_true, h]
  constructor
  · rintro ((h | ⟨v, h1, h2, h3⟩) | h)
    · exact Or.inl h
    · exact Or.inr ⟨v, h1, by omega, h3⟩
    · exact Or.inr ⟨k, hk, by omega, h⟩
  · rintro (h | ⟨v, h1, h2, h3⟩)
    · exact Or.inl (Or.inl h)
    · by_cases e : v = k
      · subst e; exact Or.inr h3
      · exact Or.inl (Or.inr ⟨v, h1, by omega, h3⟩)
theorem AllRow.step {H : Int → Int → Bool} {p : Bool} {i y0 k : Int} {b b' : Bool} (h : AllRow H p i y0 k b) (hk : y0 ≤ k) (e : b' = (b && H i k)) : AllRow H p i y0 (k + 1) b' := by
  unfold AllRow at h ⊢
  rw [e, Bool.and_eq_true, h]
  constructor
  · rintro ⟨⟨h1, h2⟩, h3⟩
    refine ⟨h1, fun v a1 a2 => ?_⟩
    by_cases e : v = k
    · subst e; exact h3
    · exact h2 v a1 (by omega)
  · rintro ⟨h1, h2⟩
    exact ⟨⟨h1, fun v a1 a2 => h2 v a1 (by omega)⟩, h2 k hk (by omega)⟩
theorem OneRow.done {H : Int → Int → Bool} {p : Bool} {i i' x0 y0 k y1 : Int} {b : Bool} (h : OneRow H p i y0 k b) (g : OneIn H x0 i' y0 y1 p) (e1 : i' = i - 1) (e2 : k = y1 + 1) (hx : x0 ≤ i) : OneIn H x0 i y0 y1 b := by
  subst e1 e2
  unfold OneRow at h
  unfold OneIn at g ⊢
  rw [h, g]
  constructor
  · rintro (⟨u, v, h1, h2, h3, h4, h5⟩ | ⟨v, h1, h2, h3⟩)
    · exact ⟨u, v, h1, by omega, h3, h4, h5⟩
    · exact ⟨i, v, hx, by omega, h1, by omega, h3⟩
  · rintro ⟨u, v, h1, h2, h3, h4, h5⟩
    by_cases e : u = i
    · subst e; exact Or.inr ⟨v, h3, by omega, h5⟩
    · exact Or.inl ⟨u, v, h1, by omega, h3, h4, h5⟩
theorem AllRow.done {H : Int → Int → Bool} {p : Bool} {i i' x0 y0 k y1 : Int} {b : Bool} (h : AllRow H p i y0 k b) (g : AllIn H x0 i' y0 y1 p) (e1 : i' = i - 1) (e2 : k = y1 + 1) (hx : x0 ≤ i) : AllIn H x0 i y0 y1 b := by
  subst e1 e2
  unfold AllRow at h
  unfold AllIn at g ⊢
  rw [h, g]
  constructor
  · rintro ⟨h1, h2⟩ u v a1 a2 a3 a4
    by_cases e : u = i
    · subst e; exact h2 v a3 (by omega)
    · exact h1 u v a1 (by omega) a3 a4
  · intro h
    exact ⟨fun u v a1 a2 a3 a4 => h u v a1 (by omega) a3 a4, fun v a1 a2 => h i v hx (by omega) a1 (by omega)⟩
set_option maxHeartbeats 40000000 in
theorem zcells_core (A : Option Addr) (c : Nat) (a G S : List Rc) (d x y e f : Int) (H : Int → Int → Bool) (w : World) (hA : RIn w A c a) (h24 : a.length ≤ 24) (hr : RegP a) (hd : 0 ≤ d) (hm : d ≤ 6) (hx0 : 0 ≤ x) (hx1 : x < 1048576) (hy0 : 0 ≤ y) (hy1 : y < 1048576)
    (hG : ∀ w', Below w.heap.size w w' → Calls Try.prog 17 #[.slice A a.length c, .int .i64 d] w' (RG G G.length e w'))
    (hS : ∀ w', Below w.heap.size w w' → Calls Try.prog 19 #[.slice A a.length c, .int .i64 d] w' (RG S S.length f w'))
    (hH : ∀ w' i k, Below w.heap.size w w' → Calls Try.prog 27 #[.slice A a.length c, .int .i64 i, .int .i64 k] w' (BlIs (H i k) w'))
    (hRG : e = 0 → ∀ w' A1 c1, RIn w' A1 c1 G → Calls Try.prog 26 #[.slice A1 G.length c1] w' (BlIs true w'))
    (hRS : f = 0 → ∀ w' A1 c1, RIn w' A1 c1 S → Calls Try.prog 26 #[.slice A1 S.length c1] w' (BlIs true w'))
    (hHG : e = 0 → ∀ w' A1 c1 b, RIn w' A1 c1 G → OneIn H (x - d) (x + d) (y - d) (y + d) b → Calls Try.prog 27 #[.slice A1 G.length c1, .int .i64 x, .int .i64 y] w' (BlIs b w'))
    (hHS : f = 0 → ∀ w' A1 c1 b, RIn w' A1 c1 S → AllIn H (x - d) (x + d) (y - d) (y + d) b → Calls Try.prog 27 #[.slice A1 S.length c1, .int .i64 x, .int .i64 y] w' (BlIs b w'))
    (he : e = 0 ∨ e = 6) (hf : f = 0 ∨ f = 6) :
    Calls Try.prog 5 #[.slice A a.length c, .int .i64 d, .int .i64 x, .int .i64 y] w (BlIs true w) := by
  have HA := Lib.hid hA
  have HR1 := Lib.hid (fun w' (hb : Below w.heap.size w w') => vRight_rin (hA.below hb) hr)
  have G1 := Lib.hid hG; have S1 := Lib.hid hS; have HH := Lib.hid hH; have RG1 := Lib.hid hRG; have RS1 := Lib.hid hRS; have HG1 := Lib.hid hHG; have HS1 := Lib.hid hHS
  have HF1 : Hid (decide (a.length ≤ 24) = true) := Lib.hid (decide_eq_true h24)
  have s0 : ¬ d < 0 := by omega
  have s1 : ¬ (6 : Int) < d := by omega
  have s2 : ¬ x < 0 := by omega
  have s3 : ¬ (1048576 : Int) ≤ x := by omega
  have s4 : ¬ y < 0 := by omega
  have s5 : ¬ (1048576 : Int) ≤ y := by omega
  have q0 : IntKind.i64.wrap (x - d) = x - d := IntWalk.i64_in _ (by omega)
  have q1 : IntKind.i64.wrap (x + d) = x + d := IntWalk.i64_in _ (by omega)
  have q2 : IntKind.i64.wrap (y - d) = y - d := IntWalk.i64_in _ (by omega)
  have q3 : IntKind.i64.wrap (y + d) = y + d := IntWalk.i64_in _ (by omega)
  clear hA h24 hr hG hS hH hRG hRS hHG hHS
  rcases he with rfl | rfl
  · rcases hf with rfl | rfl
    · go_enter Try.func5, Try.ntmps5
      go_wp2_with fail
      refine (zsmall_any _).mono ?_
      rintro e1 w1 ⟨rfl, hb1⟩
      have HB1 := Lib.hid hb1; clear hb1
      go_wp2_with fail
      refine (zfew_any A c a _).mono ?_
      rw [HF1.out]
      rintro e2 w2 ⟨rfl, hb2⟩
      have HB2 := Lib.hid (HB1.out.trans (hb2.mono HB1.out.size)); clear hb2 HB1
      go_wp2_with fail
      refine (HR1.out _ HB2.out).mono ?_
      rintro e3 w3 ⟨rfl, hb3⟩
      have HB3 := Lib.hid (HB2.out.trans (hb3.mono HB2.out.size)); clear hb3 HB2
      go_wp2_with fail
      refine (G1.out _ HB3.out).mono ?_
      rintro e4 w4 ⟨AG, cG, rfl, hG, hb4⟩
      have HB4 := Lib.hid (HB3.out.trans (hb4.mono HB3.out.size))
      have HG := Lib.hid hG; clear hG hb4 HB3
      go_wp2_with fail
      refine (S1.out _ HB4.out).mono ?_
      rintro e5 w5 ⟨AS, cS, rfl, hS, hb5⟩
      have HB5 := Lib.hid (HB4.out.trans (hb5.mono HB4.out.size))
      have HG := Lib.hid (HG.out.below hb5)
      have HS := Lib.hid hS; clear hS hb5 HB4
      go_wp2_with fail
      go_loopw [14, 15, 16] (fun s14 s15 s16 wr => ∃ (i : Int) (p q : Bool), s14 = .bool p ∧ s15 = .bool q ∧ s16 = .int .i64 i ∧ x - d ≤ i ∧ i ≤ x + d + 1 ∧ Hid (Below w.heap.size w wr) ∧ Hid (RIn wr AG cG G) ∧ Hid (RIn wr AS cS S) ∧ Hid (OneIn H (x - d) (i - 1) (y - d) (y + d) p) ∧ Hid (AllIn H (x - d) (i - 1) (y - d) (y + d) q)) (fun _ _ s16 _ => (x + d + 1 - intOf s16).toNat)
      case atStart => exact ⟨x - d, false, true, rfl, rfl, rfl, by omega, by omega, HB5, HG, HS, Lib.hid (OneIn.start _ _ _ _), Lib.hid (AllIn.start _ _ _ _)⟩
      case round =>
        clear HB5 HG HS
        obtain ⟨i, p, q, rfl, rfl, rfl, hi0, hi1, HB, HG, HS, HP, HQ⟩ := hrel
        by_cases hlt : i ≤ x + d
        · have wi : IntKind.i64.wrap (i + 1) = i + 1 := IntWalk.i64_in _ (by omega)
          obtain ⟨wo, rfl⟩ : ∃ wo : World, wo = wr := ⟨_, rfl⟩
          go_wp2_with fail
          go_loopw [14, 15, 17] (fun s14 s15 s17 w3 => ∃ (k : Int) (p3 q3 : Bool), s14 = .bool p3 ∧ s15 = .bool q3 ∧ s17 = .int .i64 k ∧ y - d ≤ k ∧ k ≤ y + d + 1 ∧ Hid (Below w.heap.size w w3) ∧ Hid (RIn w3 AG cG G) ∧ Hid (RIn w3 AS cS S) ∧ Hid (OneRow H p i (y - d) k p3) ∧ Hid (AllRow H q i (y - d) k q3)) (fun _ _ s17 _ => (y + d + 1 - intOf s17).toNat)
          case atStart => exact ⟨y - d, p, q, rfl, rfl, rfl, by omega, by omega, HB, HG, HS, Lib.hid (OneRow.start _ _ _ _), Lib.hid (AllRow.start _ _ _ _)⟩
          case round =>
            clear HB HG HS
            obtain ⟨k, p3, q3, rfl, rfl, rfl, hk0, hk1, HB, HG, HS, HP3, HQ3⟩ := hrel
            by_cases hkt : k ≤ y + d
            · have wk : IntKind.i64.wrap (k + 1) = k + 1 := IntWalk.i64_in _ (by omega)
              have P1 := Lib.hid (fun b' e => HP3.out.step (b' := b') hk0 e)
              have Q1 := Lib.hid (fun b' e => HQ3.out.step (b' := b') hk0 e)
              have C1 := Lib.hid (fun w' hb => HH.out w' i k hb)
              obtain ⟨b, hb⟩ : ∃ b, b = H i k := ⟨_, rfl⟩
              rw [← hb] at P1 Q1 C1
              clear hb HP3 HQ3
              rcases p3 with _ | _ <;> rcases q3 with _ | _ <;> rcases b with _ | _
              all_goals
                go_wp2_with fail
                refine (C1.out _ HB.out).mono ?_
                rintro e30 w30 ⟨rfl, hb30⟩
                have HG := Lib.hid (HG.out.below hb30)
                have HS := Lib.hid (HS.out.below hb30)
                have HB := Lib.hid (HB.out.trans (hb30.mono HB.out.size)); clear hb30
                go_wp2_with fail
                go_roundw
                case rel => exact ⟨k + 1, _, _, rfl, rfl, rfl, by omega, by omega, HB, HG, HS, Lib.hid (P1.out _ rfl), Lib.hid (Q1.out _ rfl)⟩
                case measure => simp [intOf]; omega
            · have P1 : Hid (OneIn H (x - d) (i + 1 - 1) (y - d) (y + d) p3) := Lib.hid (by rw [show i + 1 - 1 = i by omega]; exact HP3.out.done HP.out rfl (by omega) hi0)
              have Q1 : Hid (AllIn H (x - d) (i + 1 - 1) (y - d) (y + d) q3) := Lib.hid (by rw [show i + 1 - 1 = i by omega]; exact HQ3.out.done HQ.out rfl (by omega) hi0)
              clear HP3 HQ3 HP HQ
              go_wp2_with fail
              go_roundw
              case rel => exact ⟨i + 1, p3, q3, rfl, rfl, rfl, by omega, by omega, HB, HG, HS, P1, Q1⟩
              case measure => simp [intOf]; omega
        · obtain rfl : i = x + d + 1 := by omega
          have P1 : Hid (OneIn H (x - d) (x + d) (y - d) (y + d) p) := Lib.hid (by have k := HP.out; rw [show x + d + 1 - 1 = x + d by omega] at k; exact k)
          have Q1 : Hid (AllIn H (x - d) (x + d) (y - d) (y + d) q) := Lib.hid (by have k := HQ.out; rw [show x + d + 1 - 1 = x + d by omega] at k; exact k)
          clear HP HQ
          have C3 := Lib.hid (fun w' h => HG1.out (by first | exact trivial | rfl) w' AG cG p h P1.out)
          have C4 := Lib.hid (fun w' h => HS1.out (by first | exact trivial | rfl) w' AS cS q h Q1.out)
          clear P1 Q1 HG1 HS1
          rcases p with _ | _ <;> rcases q with _ | _
          all_goals
            go_wp2_with fail
            refine (RG1.out (by first | exact trivial | rfl) _ AG cG HG.out).mono ?_
            rintro e40 w40 ⟨rfl, hb40⟩
            have HG := Lib.hid (HG.out.below hb40)
            have HS := Lib.hid (HS.out.below hb40)
            have HB := Lib.hid (HB.out.trans (hb40.mono HB.out.size)); clear hb40
            go_wp2_with fail
            refine (RS1.out (by first | exact trivial | rfl) _ AS cS HS.out).mono ?_
            rintro e41 w41 ⟨rfl, hb41⟩
            have HG := Lib.hid (HG.out.below hb41)
            have HS := Lib.hid (HS.out.below hb41)
            have HB := Lib.hid (HB.out.trans (hb41.mono HB.out.size)); clear hb41
            go_wp2_with fail
            refine (C3.out _ HG.out).mono ?_
            rintro e42 w42 ⟨rfl, hb42⟩
            have HS := Lib.hid (HS.out.below hb42)
            have HB := Lib.hid (HB.out.trans (hb42.mono HB.out.size)); clear hb42 HG
            go_wp2_with fail
            refine (C4.out _ HS.out).mono ?_
            rintro e43 w43 ⟨rfl, hb43⟩
            have HB := Lib.hid (HB.out.trans (hb43.mono HB.out.size)); clear hb43 HS
            go_wp2_with fail
            go_ret
            exact ⟨rfl, HB.out⟩
    · go_enter Try.func5, Try.ntmps5
      go_wp2_with fail
      refine (zsmall_any _).mono ?_
      rintro e1 w1 ⟨rfl, hb1⟩
      have HB1 := Lib.hid hb1; clear hb1
      go_wp2_with fail
      refine (zfew_any A c a _).mono ?_
      rw [HF1.out]
      rintro e2 w2 ⟨rfl, hb2⟩
      have HB2 := Lib.hid (HB1.out.trans (hb2.mono HB1.out.size)); clear hb2 HB1
      go_wp2_with fail
      refine (HR1.out _ HB2.out).mono ?_
      rintro e3 w3 ⟨rfl, hb3⟩
      have HB3 := Lib.hid (HB2.out.trans (hb3.mono HB2.out.size)); clear hb3 HB2
      go_wp2_with fail
      refine (G1.out _ HB3.out).mono ?_
      rintro e4 w4 ⟨AG, cG, rfl, hG, hb4⟩
      have HB4 := Lib.hid (HB3.out.trans (hb4.mono HB3.out.size))
      have HG := Lib.hid hG; clear hG hb4 HB3
      go_wp2_with fail
      refine (S1.out _ HB4.out).mono ?_
      rintro e5 w5 ⟨AS, cS, rfl, hS, hb5⟩
      have HB5 := Lib.hid (HB4.out.trans (hb5.mono HB4.out.size))
      have HG := Lib.hid (HG.out.below hb5)
      have HS := Lib.hid hS; clear hS hb5 HB4
      go_wp2_with fail
      go_ret
      exact ⟨rfl, HB5.out⟩
  · rcases hf with rfl | rfl
    · go_enter Try.func5, Try.ntmps5
      go_wp2_with fail
      refine (zsmall_any _).mono ?_
      rintro e1 w1 ⟨rfl, hb1⟩
      have HB1 := Lib.hid hb1; clear hb1
      go_wp2_with fail
      refine (zfew_any A c a _).mono ?_
      rw [HF1.out]
      rintro e2 w2 ⟨rfl, hb2⟩
      have HB2 := Lib.hid (HB1.out.trans (hb2.mono HB1.out.size)); clear hb2 HB1
      go_wp2_with fail
      refine (HR1.out _ HB2.out).mono ?_
      rintro e3 w3 ⟨rfl, hb3⟩
      have HB3 := Lib.hid (HB2.out.trans (hb3.mono HB2.out.size)); clear hb3 HB2
      go_wp2_with fail
      refine (G1.out _ HB3.out).mono ?_
      rintro e4 w4 ⟨AG, cG, rfl, hG, hb4⟩
      have HB4 := Lib.hid (HB3.out.trans (hb4.mono HB3.out.size))
      have HG := Lib.hid hG; clear hG hb4 HB3
      go_wp2_with fail
      refine (S1.out _ HB4.out).mono ?_
      rintro e5 w5 ⟨AS, cS, rfl, hS, hb5⟩
      have HB5 := Lib.hid (HB4.out.trans (hb5.mono HB4.out.size))
      have HG := Lib.hid (HG.out.below hb5)
      have HS := Lib.hid hS; clear hS hb5 HB4
      go_wp2_with fail
      go_ret
      exact ⟨rfl, HB5.out⟩
    · go_enter Try.func5, Try.ntmps5
      go_wp2_with fail
      refine (zsmall_any _).mono ?_
      rintro e1 w1 ⟨rfl, hb1⟩
      have HB1 := Lib.hid hb1; clear hb1
      go_wp2_with fail
      refine (zfew_any A c a _).mono ?_
      rw [HF1.out]
      rintro e2 w2 ⟨rfl, hb2⟩
      have HB2 := Lib.hid (HB1.out.trans (hb2.mono HB1.out.size)); clear hb2 HB1
      go_wp2_with fail
      refine (HR1.out _ HB2.out).mono ?_
      rintro e3 w3 ⟨rfl, hb3⟩
      have HB3 := Lib.hid (HB2.out.trans (hb3.mono HB2.out.size)); clear hb3 HB2
      go_wp2_with fail
      refine (G1.out _ HB3.out).mono ?_
      rintro e4 w4 ⟨AG, cG, rfl, hG, hb4⟩
      have HB4 := Lib.hid (HB3.out.trans (hb4.mono HB3.out.size))
      have HG := Lib.hid hG; clear hG hb4 HB3
      go_wp2_with fail
      refine (S1.out _ HB4.out).mono ?_
      rintro e5 w5 ⟨AS, cS, rfl, hS, hb5⟩
      have HB5 := Lib.hid (HB4.out.trans (hb5.mono HB4.out.size))
      have HG := Lib.hid (HG.out.below hb5)
      have HS := Lib.hid hS; clear hS hb5 HB4
      go_wp2_with fail
      go_ret
      exact ⟨rfl, HB5.out⟩
set_option maxHeartbeats 40000000 in
theorem zcells_any (A : Option Addr) (c : Nat) (a : List Rc) (d x y : Int) (w : World) (hra : RRow w A a) (hca : a.length ≤ c) (hcb : c ≤ 9223372036854775807) (hd : -9223372036854775808 ≤ d ∧ d ≤ 9223372036854775807) (hx : -9223372036854775808 ≤ x ∧ x ≤ 9223372036854775807) (hy : -9223372036854775808 ≤ y ∧ y ≤ 9223372036854775807) :
    Calls Try.prog 5 #[.slice A a.length c, .int .i64 d, .int .i64 x, .int .i64 y] w (BlIs true w) := by
  by_cases h24 : a.length ≤ 24
  · have HF1 : Hid (decide (a.length ≤ 24) = true) := Lib.hid (decide_eq_true h24)
    have hA : RIn w A c a := ⟨hra, by omega, hca, hcb⟩
    by_cases c0 : d < 0
    · clear hA h24 hra hca hcb hd hx hy
      go_enter Try.func5, Try.ntmps5
      go_wp2_with fail
      refine (zsmall_any _).mono ?_
      rintro e1 w1 ⟨rfl, hb1⟩
      have HB1 := Lib.hid hb1; clear hb1
      go_wp2_with fail
      refine (zfew_any A c a _).mono ?_
      rw [HF1.out]
      rintro e2 w2 ⟨rfl, hb2⟩
      have HB2 := Lib.hid (HB1.out.trans (hb2.mono HB1.out.size)); clear hb2 HB1
      go_wp2_with fail
      go_ret
      exact ⟨rfl, HB2.out⟩
    by_cases c1 : 6 < d
    · clear hA h24 hra hca hcb hd hx hy
      go_enter Try.func5, Try.ntmps5
      go_wp2_with fail
      refine (zsmall_any _).mono ?_
      rintro e1 w1 ⟨rfl, hb1⟩
      have HB1 := Lib.hid hb1; clear hb1
      go_wp2_with fail
      refine (zfew_any A c a _).mono ?_
      rw [HF1.out]
      rintro e2 w2 ⟨rfl, hb2⟩
      have HB2 := Lib.hid (HB1.out.trans (hb2.mono HB1.out.size)); clear hb2 HB1
      go_wp2_with fail
      go_ret
      exact ⟨rfl, HB2.out⟩
    by_cases c2 : x < 0
    · clear hA h24 hra hca hcb hd hx hy
      go_enter Try.func5, Try.ntmps5
      go_wp2_with fail
      refine (zsmall_any _).mono ?_
      rintro e1 w1 ⟨rfl, hb1⟩
      have HB1 := Lib.hid hb1; clear hb1
      go_wp2_with fail
      refine (zfew_any A c a _).mono ?_
      rw [HF1.out]
      rintro e2 w2 ⟨rfl, hb2⟩
      have HB2 := Lib.hid (HB1.out.trans (hb2.mono HB1.out.size)); clear hb2 HB1
      go_wp2_with fail
      go_ret
      exact ⟨rfl, HB2.out⟩
    by_cases c3 : 1048576 ≤ x
    · clear hA h24 hra hca hcb hd hx hy
      go_enter Try.func5, Try.ntmps5
      go_wp2_with fail
      refine (zsmall_any _).mono ?_
      rintro e1 w1 ⟨rfl, hb1⟩
      have HB1 := Lib.hid hb1; clear hb1
      go_wp2_with fail
      refine (zfew_any A c a _).mono ?_
      rw [HF1.out]
      rintro e2 w2 ⟨rfl, hb2⟩
      have HB2 := Lib.hid (HB1.out.trans (hb2.mono HB1.out.size)); clear hb2 HB1
      go_wp2_with fail
      go_ret
      exact ⟨rfl, HB2.out⟩
    by_cases c4 : y < 0
    · clear hA h24 hra hca hcb hd hx hy
      go_enter Try.func5, Try.ntmps5
      go_wp2_with fail
      refine (zsmall_any _).mono ?_
      rintro e1 w1 ⟨rfl, hb1⟩
      have HB1 := Lib.hid hb1; clear hb1
      go_wp2_with fail
      refine (zfew_any A c a _).mono ?_
      rw [HF1.out]
      rintro e2 w2 ⟨rfl, hb2⟩
      have HB2 := Lib.hid (HB1.out.trans (hb2.mono HB1.out.size)); clear hb2 HB1
      go_wp2_with fail
      go_ret
      exact ⟨rfl, HB2.out⟩
    by_cases c5 : 1048576 ≤ y
    · clear hA h24 hra hca hcb hd hx hy
      go_enter Try.func5, Try.ntmps5
      go_wp2_with fail
      refine (zsmall_any _).mono ?_
      rintro e1 w1 ⟨rfl, hb1⟩
      have HB1 := Lib.hid hb1; clear hb1
      go_wp2_with fail
      refine (zfew_any A c a _).mono ?_
      rw [HF1.out]
      rintro e2 w2 ⟨rfl, hb2⟩
      have HB2 := Lib.hid (HB1.out.trans (hb2.mono HB1.out.size)); clear hb2 HB1
      go_wp2_with fail
      go_ret
      exact ⟨rfl, HB2.out⟩
    by_cases hr : RegP a
    · have g0 : 0 ≤ d := by omega
      have g1 : d ≤ 1048576 := by omega
      have oa := form_ok hr.1
      refine zcells_core A c a (growM a d).1 (shrinkM a d).1 d x y (growM a d).2 (shrinkM a d).2 (hasD a) w hA h24 hr g0 (by omega) (by omega) (by omega) (by omega) (by omega)
        (fun w' hb => ygrow_rg A c a d w' (hA.below hb)) (fun w' hb => yshrink_rg A c a d w' (hA.below hb)) (fun w' i k hb => vHas_yes A c a i k w' (hA.below hb).row hr) ?_ ?_ ?_ ?_ ?_ ?_
      · intro he w' A1 c1 h
        obtain ⟨e1, e2⟩ := growM_reg hr g0 g1 he
        rw [e1] at h ⊢
        exact vRight_rin h e2
      · intro he w' A1 c1 h
        obtain ⟨e1, e2⟩ := shrinkM_reg hr g0 g1 he
        rw [e1] at h ⊢
        exact vRight_rin h e2
      · intro he w' A1 c1 b h hb
        obtain ⟨e1, e2⟩ := growM_reg hr g0 g1 he
        rw [e1] at h ⊢
        have k := vHas_yes A1 c1 (groF a d) x y w' h.row e2
        have eb : hasD (groF a d) x y = b := by
          apply Bool.eq_iff_iff.2
          rw [show b = true ↔ _ from hb, hasD_iff, (groF_is oa g0).cells]
          constructor
          · rintro ⟨_, u, v, h1, h2, h3, h4, h5⟩
            exact ⟨u, v, by omega, by omega, by omega, by omega, (hasD_iff _ _ _).2 h1⟩
          · rintro ⟨u, v, h1, h2, h3, h4, h5⟩
            exact ⟨⟨by omega, by omega, by omega, by omega⟩, u, v, (hasD_iff _ _ _).1 h5, by omega, by omega, by omega, by omega⟩
        rw [eb] at k
        exact k
      · intro he w' A1 c1 b h hb
        obtain ⟨e1, e2⟩ := shrinkM_reg hr g0 g1 he
        rw [e1] at h ⊢
        have k := vHas_yes A1 c1 (eroF a d) x y w' h.row e2
        have eb : hasD (eroF a d) x y = b := by
          apply Bool.eq_iff_iff.2
          rw [show b = true ↔ _ from hb, hasD_iff, (eroF_is oa g0).cells]
          constructor
          · intro h u v h1 h2 h3 h4
            exact (hasD_iff _ _ _).2 (h u v h1 h2 h3 h4)
          · intro h u v h1 h2 h3 h4
            exact (hasD_iff _ _ _).1 (h u v h1 h2 h3 h4)
        rw [eb] at k
        exact k
      · rw [growM_yes hr g0 g1]; exact capR_err _
      · rw [shrinkM_yes hr g0 g1]; exact capR_err _
    · have HR1 := Lib.hid (fun w' (hb : Below w.heap.size w w') => vRight_rin_no (hA.below hb) hr)
      clear hA h24 hr hra hca hcb hd hx hy
      go_enter Try.func5, Try.ntmps5
      go_wp2_with fail
      refine (zsmall_any _).mono ?_
      rintro e1 w1 ⟨rfl, hb1⟩
      have HB1 := Lib.hid hb1; clear hb1
      go_wp2_with fail
      refine (zfew_any A c a _).mono ?_
      rw [HF1.out]
      rintro e2 w2 ⟨rfl, hb2⟩
      have HB2 := Lib.hid (HB1.out.trans (hb2.mono HB1.out.size)); clear hb2 HB1
      go_wp2_with fail
      refine (HR1.out _ HB2.out).mono ?_
      rintro e3 w3 ⟨rfl, hb3⟩
      have HB3 := Lib.hid (HB2.out.trans (hb3.mono HB2.out.size)); clear hb3 HB2
      go_wp2_with fail
      go_ret
      exact ⟨rfl, HB3.out⟩
  · have HF1 : Hid (decide (a.length ≤ 24) = false) := Lib.hid (decide_eq_false h24)
    clear h24 hra hca hcb hd hx hy
    go_enter Try.func5, Try.ntmps5
    go_wp2_with fail
    refine (zsmall_any _).mono ?_
    rintro e1 w1 ⟨rfl, hb1⟩
    have HB1 := Lib.hid hb1; clear hb1
    go_wp2_with fail
    refine (zfew_any A c a _).mono ?_
    rw [HF1.out]
    rintro e2 w2 ⟨rfl, hb2⟩
    have HB2 := Lib.hid (HB1.out.trans (hb2.mono HB1.out.size)); clear hb2 HB1
    go_wp2_with fail
    go_ret
    exact ⟨rfl, HB2.out⟩
end Go.Proofs.Ytcnojedijimheaa
