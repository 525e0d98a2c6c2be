/-
  Contracts of the program's layer 8 (12): Shrink.
-/
import Derived.Test.YtcnojedijimheaaSo
import Derived.Test.YtcnojedijimheaaSk
import Derived.Test.YtcnojedijimheaaSm
import Derived.StillTailTactics
import Derived.Deep.RegionHeld3
set_option linter.unusedVariables false
set_option maxRecDepth 100000
namespace Go.Proofs.Ytcnojedijimheaa
open Go.RowKit

noncomputable def shrinkM (l : List Rc) (d : Int) : List Rc × Int := if RegP l ∧ DistP d then capR (eroF l d) else ([], 1)
/-- the rectangles so far, and the rows of the slab before. -/
structure ShW (vs vl : Value) (F : List Rc) (R : List (Int × Int)) (w wr : World) : Prop where
  o1 : wr.ownsRow w.heap.size 41 4 vs F.length (rcells F)
  o2 : wr.ownsRow w.heap.size 63 2 vl R.length (scells R)
  bel : Below w.heap.size w wr
theorem ShW.go {vs vl : Value} {F : List Rc} {R : List (Int × Int)} {w wr w' : World} (h : ShW vs vl F R w wr) (hb : Below wr.heap.size wr w') : ShW vs vl F R w w' := ⟨own_go h.o1 hb, own_go h.o2 hb, h.bel.trans (hb.mono h.bel.size)⟩
theorem ShW.grow {vs vl vs' : Value} {F F' : List Rc} {R : List (Int × Int)} {w wr w' : World} (h : ShW vs vl F R w wr) (ho : w'.ownsRow w.heap.size 41 4 vs' F'.length (rcells F')) (hg : wr.grownBy w' vs.ownBlock) : ShW vs' vl F' R w w' :=
  ⟨ho, own_kept h.o1 h.o2 (by decide) hg, Below.grown h.bel hg h.bel.size (fun k hk => (h.o1.lt k hk).1)⟩
/-- what the region of a round of the inner loop reads. -/
def RX (b3 p q gB : Nat) (xa xb s0 s1 : Int) (w : World) : Prop := w.cell? ⟨b3, p, none⟩ = some (.int .i64 xa) ∧ w.cell? ⟨b3, q, none⟩ = some (.int .i64 xb) ∧ w.cell? ⟨gB, 0, none⟩ = some (.int .i64 s0) ∧ w.cell? ⟨gB, 1, none⟩ = some (.int .i64 s1) ∧ b3 < w.heap.size ∧ gB < w.heap.size
theorem RX.go {b3 p q gB : Nat} {xa xb s0 s1 : Int} {w w' : World} (h : RX b3 p q gB xa xb s0 s1 w) (hb : Below w.heap.size w w') : RX b3 p q gB xa xb s0 s1 w' := by
  obtain ⟨h0, h1, h2, h3, l0, l1⟩ := h
  have c := fun b o (hb2 : b < w.heap.size) => hb.cell (p := ⟨b, o, none⟩) hb2
  exact ⟨(c _ _ l0).trans h0, (c _ _ l0).trans h1, (c _ _ l1).trans h2, (c _ _ l1).trans h3, Nat.lt_of_lt_of_le l0 hb.size, Nat.lt_of_lt_of_le l1 hb.size⟩
theorem RX.grow {b3 p q gB : Nat} {xa xb s0 s1 : Int} {w w' : World} {row : Option Nat} (h : RX b3 p q gB xa xb s0 s1 w) (hg : w.grownBy w' row) (hn : ∀ g, row = some g → g ≠ b3 ∧ g ≠ gB) : RX b3 p q gB xa xb s0 s1 w' := by
  obtain ⟨h0, h1, h2, h3, l0, l1⟩ := h
  have e0 : ∀ o, w'.cell? ⟨b3, o, none⟩ = w.cell? ⟨b3, o, none⟩ := fun o => World.cell?_of_block (hg.block b3 l0 (fun e => (hn b3 e.symm).1 rfl))
  have e1 : ∀ o, w'.cell? ⟨gB, o, none⟩ = w.cell? ⟨gB, o, none⟩ := fun o => World.cell?_of_block (hg.block gB l1 (fun e => (hn gB e.symm).2 rfl))
  exact ⟨(e0 _).trans h0, (e0 _).trans h1, (e1 _).trans h2, (e1 _).trans h3, Nat.lt_of_lt_of_le l0 hg.size, Nat.lt_of_lt_of_le l1 hg.size⟩
theorem RX.drewN {b3 p q gB : Nat} {xa xb s0 s1 : Int} {w : World} (h : RX b3 p q gB xa xb s0 s1 w) (n : Nat) : RX b3 p q gB xa xb s0 s1 (w.drewN n) := h.go (below_drewN (Below.refl _ _) n)
def slabR (a b : Int) (R : List (Int × Int)) : List Rc := R.map (fun p => (⟨a, p.1, b, p.2⟩ : Rc))
theorem slabR_next (a b : Int) (R : List (Int × Int)) (k : Nat) (h : k < R.length) : slabR a b (R.take (k + 1)) = slabR a b (R.take k) ++ [⟨a, R[k].1, b, R[k].2⟩] := by
  rw [List.take_succ_eq_append_getElem h]; unfold slabR; rw [List.map_append]; rfl
theorem own_sp_row {w : World} {B n c : Nat} {A : Option Addr} {P : List (Int × Int)} (h : w.ownsRow B 63 2 (.slice A n c) P.length (scells P)) : SpRow w B A P := by
  obtain ⟨A', c', e, hr, _⟩ := own_spans h
  injection e with e1 _ _
  subst e1; exact hr
theorem rcells_app (F : List Rc) (r : Rc) : rcells (F ++ [r]) = rcells F ++ [.int .i64 r.X0, .int .i64 r.Y0, .int .i64 r.X1, .int .i64 r.Y1] := by rw [rcells_append]; rfl
set_option maxHeartbeats 8000000 in
theorem yshrink_no (A : Option Addr) (cap : Nat) (l : List Rc) (d : Int) (w : World) (hl : RIn w A cap l) (hn : ¬ (RegP l ∧ DistP d)) :
    Calls Try.prog 19 #[.slice A l.length cap, .int .i64 d] w (ResIs (shrinkM l d) w) := by
  rw [show shrinkM l d = ([], 1) from if_neg hn]
  by_cases hr : RegP l
  · have HR := Lib.hid (gright_yes A cap l w hl.row hl.len hl.room hl.room2 hr)
    have HD := Lib.hid (fun w' => yisd_any d w')
    rw [show decide (DistP d) = false from decide_eq_false (fun h => hn ⟨hr, h⟩)] at HD
    clear hr hl hn
    go_enter Try.func19, Try.ntmps19
    go_wp2_with fail
    refine HR.out.mono ?_
    rintro e1 w1 ⟨rfl, hb1⟩
    have HB1 := Lib.hid hb1; clear hb1
    go_wp2_with fail
    refine (HD.out _).mono ?_
    rintro e2 w2 ⟨rfl, hb2⟩
    have HB2 := Lib.hid (HB1.out.trans (hb2.mono HB1.out.size)); clear hb2 HB1
    go_wp2_with fail
    go_ret2
    exact ⟨_, rfl, World.ownsRow_nil _ _ _ _, HB2.out⟩
  · have HR := Lib.hid (gright_no A cap l w hl.row hl.len hl.room hl.room2 hr)
    clear hr hl hn
    go_enter Try.func19, Try.ntmps19
    go_wp2_with fail
    refine HR.out.mono ?_
    rintro e1 w1 ⟨rfl, hb1⟩
    have HB1 := Lib.hid hb1; clear hb1
    go_wp2_with fail
    go_ret2
    exact ⟨_, rfl, World.ownsRow_nil _ _ _ _, HB1.out⟩
set_option maxHeartbeats 40000000 in
theorem yshrink_yes (A : Option Addr) (cap : Nat) (l : List Rc) (d : Int) (w : World) (hl : RIn w A cap l) (hr : RegP l) (hd : DistP d) :
    Calls Try.prog 19 #[.slice A l.length cap, .int .i64 d] w (ResIs (shrinkM l d) w) := by
  rw [show shrinkM l d = capR (eroF l d) from if_pos ⟨hr, hd⟩]
  obtain ⟨i0, hi9, hz0, hz1, hz2⟩ := info_parts infoRect
  have HR := Lib.hid (gright_yes A cap l w hl.row hl.len hl.room hl.room2 hr)
  have HD := Lib.hid (fun w' => yisd_any d w')
  rw [show decide (DistP d) = true from decide_eq_true hd] at HD
  have HCH := Lib.hid (fun w' (h : Below w.heap.size w w') => ychg_any A cap l d w' (hl.below h) hr hd)
  have HGRID := Lib.hid (chgL_grid (form_ok hr.1) hd.1 hd.2)
  have hlen := hr.2
  obtain ⟨S, hS, eS⟩ := hr.1
  subst eS
  have HRW := Lib.hid (fun (x : Int) (hx : -2097152 ≤ x ∧ x ≤ 2097152) w' (h : Below w.heap.size w w') => yrows_any A cap S x d w' hS (hl.below h) hlen hd hx)
  have HSS := Lib.hid hS
  have HDD := Lib.hid hd.1
  clear hl hr hd hS
  go_enter Try.func19, Try.ntmps19
  go_wp2_with fail
  refine HR.out.mono ?_
  rintro e1 w1 ⟨rfl, hb1⟩
  have HB1 := Lib.hid hb1; clear hb1 HR
  go_wp2_with fail
  refine (HD.out _).mono ?_
  rintro e2 w2 ⟨rfl, hb2⟩
  have HB2 := Lib.hid (HB1.out.trans (hb2.mono HB1.out.size)); clear hb2 HB1 HD
  go_wp2_with fail
  refine (HCH.out _ HB2.out).mono ?_
  rintro e3 w3 ⟨X, A3, c3, rfl, hrow, hasc, hmem, hXl, hb3⟩
  have HB3 := Lib.hid (HB2.out.trans (hb3.mono HB2.out.size)); clear hb3 HB2 HCH
  have HROW := Lib.hid hrow
  have HXS : Hid (XsOf S d X) := Lib.hid ⟨hasc, fun z => by rw [hmem, chg_same HSS.out]⟩
  have HXG : Hid (∀ z ∈ X, -2097152 ≤ z ∧ z ≤ 2097152) := Lib.hid (fun z hz => by have := HGRID.out z ((hmem z).1 hz); omega)
  clear hrow hasc hmem HGRID
  by_cases hX : 0 < X.length
  · have K0 : Hid (EroAt S d (X[0]) [] []) := Lib.hid (HXS.out.start HDD.out hX)
    have W0 : Hid (ShW (.slice none 0 0) (.slice none 0 0) (flatS []) [] w3 w3) := Lib.hid ⟨World.ownsRow_nil _ _ _ _, World.ownsRow_nil _ _ _ _, Below.refl _ _⟩
    go_wp2_with fail
    go_loopw [6, 7, 9, 10] (fun vs vl i _ wr => ∃ (j : Nat) (T : List Slab) (last : List (Int × Int)) (vs0 vl0 : Value) (hj : j < X.length), i = .int .i64 ((j : Int) + 1) ∧ vs0 = vs ∧ vl0 = vl ∧ Hid (EroAt S d X[j] T last) ∧ Hid (ShW vs0 vl0 (flatS T) last w3 wr) ∧ Hid ((flatS T).length ≤ j * 1048576 ∧ last.length ≤ 1048576)) (fun _ _ i _ _ => X.length - (intOf i).toNat)
    case atStart => exact ⟨0, [], [], _, _, hX, rfl, rfl, rfl, K0, W0, Lib.hid (by simp [flatS])⟩
    case round =>
      clear K0 W0 hX
      obtain ⟨j, T, last, vs, vl, hj, rfl, rfl, rfl, HE, HW, HL⟩ := hrel
      by_cases hlt : j + 1 < X.length
      · have HES := Lib.hid (XsOf.step HSS.out HXS.out HDD.out hlt HE.out)
        have hab := asc_lt HXS.out.asc hj hlt (by omega)
        have hxa := HXG.out _ (List.getElem_mem hj)
        obtain ⟨b3, o3, rfl, hb3, hv3⟩ := HROW.out (by omega)
        have x0 := hv3 j hj; have x1 := hv3 (j + 1) hlt
        have HX0 := Lib.hid x0; have HX1 := Lib.hid x1
        have wc := fun o => HW.out.bel.cell (p := ⟨b3, o, none⟩) hb3
        have x0 := (wc _).trans x0; have x1 := (wc _).trans x1
        clear wc hv3
        have HE2 := HE
        obtain ⟨xa, hxa0⟩ : ∃ xa, xa = X[j] := ⟨_, rfl⟩
        obtain ⟨xb, hxb0⟩ : ∃ xb, xb = X[j + 1] := ⟨_, rfl⟩
        rw [← hxa0] at HE x0 HX0 HES hab hxa
        rw [← hxb0] at x1 HX1 HES hab
        have HXB := Lib.hid hxb0
        clear hxa0 hxb0 HE2
        obtain ⟨R, hR⟩ : ∃ R, R = rowsA S xa d := ⟨_, rfl⟩
        have HRR := Lib.hid (fun w' h => HRW.out xa hxa w' h)
        rw [← hR] at HRR HES
        have hRl : R.length ≤ 1048576 := by rw [hR]; exact rows_few HSS.out HDD.out xa
        clear hR hxa
        have HBW := Lib.hid (HB3.out.trans (HW.out.bel.mono HB3.out.size))
        have j0 : (0 : Int) ≤ (j : Int) := by omega
        have j1 : (j : Int) < (X.length : Int) := by omega
        have j2 : (j : Int) + 1 < (X.length : Int) := by omega
        have q5 : IntKind.i64.wrap ((j : Int) + 1 - 1) = (j : Int) := by rw [show (j : Int) + 1 - 1 = (j : Int) by omega]; exact IntWalk.i64_in _ (by omega)
        go_wp2_with fail
        refine (HRR.out _ HBW.out).mono ?_
        rintro e4 w4 ⟨vR, rfl, hoR, hb4⟩
        have HW4 := Lib.hid (HW.out.go hb4)
        have HOR : Hid (w4.ownsRow w3.heap.size 63 2 vR R.length (scells R)) := Lib.hid (own_base hoR HW.out.bel.size)
        clear hoR hb4 HW HRR HBW x0 x1
        obtain ⟨A5, c5, rfl, hrow5, _, _, _⟩ := own_spans HOR.out
        obtain ⟨Al, cl, rfl, hrowl, _, _, _⟩ := own_spans HW4.out.o2
        have HEQ := Lib.hid (yeq_any _ _ A5 c5 Al cl R last w4 hrow5 hrowl (by omega) (by have := HL.out.2; omega))
        clear hrow5 hrowl
        go_wp2_with fail
        refine HEQ.out.mono ?_
        rintro e5 w5 ⟨rfl, hb5⟩
        have HW5 := Lib.hid (HW4.out.go hb5)
        have HOR5 := Lib.hid (own_go HOR.out hb5)
        clear hb5 HW4 HOR HEQ
        by_cases e : R = last
        · rw [decide_eq_true e]
          subst e
          have y1 := (HW5.out.bel.cell (p := ⟨b3, o3 + (j + 1), none⟩) hb3).trans HX1.out
          obtain ⟨L, Q, k1, k2, k3, k4⟩ := ero_wide (b := xb) HE.out
          obtain ⟨F, hF⟩ : ∃ F, F = flatS T := ⟨_, rfl⟩
          obtain ⟨F', hF'⟩ : ∃ F', F' = flatS (stepF T xa xb (unt R)) := ⟨_, rfl⟩
          rw [← hF] at HW5 HL k1 k3
          rw [← hF'] at k4
          have HFF := Lib.hid hF'
          clear hF hF' k3
          have hLN : F'.length = F.length := by rw [k4, k1]; simp
          have hFQ : F.length = L.length + Q.length := by rw [k1, List.length_append]
          have hFl : F.length ≤ 4294967296 := by have := HL.out.1; omega
          have HNX : Hid ((flatS (stepF T xa xb (unt R))).length ≤ (j + 1) * 1048576 ∧ R.length ≤ 1048576) := Lib.hid (by rw [← HFF.out]; have := HL.out; omega)
          have HES2 : Hid (EroAt S d X[j + 1] (stepF T xa xb (unt R)) R) := Lib.hid (by rw [← HXB.out]; exact HES.out)
          have hbw : b3 < w5.heap.size := Nat.lt_of_lt_of_le hb3 HW5.out.bel.size
          have j3 : (0 : Int) ≤ (j : Int) + 1 := by omega
          have jt : ((j : Int) + 1).toNat = j + 1 := by omega
          have q8 : IntKind.i64.wrap ((j : Int) + 1 + 1) = (j : Int) + 1 + 1 := IntWalk.i64_in _ (by omega)
          clear q5 HES HXB HOR5 hRl
          obtain ⟨hlx, hc⟩ := HW5.out.o1
          rcases hc with ⟨rfl, h0⟩ | ⟨g, c6, cur, rfl, hB, hg, hr1, hr2, hr3⟩
          · have eR : R.length = 0 := by omega
            have eF : F' = F := by rw [k4, k1, List.length_eq_zero_iff.1 (show Q.length = 0 by omega)]; simp
            have HW6 : Hid (ShW (.slice none 0 0) (.slice Al R.length cl) (flatS (stepF T xa xb (unt R))) R w3 w5.drew) := Lib.hid (by
              rw [← HFF.out, eF]; exact HW5.out.go (below_drewN (Below.refl _ _) 1))
            rw [eR] at HW6 ⊢
            have q9 : IntKind.i64.wrap 0 = 0 := IntWalk.i64_in _ (by omega)
            clear k1 k2 k4 hlx h0 HW5 HL eF hLN hFQ hFl HFF
            go_wp2_with fail
            go_still_tail 11, (by kernel_rfl)
            change wpList _ _ _ _ _ w5.drew
            go_wp2_with fail
            refine (yext_none _ _ _ _).mono ?_
            rintro e6 w6 ⟨rfl, rfl⟩
            go_wp2_with fail
            go_roundw
            case rel => exact ⟨j + 1, _, R, _, _, hlt, by go_num, rfl, by first | rfl | rw [eR], HES2, by first | exact HW6 | (rw [eR]; exact HW6), HNX⟩
            case measure => simp [intOf]; omega
          · by_cases eR : R.length = 0
            · have eF : F' = F := by rw [k4, k1, List.length_eq_zero_iff.1 (show Q.length = 0 by omega)]; simp
              have HW6 : Hid (ShW (.slice (some ⟨g, 0, none⟩) F.length c6) (.slice Al R.length cl) (flatS (stepF T xa xb (unt R))) R w3 w5.drew) := Lib.hid (by
                rw [← HFF.out, eF]; exact HW5.out.go (below_drewN (Below.refl _ _) 1))
              rw [eR] at HW6 ⊢
              have q7 : IntKind.i64.wrap ((F.length : Int) - 0) = (F.length : Int) := by rw [Int.sub_zero]; exact IntWalk.i64_in _ (by omega)
              have q9 : IntKind.i64.wrap (F.length : Int) = (F.length : Int) := IntWalk.i64_in _ (by omega)
              have s3 : (0 : Int) ≤ (F.length : Int) := by omega
              clear k1 k2 k4 hlx HW5 HL eF hLN hFQ HFF hg hr3
              have hr2' : c6 ≤ 9223372036854775807 := by unfold maxLen at hr2; omega
              clear hr2
              by_cases hf : F.length = c6
              · subst hf
                go_wp2_with fail
                go_still_tail 11, (by kernel_rfl)
                change wpList _ _ _ _ _ w5.drew
                go_wp2_with fail
                refine (yext_none _ _ _ _).mono ?_
                rintro e6 w6 ⟨rfl, rfl⟩
                go_wp2_with fail
                go_roundw
                case rel => exact ⟨j + 1, _, R, _, _, hlt, by go_num, rfl, by first | rfl | rw [eR], HES2, by first | exact HW6 | (rw [eR]; exact HW6), HNX⟩
                case measure => simp [intOf]; omega
              · have s2 : (F.length : Int) ≤ (c6 : Int) := by omega
                go_wp2_with fail
                go_still_tail 11, (by kernel_rfl)
                change wpList _ _ _ _ _ w5.drew
                go_wp2_with fail
                refine (yext_none _ _ _ _).mono ?_
                rintro e6 w6 ⟨rfl, rfl⟩
                go_wp2_with fail
                go_roundw
                case rel => exact ⟨j + 1, _, R, _, _, hlt, by go_num, rfl, by first | rfl | rw [eR], HES2, by first | exact HW6 | (rw [eR]; exact HW6), HNX⟩
                case measure => simp [intOf]; omega
            · have k4' : F' = L ++ wideL xb Q := k4
              have HEXT : Hid (∀ (n c : Nat), n = Q.length → Calls Try.prog 59 #[.slice (some ⟨g, L.length * 4, none⟩) n c, .int .i64 xb] w5.drew fun e w' => e = .returned (.tuple #[]) ∧ ShW (.slice (some ⟨g, 0, none⟩) F.length c6) (.slice Al R.length cl) (flatS (stepF T xa xb (unt R))) R w3 w') := Lib.hid (fun n c hn => by
                subst hn
                have W5 := HW5.out.go (below_drewN (Below.refl _ _) 1)
                have ho := W5.o1
                rw [k1] at ho
                refine (yext_any w3.heap.size g c6 c L Q xb w5.drew ho (by rw [← k1]; omega)).mono ?_
                rintro e w' ⟨rfl, h1, h2⟩
                refine ⟨rfl, ?_⟩
                rw [← HFF.out]
                refine W5.grow ?_ h2
                rw [← k4', ← k1] at h1
                rw [hLN]; exact h1)
              have q7 : IntKind.i64.wrap ((F.length : Int) - (R.length : Int)) = (L.length : Int) := by rw [show (F.length : Int) - (R.length : Int) = (L.length : Int) by omega]; exact IntWalk.i64_in _ (by omega)
              have s1 : (0 : Int) ≤ (L.length : Int) := by omega
              have s2 : (L.length : Int) ≤ (F.length : Int) := by omega
              have s3 : (F.length : Int) ≤ (c6 : Int) := by omega
              have s4 : L.length ≠ c6 := by omega
              have HQN := Lib.hid (show F.length - L.length = Q.length by omega)
              clear k1 k2 k4 k4' hlx HW5 HL hLN hFQ HFF hg hr3 hr2 eR
              go_wp2_with fail
              go_still_tail 11, (by kernel_rfl)
              change wpList _ _ _ _ _ w5.drew
              go_wp2_with fail
              refine (HEXT.out _ _ HQN.out).mono ?_
              rintro e6 w6 ⟨rfl, hw6⟩
              have HW6 := Lib.hid hw6
              clear hw6 HEXT
              go_wp2_with fail
              go_roundw
              case rel => exact ⟨j + 1, _, R, _, _, hlt, by go_num, rfl, rfl, HES2, HW6, HNX⟩
              case measure => simp [intOf]; omega
        · rw [decide_eq_false e]
          obtain ⟨F, hF⟩ : ∃ F, F = flatS T := ⟨_, rfl⟩
          have HES2 : Hid (EroAt S d X[j + 1] (stepF T xa xb (unt R)) R) := Lib.hid (by rw [← HXB.out]; exact HES.out)
          have HNEW : Hid (flatS (stepF T xa xb (unt R)) = F ++ slabR xa xb R) := Lib.hid (by rw [hF]; exact ero_new HE.out hab e)
          rw [← hF] at HW5 HL
          have hFl : F.length ≤ 4294967296 := by have := HL.out.1; omega
          have HNX : Hid ((flatS (stepF T xa xb (unt R))).length ≤ (j + 1) * 1048576 ∧ R.length ≤ 1048576) := Lib.hid (by rw [HNEW.out, List.length_append]; have h1 : (slabR xa xb R).length = R.length := (by simp [slabR]); have := HL.out; omega)
          have K1 : Hid (ShW vs (.slice A5 R.length c5) (F ++ slabR xa xb (R.take 0)) R w3 w5) := Lib.hid (by
            have e0 : F ++ slabR xa xb (R.take 0) = F := by simp [slabR]
            rw [e0]; exact ⟨HW5.out.o1, HOR5.out, HW5.out.bel⟩)
          clear HW5 HOR5 HES hF e HE HL
          have j3 : (0 : Int) ≤ (j : Int) + 1 := by omega
          have jt : ((j : Int) + 1).toNat = j + 1 := by omega
          have q6 : IntKind.i64.wrap (j : Int) = (j : Int) := IntWalk.i64_in _ (by omega)
          go_wp2_with fail
          go_loopw [6, 55] (fun v i wq => ∃ (k : Nat) (vk : Value), k ≤ R.length ∧ i = .int .i64 k ∧ vk = v ∧ Hid (ShW vk (.slice A5 R.length c5) (F ++ slabR xa xb (R.take k)) R w3 wq)) (fun _ i _ => R.length - (intOf i).toNat)
          case atStart => exact ⟨0, _, Nat.zero_le _, rfl, rfl, K1⟩
          case round =>
            clear K1
            obtain ⟨k, vk, hk, rfl, rfl, HWK⟩ := hrel
            by_cases hkt : k < R.length
            · obtain ⟨b5, o5, rfl, _, hb5, hv5⟩ := own_sp_row HWK.out.o2 (by omega)
              obtain ⟨z0, z1⟩ := hv5 k hkt
              clear hv5
              have k0 : (0 : Int) ≤ (k : Int) := by omega
              have k1 : (k : Int) < (R.length : Int) := by omega
              have HN := Lib.hid (slabR_next xa xb R k hkt)
              obtain ⟨u, hu⟩ : ∃ u, u = R[k] := ⟨_, rfl⟩
              rw [← hu] at z0 z1 HN
              clear hu
              obtain ⟨s0, s1⟩ := u
              simp only [] at z0 z1 HN
              obtain ⟨Fk, hFk⟩ : ∃ Fk, Fk = F ++ slabR xa xb (R.take k) := ⟨_, rfl⟩
              have hFkl : Fk.length ≤ 4300000000 := by rw [hFk, List.length_append]; have h1 : (slabR xa xb (R.take k)).length ≤ R.length := (by simp [slabR]; omega); omega
              have HFN : Hid (F ++ slabR xa xb (R.take (k + 1)) = Fk ++ [⟨xa, s0, xb, s1⟩]) := Lib.hid (by rw [HN.out, hFk, List.append_assoc])
              rw [← hFk] at HWK
              clear hFk HN
              obtain ⟨W1, hW1⟩ : ∃ W1, W1 = wr.alloc (.cells #[.int .i64 s0, .int .i64 s1] 63) := ⟨_, rfl⟩
              have hbB : Below wr.heap.size wr W1 := by rw [hW1]; exact (Below.refl _ _).alloc (Nat.le_refl _) _
              have hwB := heap_alloc_new wr (.cells #[.int .i64 s0, .int .i64 s1] 63)
              rw [← hW1] at hwB
              have HRX : Hid (RX b3 (o3 + j) (o3 + (j + 1)) wr.heap.size xa xb s0 s1 W1) := Lib.hid ⟨((HWK.out.bel.trans (hbB.mono HWK.out.bel.size)).cell (p := ⟨b3, o3 + j, none⟩) hb3).trans HX0.out, ((HWK.out.bel.trans (hbB.mono HWK.out.bel.size)).cell (p := ⟨b3, o3 + (j + 1), none⟩) hb3).trans HX1.out, by rw [Lib.cell_of_heap hwB]; rfl, by rw [Lib.cell_of_heap hwB]; rfl, Nat.lt_of_lt_of_le hb3 (Nat.le_trans HWK.out.bel.size hbB.size), (Array.getElem?_eq_some_iff.1 hwB).1⟩
              have hb2 : Below W1.drew.heap.size W1.drew (W1.drew.alloc (.cells #[.int .i64 xa, .int .i64 s0, .int .i64 xb, .int .i64 s1] 41)) := (Below.refl _ _).alloc (Nat.le_refl _) _
              have hb1 : Below wr.heap.size wr (W1.drew.alloc (.cells #[.int .i64 xa, .int .i64 s0, .int .i64 xb, .int .i64 s1] 41)) := (below_drewN hbB 1).trans (hb2.mono (Nat.le_trans hbB.size (Nat.le_refl _)))
              have HWS := Lib.hid (HWK.out.go hb1)
              have HOWN := Lib.hid HWS.out.o1
              have HSZ := Lib.hid HWS.out.bel.size
              have HAP : Hid (∀ g, vk.ownBlock = some g → g ≠ b3 ∧ g ≠ wr.heap.size) := Lib.hid (fun g hg => by have := HWK.out.o1.lt g hg; omega)
              have HGROW : Hid (∀ v6 w6, w6.ownsRow w3.heap.size 41 4 v6 (Fk.length + 1) (rcells Fk ++ [.int .i64 xa, .int .i64 s0, .int .i64 xb, .int .i64 s1]) → (W1.drew.alloc (.cells #[.int .i64 xa, .int .i64 s0, .int .i64 xb, .int .i64 s1] 41)).grownBy w6 vk.ownBlock → ShW v6 (.slice (some ⟨b5, o5, none⟩) R.length c5) (F ++ slabR xa xb (R.take (k + 1))) R w3 w6) := Lib.hid (fun v6 w6 h1 h2 => by
                rw [HFN.out]
                refine HWS.out.grow ?_ h2
                rw [rcells_app, List.length_append]; exact h1)
              clear hwB hbB hb2 hb1 HWS
              rw [hW1] at HRX HOWN HSZ HGROW
              clear hW1
              go_wp2_with fail
              generalize hgW : wr.alloc (.cells #[.int .i64 s0, .int .i64 s1] 63) = W1 at *
              clear hgW HWK
              generalize wr.heap.size = gB at *
              refine wp_region_held_drew (S := fun w' => w'.cell? ⟨b3, o3 + j, none⟩ = some (.int .i64 xa) ∧ w'.cell? ⟨b3, o3 + (j + 1), none⟩ = some (.int .i64 xb) ∧ w'.cell? ⟨gB, 0, none⟩ = some (.int .i64 s0) ∧ w'.cell? ⟨gB, 1, none⟩ = some (.int .i64 s1) ∧ b3 < w'.heap.size ∧ gB < w'.heap.size) (by kernel_rfl) ?_ (fun hHeld => ?_)
              · exact RX.drewN HRX.out 1
              refine wpAnyH_take (i := 0) (oi := { dst := some 59, op := Go.Op.move (Go.Operand.tmp 6), type := 22, pos := "offset.go:44", after := #[], guard := none }) (v := ?_) rfl (by kernel_rfl) (by kernel_rfl) (by kernel_rfl) (fun _ _ _ h => h) (Or.inl ⟨by rfl, ?_⟩) (by assumption) ?_
              rotate_left
              · (intro w hSw; (try dsimp only at hSw); go_simp); try with_reducible rfl
              try simp only [Act.put, List.setIfInBounds_toArray, List.set_cons_zero, List.set_cons_succ]
              refine wpAnyH_take (i := 1) (oi := { dst := some 60, op := Go.Op.move (Go.Operand.tmp 8), type := 35, pos := "offset.go:44", after := #[], guard := none }) (v := ?_) rfl (by kernel_rfl) (by kernel_rfl) (by kernel_rfl) (fun _ _ _ h => h) (Or.inl ⟨by rfl, ?_⟩) (by assumption) ?_
              rotate_left
              · (intro w hSw; (try dsimp only at hSw); go_simp); try with_reducible rfl
              try simp only [Act.put, List.setIfInBounds_toArray, List.set_cons_zero, List.set_cons_succ]
              refine wpAnyH_take (i := 2) (oi := { dst := some 61, op := Go.Op.move (Go.Operand.tmp 9), type := 3, pos := "offset.go:44", after := #[], guard := none }) (v := ?_) rfl (by kernel_rfl) (by kernel_rfl) (by kernel_rfl) (fun _ _ _ h => h) (Or.inl ⟨by rfl, ?_⟩) (by assumption) ?_
              rotate_left
              · (intro w hSw; (try dsimp only at hSw); go_simp); try with_reducible rfl
              try simp only [Act.put, List.setIfInBounds_toArray, List.set_cons_zero, List.set_cons_succ]
              refine wpAnyH_take (i := 3) (oi := { dst := some 62, op := Go.Op.binOp Go.BinOp.sub 3 (Go.Operand.tmp 61) (Go.Operand.const (Go.Value.int Go.IntKind.i64 1)) 3, type := 3, pos := "offset.go:44", after := #[{ on := 2, ground := Go.Ground.data }], guard := none }) (v := ?_) rfl (by kernel_rfl) (by kernel_rfl) (by kernel_rfl) (fun _ _ _ h => h) (Or.inl ⟨by rfl, ?_⟩) (by assumption) ?_
              rotate_left
              · (intro w hSw; (try dsimp only at hSw); go_simp); try with_reducible rfl
              try simp only [Act.put, List.setIfInBounds_toArray, List.set_cons_zero, List.set_cons_succ]
              refine wpAnyH_take (i := 4) (oi := { dst := some 63, op := Go.Op.indexAddr 35 (Go.Operand.tmp 60) (Go.Operand.tmp 62), type := 0, pos := "offset.go:44", after := #[{ on := 1, ground := Go.Ground.data }, { on := 3, ground := Go.Ground.data }], guard := none }) (v := ?_) rfl (by kernel_rfl) (by kernel_rfl) (by kernel_rfl) (fun _ _ _ h => h) (Or.inl ⟨by rfl, ?_⟩) (by assumption) ?_
              rotate_left
              · (intro w hSw; (try dsimp only at hSw); go_simp); try with_reducible rfl
              try simp only [Act.put, List.setIfInBounds_toArray, List.set_cons_zero, List.set_cons_succ]
              refine wpAnyH_take (i := 5) (oi := { dst := some 64, op := Go.Op.load 3 (Go.Operand.tmp 63), type := 3, pos := "offset.go:44", after := #[{ on := 4, ground := Go.Ground.data }], guard := none }) (v := ?_) rfl (by kernel_rfl) (by kernel_rfl) (by kernel_rfl) (fun _ _ _ h => h) (Or.inl ⟨by rfl, ?_⟩) (by assumption) ?_
              rotate_left
              · (intro w hSw; (try dsimp only at hSw); go_simp); try with_reducible rfl
              try simp only [Act.put, List.setIfInBounds_toArray, List.set_cons_zero, List.set_cons_succ]
              refine wpAnyH_take (i := 6) (oi := { dst := some 65, op := Go.Op.fieldAddr 63 (Go.Operand.tmp 12) 0, type := 0, pos := "offset.go:44", after := #[], guard := none }) (v := ?_) rfl (by kernel_rfl) (by kernel_rfl) (by kernel_rfl) (fun _ _ _ h => h) (Or.inl ⟨by rfl, ?_⟩) (by assumption) ?_
              rotate_left
              · (intro w hSw; (try dsimp only at hSw); go_simp); try with_reducible rfl
              try simp only [Act.put, List.setIfInBounds_toArray, List.set_cons_zero, List.set_cons_succ]
              refine wpAnyH_take (i := 7) (oi := { dst := some 66, op := Go.Op.load 3 (Go.Operand.tmp 65), type := 3, pos := "offset.go:44", after := #[{ on := 6, ground := Go.Ground.data }], guard := none }) (v := ?_) rfl (by kernel_rfl) (by kernel_rfl) (by kernel_rfl) (fun _ _ _ h => h) (Or.inl ⟨by rfl, ?_⟩) (by assumption) ?_
              rotate_left
              · (intro w hSw; (try dsimp only at hSw); go_simp); try with_reducible rfl
              try simp only [Act.put, List.setIfInBounds_toArray, List.set_cons_zero, List.set_cons_succ]
              refine wpAnyH_take (i := 8) (oi := { dst := some 67, op := Go.Op.move (Go.Operand.tmp 8), type := 35, pos := "offset.go:44", after := #[], guard := none }) (v := ?_) rfl (by kernel_rfl) (by kernel_rfl) (by kernel_rfl) (fun _ _ _ h => h) (Or.inl ⟨by rfl, ?_⟩) (by assumption) ?_
              rotate_left
              · (intro w hSw; (try dsimp only at hSw); go_simp); try with_reducible rfl
              try simp only [Act.put, List.setIfInBounds_toArray, List.set_cons_zero, List.set_cons_succ]
              refine wpAnyH_take (i := 9) (oi := { dst := some 68, op := Go.Op.move (Go.Operand.tmp 9), type := 3, pos := "offset.go:44", after := #[], guard := none }) (v := ?_) rfl (by kernel_rfl) (by kernel_rfl) (by kernel_rfl) (fun _ _ _ h => h) (Or.inl ⟨by rfl, ?_⟩) (by assumption) ?_
              rotate_left
              · (intro w hSw; (try dsimp only at hSw); go_simp); try with_reducible rfl
              try simp only [Act.put, List.setIfInBounds_toArray, List.set_cons_zero, List.set_cons_succ]
              refine wpAnyH_take (i := 10) (oi := { dst := some 69, op := Go.Op.indexAddr 35 (Go.Operand.tmp 67) (Go.Operand.tmp 68), type := 0, pos := "offset.go:44", after := #[{ on := 8, ground := Go.Ground.data }, { on := 9, ground := Go.Ground.data }], guard := none }) (v := ?_) rfl (by kernel_rfl) (by kernel_rfl) (by kernel_rfl) (fun _ _ _ h => h) (Or.inl ⟨by rfl, ?_⟩) (by assumption) ?_
              rotate_left
              · (intro w hSw; (try dsimp only at hSw); go_simp); try with_reducible rfl
              try simp only [Act.put, List.setIfInBounds_toArray, List.set_cons_zero, List.set_cons_succ]
              refine wpAnyH_take (i := 11) (oi := { dst := some 70, op := Go.Op.load 3 (Go.Operand.tmp 69), type := 3, pos := "offset.go:44", after := #[{ on := 10, ground := Go.Ground.data }], guard := none }) (v := ?_) rfl (by kernel_rfl) (by kernel_rfl) (by kernel_rfl) (fun _ _ _ h => h) (Or.inl ⟨by rfl, ?_⟩) (by assumption) ?_
              rotate_left
              · (intro w hSw; (try dsimp only at hSw); go_simp); try with_reducible rfl
              try simp only [Act.put, List.setIfInBounds_toArray, List.set_cons_zero, List.set_cons_succ]
              refine wpAnyH_take (i := 12) (oi := { dst := some 71, op := Go.Op.fieldAddr 63 (Go.Operand.tmp 12) 1, type := 0, pos := "offset.go:44", after := #[], guard := none }) (v := ?_) rfl (by kernel_rfl) (by kernel_rfl) (by kernel_rfl) (fun _ _ _ h => h) (Or.inl ⟨by rfl, ?_⟩) (by assumption) ?_
              rotate_left
              · (intro w hSw; (try dsimp only at hSw); go_simp); try with_reducible rfl
              try simp only [Act.put, List.setIfInBounds_toArray, List.set_cons_zero, List.set_cons_succ]
              refine wpAnyH_take (i := 13) (oi := { dst := some 72, op := Go.Op.load 3 (Go.Operand.tmp 71), type := 3, pos := "offset.go:44", after := #[{ on := 12, ground := Go.Ground.data }], guard := none }) (v := ?_) rfl (by kernel_rfl) (by kernel_rfl) (by kernel_rfl) (fun _ _ _ h => h) (Or.inl ⟨by rfl, ?_⟩) (by assumption) ?_
              rotate_left
              · (intro w hSw; (try dsimp only at hSw); go_simp); try with_reducible rfl
              try simp only [Act.put, List.setIfInBounds_toArray, List.set_cons_zero, List.set_cons_succ]
              refine wpAnyH_take (i := 14) (oi := { dst := some 73, op := Go.Op.build 41 #[(0, Go.Operand.tmp 64), (1, Go.Operand.tmp 66), (2, Go.Operand.tmp 70), (3, Go.Operand.tmp 72)], type := 41, pos := "offset.go:44", after := #[{ on := 5, ground := Go.Ground.data }, { on := 7, ground := Go.Ground.data }, { on := 11, ground := Go.Ground.data }, { on := 13, ground := Go.Ground.data }], guard := none }) (v := ?_) rfl (by kernel_rfl) (by kernel_rfl) (by kernel_rfl) (fun _ _ _ h => h) (Or.inl ⟨by rfl, ?_⟩) (by assumption) ?_
              rotate_left
              · (intro w hSw; (try dsimp only at hSw); go_simp); try with_reducible rfl
              try simp only [Act.put, List.setIfInBounds_toArray, List.set_cons_zero, List.set_cons_succ]
              refine wpAnyH_ready (rs := [15]) (by kernel_rfl) (by simp) ?_
              refine AllReadyH.cons (o := { dst := some 74, op := Go.Op.buildSlice 22 1 #[(0, Go.Operand.tmp 73)], type := 22, pos := "offset.go:44", after := #[{ on := 14, ground := Go.Ground.data }], guard := none }) rfl (fun Kx hKx => ?_) AllReadyH.nil
              go_simp
              refine hKx.out _ _ (RX.go ‹_› ((Below.refl _ _).alloc (Nat.le_refl _) _)) (fun hHeld2 => ?_)
              clear hKx Kx hHeld
              have hHeld := hHeld2; clear hHeld2
              try simp only [Act.put, List.setIfInBounds_toArray, List.set_cons_zero, List.set_cons_succ]
              refine wpAnyH_ready (rs := [16]) (by kernel_rfl) (by simp) ?_
              refine AllReadyH.cons (o := { dst := some 75, op := Go.Op.call { callee := Go.Callee.builtin Go.Builtin.append, args := #[Go.Operand.tmp 59, Go.Operand.tmp 74], argTypes := #[22, 22] }, type := 22, pos := "offset.go:44", after := #[{ on := 0, ground := Go.Ground.data }, { on := 15, ground := Go.Ground.data }], guard := none }) rfl (fun Kx hKx => ?_) AllReadyH.nil
              try simp only [Act.put, List.setIfInBounds_toArray, List.set_cons_zero, List.set_cons_succ]
              refine wp_append_own _ (Operand.tmp 59) (Operand.tmp 74) 22 rfl w3.heap.size 41 i0 (.agg #[.int .i64 0, .int .i64 0, .int .i64 0, .int .i64 0]) 4 32 Try.underlying22 hi9 hz0 hz1 hz2 rfl (by decide) vk Fk.length (rcells Fk) rfl HOWN.out ⟨W1.drew.heap.size, 0, none⟩ 1 1 [.int .i64 xa, .int .i64 s0, .int .i64 xb, .int .i64 s1] rfl rfl ?d1 ?d2 ?d3 ?d4 ?d5 ?_
              case d1 => exact World.news_of_block (cs := #[.int .i64 xa, .int .i64 s0, .int .i64 xb, .int .i64 s1]) (t := 41) (fr := (0, 0)) (heap_alloc_new W1.drew _)
              case d2 => intro u hu; simp only [List.mem_cons, List.not_mem_nil, or_false] at hu; rcases hu with rfl | rfl | rfl | rfl <;> rfl
              case d3 => unfold maxLen; omega
              case d4 => omega
              case d5 => exact HSZ.out
              intro v6 w6 hown6 hgr6 _
              have HW6 := Lib.hid (HGROW.out v6 w6 hown6 hgr6)
              refine hKx.out _ _ (RX.grow ‹_› hgr6 HAP.out) (fun hHeld2 => ?_)
              clear hKx Kx hHeld hown6 hgr6
              have hHeld := hHeld2; clear hHeld2
              try simp only [Act.put, List.setIfInBounds_toArray, List.set_cons_zero, List.set_cons_succ]
              refine wpAnyH_take (i := 17) (oi := { dst := some 6, op := Go.Op.assign (Go.Operand.tmp 75), type := 22, pos := "offset.go:44", after := #[{ on := 16, ground := Go.Ground.data }, { on := 16, ground := Go.Ground.chain }, { on := 0, ground := Go.Ground.phase }, { on := 1, ground := Go.Ground.phase }, { on := 2, ground := Go.Ground.phase }, { on := 3, ground := Go.Ground.phase }, { on := 4, ground := Go.Ground.phase }, { on := 5, ground := Go.Ground.phase }, { on := 6, ground := Go.Ground.phase }, { on := 7, ground := Go.Ground.phase }, { on := 8, ground := Go.Ground.phase }, { on := 9, ground := Go.Ground.phase }, { on := 10, ground := Go.Ground.phase }, { on := 11, ground := Go.Ground.phase }, { on := 12, ground := Go.Ground.phase }, { on := 13, ground := Go.Ground.phase }, { on := 14, ground := Go.Ground.phase }, { on := 15, ground := Go.Ground.phase }, { on := 16, ground := Go.Ground.phase }], guard := none }) (v := ?_) rfl (by kernel_rfl) (by kernel_rfl) (by kernel_rfl) (fun _ _ _ h => h) (Or.inl ⟨by rfl, ?_⟩) (by assumption) ?_
              rotate_left
              · (intro w hSw; (try dsimp only at hSw); go_simp); try with_reducible rfl
              try simp only [Act.put, List.setIfInBounds_toArray, List.set_cons_zero, List.set_cons_succ]
              refine wpAnyH_done (by kernel_rfl) ?_ _
              go_wp2_with fail
              go_roundw
              case rel => exact ⟨k + 1, v6, by omega, by go_num, rfl, HW6⟩
              case measure => simp [intOf]; omega
            · obtain rfl : k = R.length := by omega
              rw [List.take_length, ← HNEW.out] at HWK
              have q8 : IntKind.i64.wrap ((j : Int) + 1 + 1) = (j : Int) + 1 + 1 := IntWalk.i64_in _ (by omega)
              go_wp2_with fail
              go_roundw
              case rel => exact ⟨j + 1, _, R, _, _, hlt, by go_num, rfl, rfl, HES2, HWK, HNX⟩
              case measure => simp [intOf]; omega
      · obtain rfl : j = X.length - 1 := by omega
        have FIN : Hid (flatS T = eroF (flatS S) d) := Lib.hid (XsOf.done HSS.out HXS.out HDD.out (by omega) HE.out)
        obtain ⟨F, hF⟩ : ∃ F, F = flatS T := ⟨_, rfl⟩
        rw [← hF] at HW FIN HL
        clear hF
        obtain ⟨A6, c6, rfl, _⟩ := own_rects HW.out.o1
        have j2 : ¬ ((X.length - 1 : Nat) : Int) + 1 < (X.length : Int) := by omega
        have HRS : Hid (ResIs (capR (eroF (flatS S) d)) w (if F.length ≤ 200 then .returned (.tuple #[.slice A6 F.length c6, .int .i64 0]) else .returned (.tuple #[.slice none 0 0, .int .i64 6])) wr) := Lib.hid (by
          rw [← FIN.out]
          unfold capR
          by_cases h : F.length ≤ 200
          · rw [if_pos h, if_pos h]; exact ⟨_, rfl, own_base HW.out.o1 HB3.out.size, HB3.out.trans (HW.out.bel.mono HB3.out.size)⟩
          · rw [if_neg h, if_neg h]; exact ⟨_, rfl, World.ownsRow_nil _ _ _ _, HB3.out.trans (HW.out.bel.mono HB3.out.size)⟩)
        clear HW HE
        by_cases h200 : F.length ≤ 200
        · have s1 : ¬ (200 : Int) < (F.length : Int) := by omega
          rw [if_pos h200] at HRS
          go_wp2_with fail
          go_ret2
          exact HRS.out
        · have s1 : (200 : Int) < (F.length : Int) := by omega
          rw [if_neg h200] at HRS
          go_wp2_with fail
          go_ret2
          exact HRS.out
  · have e : S = [] := HXS.out.none HSS.out (by omega)
    subst e
    have e2 : capR (eroF (flatS []) d) = ([], 0) := by
      have : eroF (flatS []) d = [] := by
        have h := eroF_is (l := flatS []) (d := d) (fun r hr => by cases hr) HDD.out
        rw [empty_iff h]
        intro x y k
        obtain ⟨r, hr, _⟩ := k x y (by have := HDD.out; omega) (by have := HDD.out; omega) (by have := HDD.out; omega) (by have := HDD.out; omega)
        cases hr
      rw [this]; rfl
    rw [e2]
    have hX0 : X.length = 0 := by omega
    rw [hX0]
    clear e2
    go_wp2_with fail
    go_loopw [6, 7, 9, 10] (fun vs _ i _ wr => i = .int .i64 1 ∧ vs = .slice none 0 0 ∧ wr = w3) (fun _ _ _ _ _ => 0)
    case atStart => exact ⟨rfl, rfl, rfl⟩
    case round =>
      obtain ⟨rfl, rfl, rfl⟩ := hrel
      go_wp2_with fail
      go_ret2
      exact ⟨_, rfl, World.ownsRow_nil _ _ _ _, HB3.out⟩
theorem yshrink_any (A : Option Addr) (cap : Nat) (l : List Rc) (d : Int) (w : World) (hl : RIn w A cap l) : Calls Try.prog 19 #[.slice A l.length cap, .int .i64 d] w (ResIs (shrinkM l d) w) := by
  by_cases h : RegP l ∧ DistP d
  · exact yshrink_yes A cap l d w hl h.1 h.2
  · exact yshrink_no A cap l d w hl h
end Go.Proofs.Ytcnojedijimheaa
