/-
  Contracts of the reference of layer 10, 8: First.
-/
import Derived.Test.YtkjblmfmaenllaaGreatWd
import Derived.Test.YtkjblmfmaenllaaGreatR2
import Derived.Test.YtkjblmfmaenllaaGreatWk
import Derived.Test.YtkjblmfmaenllaaGreatWl
set_option linter.unusedVariables false
set_option maxRecDepth 100000
namespace Go.Proofs.YtkjblmfmaenllaaGreat
open Go.RowKit

theorem comb_sub : CombOk 2 andnot := vcombine_sub
def F9 (sb o rb : Nat) (u : Sl) (Aj : Option Addr) (cj : Nat) (r : Rc) (W w' : World) : Prop := w'.cell? ⟨sb, o, none⟩ = some (.int .i64 u.z0) ∧ w'.cell? ⟨sb, o + 1, none⟩ = some (.int .i64 u.z1) ∧ w'.cell? ⟨sb, o + 2, none⟩ = some (.slice Aj u.ar.length cj) ∧ w'.cell? ⟨rb, 0, none⟩ = some (.int .i64 r.X0) ∧ w'.cell? ⟨rb, 1, none⟩ = some (.int .i64 r.Y0) ∧ w'.cell? ⟨rb, 2, none⟩ = some (.int .i64 r.X1) ∧ w'.cell? ⟨rb, 3, none⟩ = some (.int .i64 r.Y1) ∧ sb < w'.heap.size ∧ rb < w'.heap.size ∧ Hid (Below W.heap.size W w')
theorem F9.go {sb o rb : Nat} {u : Sl} {Aj : Option Addr} {cj : Nat} {r : Rc} {W w w' : World} (h : F9 sb o rb u Aj cj r W w) (hb : Below w.heap.size w w') : F9 sb o rb u Aj cj r W w' := by
  obtain ⟨s0, s1, s2, c0, c1, c2, c3, l1, l2, h5⟩ := h
  have wc := fun o => hb.cell (p := ⟨sb, o, none⟩) l1
  have wd := fun o => hb.cell (p := ⟨rb, o, none⟩) l2
  exact ⟨(wc _).trans s0, (wc _).trans s1, (wc _).trans s2, (wd _).trans c0, (wd _).trans c1, (wd _).trans c2, (wd _).trans c3, Nat.lt_of_lt_of_le l1 hb.size, Nat.lt_of_lt_of_le l2 hb.size, Lib.hid (h5.out.trans (hb.mono h5.out.size))⟩
theorem F9.drewN {sb o rb : Nat} {u : Sl} {Aj : Option Addr} {cj : Nat} {r : Rc} {W w : World} (h : F9 sb o rb u Aj cj r W w) (n : Nat) : F9 sb o rb u Aj cj r W (w.drewN n) := h.go (below_drewN (Below.refl _ _) n)
theorem F9.bel {sb o rb : Nat} {u : Sl} {Aj : Option Addr} {cj : Nat} {r : Rc} {W w : World} (h : F9 sb o rb u Aj cj r W w) : Below W.heap.size W w := h.2.2.2.2.2.2.2.2.2.out
set_option maxHeartbeats 40000000 in
theorem nFirst_any (r : Rc) (A : Option Addr) (cap : Nat) (l : List Pl) (A2 : Option Addr) (c2 : Nat) (S : List Sl) (w : World) (hl : PlIn w A cap l) (hs : SIn w A2 c2 S) :
    Calls Tryz.prog 15 #[.agg #[.int .i64 r.X0, .int .i64 r.Y0, .int .i64 r.X1, .int .i64 r.Y1], .slice A l.length cap, .slice A2 S.length c2] w (FIs r l S w) := by
  obtain ⟨W0, hW0⟩ : ∃ W0, W0 = w.alloc (.cells #[.int .i64 r.X0, .int .i64 r.Y0, .int .i64 r.X1, .int .i64 r.Y1] 33) := ⟨_, rfl⟩
  obtain ⟨W, hW⟩ : ∃ W, W = W0.alloc (.cells #[.int .i64 0, .int .i64 0, .int .i64 0] 37) := ⟨_, rfl⟩
  have b0 : Below w.heap.size w W0 := by rw [hW0]; exact (Below.refl _ _).alloc (Nat.le_refl _) _
  have bW : Below W0.heap.size W0 W := by rw [hW]; exact (Below.refl _ _).alloc (Nat.le_refl _) _
  have e0 : W0.heap.size = w.heap.size + 1 := by rw [hW0]; simp
  have HWW := Lib.hid (b0.trans (bW.mono b0.size))
  have k0 : RcAt W0 w.heap.size r := by rw [hW0]; exact RcAt.new w r _ rfl
  have KR := Lib.hid (k0.below bW k0.lt)
  have HP3 : Hid (P3At W (w.heap.size + 1) z3) := Lib.hid (by rw [hW, ← e0]; exact P3At.new W0 z3 _ rfl)
  have HG6 : Hid (W.heap.size = w.heap.size + 1 + 1) := Lib.hid (by rw [hW]; simp [e0])
  have HPL := Lib.hid (hl.below HWW.out)
  have HSL := Lib.hid (hs.below HWW.out)
  have HAR := Lib.hid (fun w' (h : Below W.heap.size W w') => nvalid_any r A cap l w' (HPL.out.below h))
  have x0 := KR.out.cell0; have x1 := KR.out.cell1; have x2 := KR.out.cell2; have x3 := KR.out.cell3; have xl := KR.out.lt
  clear b0 bW e0 k0 hl hs
  by_cases ca : ArgOk r l
  · rw [decide_eq_true ca] at HAR
    have HA := Lib.hid ca
    by_cases cs : SolP S
    · have HBR := Lib.hid (fun w' (h : Below W.heap.size W w') => dright_yes (HSL.out.below h) cs)
      have HS := Lib.hid cs
      have HFI : Hid (∀ x, FstP r l S x → FC r l S x) := Lib.hid (fun x h => ⟨fun _ => h, fun hn => absurd ⟨ca, cs⟩ hn⟩)
      clear ca cs
      go_enter Tryz.func15, Tryz.ntmps15
      go_wp2_with fail
      rw [← hW0, ← hW]
      clear hW0 hW
      refine (HAR.out _ (Below.refl _ _)).mono ?_
      rintro e w1 ⟨rfl, hb⟩
      have B1 := Lib.hid hb; clear hb HAR x0 x1 x2 x3 xl
      go_wp2_with fail
      refine (HBR.out _ B1.out).mono ?_
      rintro e w2 ⟨rfl, hb⟩
      have B2 := Lib.hid (B1.out.trans (hb.mono B1.out.size)); clear hb HBR B1
      go_wp2_with fail
      go_loopw [8] (fun i wr => ∃ (k : Nat), k ≤ S.length ∧ i = .int .i64 k ∧ Hid (Below W.heap.size W wr) ∧ Hid (Dn10 r l S k)) (fun i _ => S.length - (intOf i).toNat)
      case atStart => exact ⟨0, Nat.zero_le _, rfl, B2, Lib.hid (Dn10.zero r l S)⟩
      case round =>
        clear B2
        obtain ⟨k, hk, rfl, HB, HD⟩ := hrel
        by_cases hlt : k < S.length
        · obtain ⟨b1, o1, hA2, hb1, hv1⟩ := slab_at HSL.out.row (by omega)
          subst hA2
          obtain ⟨y0, y1, Aj, cj, y2, hrj⟩ := hv1 k hlt
          have hok := HS.out.form.each _ (List.getElem_mem hlt)
          have hrg : RegP S[k].ar := ⟨hok.form, HS.out.rects _ (List.getElem_mem hlt)⟩
          have HQ0 : Hid (Dq10 r l S k S[k].z0) := Lib.hid (Dq10.start HD.out hlt)
          have HQN : Hid (∀ zz, Dq10 r l S k zz → 0 ≤ zz → zz < 4096 → ¬ BadL r l zz S[k].ar → Dq10 r l S k (zz + 1)) := Lib.hid (fun zz h h0 h1 hn => h.next HA.out.2 hlt (form_ok hok.form) h0 h1 hn)
          have HQD : Hid (∀ zz, Dq10 r l S k zz → S[k].z1 ≤ zz → Dn10 r l S (k + 1)) := Lib.hid (fun zz h hz => h.done hlt hz)
          have HQF : Hid (∀ zz x y, Dq10 r l S k zz → S[k].z0 ≤ zz → zz < S[k].z1 → OutC S[k].ar (roomS r l (zz + 1)) x y → FC r l S (⟨x, y, zz⟩, true)) := Lib.hid (fun zz x y h h0 h1 h2 => HFI.out _ (h.found HA.out.1 HA.out.2 HS.out.form hlt h0 h1 h2))
          obtain ⟨u, hu⟩ : ∃ u, u = S[k] := ⟨_, rfl⟩
          rw [← hu] at y0 y1 y2 hok hrg hrj HQ0 HQN HQD HQF
          clear hu hv1 HFI
          have wc := fun o => HB.out.cell (p := ⟨b1, o, none⟩) hb1
          have n0 : (0 : Int) ≤ (k : Int) := by omega
          have n1 : (k : Int) < (S.length : Int) := by omega
          have hlen := HSL.out.len
          have HOK := Lib.hid hok; have HRG := Lib.hid hrg; have HRJ := Lib.hid hrj
          have kr := KR.out.below HB.out KR.out.lt
          have E3 : Hid (F9 b1 (o1 + k * 3) w.heap.size u Aj cj r W wr) := Lib.hid ⟨(wc _).trans y0, (wc _).trans y1, (wc _).trans y2, kr.cell0, kr.cell1, kr.cell2, kr.cell3, Nat.lt_of_lt_of_le hb1 HB.out.size, kr.lt, HB⟩
          clear wc kr y0 y1 y2 hb1 hok hrg hrj HB HD
          have e0 := E3.out.1; have el := E3.out.2.2.2.2.2.2.2.1
          go_wp2_with fail
          clear e0 el
          go_loopw [9] (fun i wr => ∃ (zz : Int), u.z0 ≤ zz ∧ zz ≤ u.z1 ∧ i = .int .i64 zz ∧ Hid (F9 b1 (o1 + k * 3) w.heap.size u Aj cj r W wr) ∧ Hid (Dq10 r l S k zz)) (fun i _ => (u.z1 - intOf i).toNat)
          case atStart => exact ⟨u.z0, Int.le_refl _, by have := HOK.out.h.2.1; omega, rfl, E3, HQ0⟩
          case round =>
            clear E3 HQ0
            obtain ⟨zz, hz0, hz1, rfl, E3, HD⟩ := hrel
            have zin : 0 ≤ zz ∧ u.z1 ≤ 4096 := by have h1 := HOK.out.h.1; have h2 := HOK.out.h.2.2; omega
            have e1 := E3.out.2.1; have el := E3.out.2.2.2.2.2.2.2.1
            by_cases hz : zz < u.z1
            · have HBD := Lib.hid (fun w' (h : Below W.heap.size W w') => nbad_any r A cap l Aj cj u.ar zz w' (HPL.out.below h) HA.out (HRJ.out.below h) (form_ok HOK.out.form) (by omega))
              by_cases cb : BadL r l zz u.ar
              · rw [decide_eq_true cb] at HBD
                have hne := bad_rest HA.out.1 HA.out.2 (form_ok HOK.out.form) (by omega : 0 ≤ zz) (by omega) cb
                have hlr := room_len r l (zz + 1)
                have HKR : Hid (∀ w', Below W.heap.size W w' → Calls Tryz.prog 66 #[.agg #[.int .i64 r.X0, .int .i64 r.Y0, .int .i64 r.X1, .int .i64 r.Y1], .slice A l.length cap, .int .i64 (zz + 1)] w' fun e w'' => ∃ A7, e = .returned (.slice A7 (roomS r l (zz + 1)).length (roomS r l (zz + 1)).length) ∧ RIn w'' A7 (roomS r l (zz + 1)).length (roomS r l (zz + 1)) ∧ Below w'.heap.size w' w'') := Lib.hid (fun w' h => (nroom_any r A cap l (zz + 1) w' (HPL.out.below h) HA.out (by omega) (by omega)).mono fun e w'' hh => by
                  obtain ⟨A7, rfl, hr, hb⟩ := hh
                  exact ⟨A7, rfl, ⟨hr, by omega, Nat.le_refl _, by omega⟩, hb⟩)
                have HFM : Hid (∀ w' A7, Below W.heap.size W w' → RIn w' A7 (roomS r l (zz + 1)).length (roomS r l (zz + 1)) → Calls Tryz.prog 58 #[.slice Aj u.ar.length cj, .slice A7 (roomS r l (zz + 1)).length (roomS r l (zz + 1)).length, .int .i64 2] w' fun e w'' => ∃ A8 c8, e = .returned (.slice A8 (formO andnot u.ar (roomS r l (zz + 1))).length c8) ∧ RRow w'' A8 (formO andnot u.ar (roomS r l (zz + 1))) ∧ Below w'.heap.size w' w'') := Lib.hid (fun w' A7 h h7 => (vForm_any 2 andnot rfl comb_sub Aj cj A7 _ u.ar (roomS r l (zz + 1)) w' (HRJ.out.below h).row h7.row (by have := HRG.out.2; omega) (by omega) (form_ok HOK.out.form) (room_ok r l (zz + 1))).mono fun e w'' hh => by
                  obtain ⟨v, rfl, k1, k2⟩ := hh
                  obtain ⟨A8, c8, rfl, k3, _⟩ := own_rects k1
                  exact ⟨A8, c8, rfl, k3, k2⟩)
                have HYES : Hid (∀ q t, formO andnot u.ar (roomS r l (zz + 1)) = q :: t → FC r l S (⟨q.X0, q.Y0, zz⟩, true)) := Lib.hid (fun q t h => HQF.out zz _ _ HD.out hz0 hz (rest_first (form_ok HOK.out.form) (room_ok r l (zz + 1)) h))
                have q1 : IntKind.i64.wrap (zz + 1) = zz + 1 := IntWalk.i64_in _ (by omega)
                obtain ⟨zp, hzp⟩ : ∃ zp, zz + 1 = zp := ⟨_, rfl⟩
                rw [hzp] at HKR HFM HYES hne
                replace q1 := q1.trans hzp
                generalize formO andnot u.ar (roomS r l zp) = G at *
                generalize roomS r l zp = F at *
                obtain ⟨q, t, rfl⟩ : ∃ q t, G = q :: t := by cases G with | nil => exact absurd rfl hne | cons q t => exact ⟨q, t, rfl⟩
                have HY := Lib.hid (HYES.out q t rfl)
                obtain ⟨nG, hnG⟩ : ∃ n, (q :: t).length = n := ⟨_, rfl⟩
                have hnG0 : 0 < nG := by rw [← hnG]; simp
                rw [hnG] at HFM
                generalize F.length = nF at *
                clear hzp hne hlr cb HYES HQN HQD HQF HRG HRJ HD HOK
                go_wp2_with fail
                clear e1 el
                go_region_held3 (fun w' => w'.cell? ⟨b1, o1 + k * 3, none⟩ = some (.int .i64 u.z0) ∧ w'.cell? ⟨b1, o1 + k * 3 + 1, none⟩ = some (.int .i64 u.z1) ∧ w'.cell? ⟨b1, o1 + k * 3 + 2, none⟩ = some (.slice Aj u.ar.length cj) ∧ w'.cell? ⟨w.heap.size, 0, none⟩ = some (.int .i64 r.X0) ∧ w'.cell? ⟨w.heap.size, 1, none⟩ = some (.int .i64 r.Y0) ∧ w'.cell? ⟨w.heap.size, 2, none⟩ = some (.int .i64 r.X1) ∧ w'.cell? ⟨w.heap.size, 3, none⟩ = some (.int .i64 r.Y1) ∧ b1 < w'.heap.size ∧ w.heap.size < w'.heap.size ∧ Hid (Below W.heap.size W w'))
                  (first | exact E3.out | exact F9.drewN E3.out 1 | exact F9.go ‹_› ‹_› | assumption)
                  (first | (go_at_call 65; (with_reducible refine Calls.mono (HBD.out _ ?_) ?_); (exact F9.bel (F9.drewN E3.out 1)); rintro e w4 ⟨rfl, hb⟩) | fail)
                have E4 : Hid (F9 b1 (o1 + k * 3) w.heap.size u Aj cj r W w4) := Lib.hid (by assumption)
                clear E3 HBD
                go_wp2_with fail
                go_region_held3 (fun w' => w'.cell? ⟨b1, o1 + k * 3, none⟩ = some (.int .i64 u.z0) ∧ w'.cell? ⟨b1, o1 + k * 3 + 1, none⟩ = some (.int .i64 u.z1) ∧ w'.cell? ⟨b1, o1 + k * 3 + 2, none⟩ = some (.slice Aj u.ar.length cj) ∧ w'.cell? ⟨w.heap.size, 0, none⟩ = some (.int .i64 r.X0) ∧ w'.cell? ⟨w.heap.size, 1, none⟩ = some (.int .i64 r.Y0) ∧ w'.cell? ⟨w.heap.size, 2, none⟩ = some (.int .i64 r.X1) ∧ w'.cell? ⟨w.heap.size, 3, none⟩ = some (.int .i64 r.Y1) ∧ b1 < w'.heap.size ∧ w.heap.size < w'.heap.size ∧ Hid (Below W.heap.size W w'))
                  (first | exact E4.out | exact F9.drewN E4.out 1 | exact F9.go ‹_› ‹_› | assumption)
                  (first | (go_at_call 66; (with_reducible refine Calls.mono (HKR.out _ ?_) ?_); (exact F9.bel (F9.drewN E4.out 1)); rintro e w5 ⟨A7, rfl, h7, hb5⟩) | (go_at_call 58; (with_reducible refine Calls.mono (HFM.out _ _ ?_ h7) ?_); (exact F9.bel (o := o1 + k * 3) (by assumption)); rintro e w6 ⟨A8, c8, rfl, h8, hb6⟩) | fail)
                have E6 : Hid (F9 b1 (o1 + k * 3) w.heap.size u Aj cj r W w6) := Lib.hid (by assumption)
                obtain ⟨b8, o8, rfl, hb8, hv8⟩ := h8 (by simp)
                obtain ⟨x0, x1, x2, x3⟩ := hv8 0 (by simp)
                clear E4 HKR HFM hv8
                have HB9 := F9.bel E6.out
                have HP9 := Lib.hid (HP3.out.below HB9)
                have g0 := HP9.out.c0; have g1 := HP9.out.c1; have g2 := HP9.out.c2; have gl := HP9.out.lt
                have h0 := HP9.out.froz 0; have h1 := HP9.out.froz 1; have h2 := HP9.out.froz 2
                have z0 : w6.cell? ⟨b8, o8, none⟩ = some (.int .i64 q.X0) := by simpa using x0
                have z1 : w6.cell? ⟨b8, o8 + 1, none⟩ = some (.int .i64 q.Y0) := by simpa using x1
                have m0 : (0 : Int) < (nG : Int) := by omega
                have m1 : decide ((0 : Int) < (nG : Int)) = true := decide_eq_true m0
                clear x0 x1 x2 x3 E6
                go_wp2_with fail
                go_region
                go_wp2_with fail
                exact bodyPost_ret (v := .tuple #[.agg #[.int .i64 q.X0, .int .i64 q.Y0, .int .i64 zz], .bool true]) (by simp [results, Tryz.results15, go_sem, *]) rfl ⟨(⟨q.X0, q.Y0, zz⟩, true), rfl, HY.out, by have hk := HWW.out.trans (HB9.mono HWW.out.size); have hg := HG6.out; (repeat' first | exact Below.refl _ _ | assumption | (apply below_drewN) | (refine Below.setCell ?_ (by (try simp); (try omega)) _) | (refine Below.alloc ?_ (by (try simp); (try omega)) _) | (refine Below.trans ?_ (Below.mono (Hid.out (by assumption)) (by (try simp); (try omega)))))⟩
              · rw [decide_eq_false cb] at HBD
                have HN := Lib.hid (HQN.out zz HD.out (by omega) (by omega) cb)
                clear cb HQN HQD HQF HRJ HRG
                go_wp2_with fail
                clear e1 el
                go_region_held3 (fun w' => w'.cell? ⟨b1, o1 + k * 3, none⟩ = some (.int .i64 u.z0) ∧ w'.cell? ⟨b1, o1 + k * 3 + 1, none⟩ = some (.int .i64 u.z1) ∧ w'.cell? ⟨b1, o1 + k * 3 + 2, none⟩ = some (.slice Aj u.ar.length cj) ∧ w'.cell? ⟨w.heap.size, 0, none⟩ = some (.int .i64 r.X0) ∧ w'.cell? ⟨w.heap.size, 1, none⟩ = some (.int .i64 r.Y0) ∧ w'.cell? ⟨w.heap.size, 2, none⟩ = some (.int .i64 r.X1) ∧ w'.cell? ⟨w.heap.size, 3, none⟩ = some (.int .i64 r.Y1) ∧ b1 < w'.heap.size ∧ w.heap.size < w'.heap.size ∧ Hid (Below W.heap.size W w'))
                  (first | exact E3.out | exact F9.drewN E3.out 1 | exact F9.go ‹_› ‹_› | assumption)
                  (first | (go_at_call 65; (with_reducible refine Calls.mono (HBD.out _ ?_) ?_); (exact F9.bel (F9.drewN E3.out 1)); rintro e w4 ⟨rfl, hb⟩) | fail)
                have E4 : Hid (F9 b1 (o1 + k * 3) w.heap.size u Aj cj r W w4) := Lib.hid (by assumption)
                clear E3 HBD
                go_wp2_with fail
                go_roundw
                case rel => exact ⟨zz + 1, by omega, by omega, by go_num, E4, HN⟩
                case measure => simp [intOf]; omega
            · have HN := Lib.hid (HQD.out zz HD.out (by omega))
              go_wp2_with fail
              go_roundw
              case rel => exact ⟨k + 1, by omega, by go_num, Lib.hid (F9.bel E3.out), HN⟩
              case measure => simp [intOf]; omega
        · obtain rfl : k = S.length := by omega
          have HY := Lib.hid (HFI.out _ (HD.out.all HS.out.form rfl))
          have HP9 := Lib.hid (HP3.out.below HB.out)
          have g0 := HP9.out.c0; have g1 := HP9.out.c1; have g2 := HP9.out.c2; have gl := HP9.out.lt
          have h0 := HP9.out.froz 0; have h1 := HP9.out.froz 1; have h2 := HP9.out.froz 2
          go_wp2_with fail
          exact bodyPost_ret (v := .tuple #[.agg #[.int .i64 0, .int .i64 0, .int .i64 0], .bool false]) (by simp [results, Tryz.results15, go_sem, *]) rfl ⟨(z3, false), rfl, HY.out, by have hk := HWW.out.trans (HB.out.mono HWW.out.size); have hg := HG6.out; (repeat' first | exact Below.refl _ _ | assumption | (apply below_drewN) | (refine Below.setCell ?_ (by (try simp); (try omega)) _) | (refine Below.alloc ?_ (by (try simp); (try omega)) _) | (refine Below.trans ?_ (Below.mono (Hid.out (by assumption)) (by (try simp); (try omega)))))⟩
    · have HBR := Lib.hid (fun w' (h : Below W.heap.size W w') => dright_no (HSL.out.below h) cs)
      have HFI : Hid (FC r l S (z3, false)) := Lib.hid ⟨fun h => absurd h.2 cs, fun _ => rfl⟩
      clear ca cs HA
      go_enter Tryz.func15, Tryz.ntmps15
      go_wp2_with fail
      rw [← hW0, ← hW]
      clear hW0 hW
      refine (HAR.out _ (Below.refl _ _)).mono ?_
      rintro e w1 ⟨rfl, hb⟩
      have B1 := Lib.hid hb; clear hb HAR x0 x1 x2 x3 xl
      go_wp2_with fail
      refine (HBR.out _ B1.out).mono ?_
      rintro e w2 ⟨rfl, hb⟩
      have B2 := Lib.hid (B1.out.trans (hb.mono B1.out.size)); clear hb HBR B1
      have HP9 := Lib.hid (HP3.out.below B2.out)
      have g0 := HP9.out.c0; have g1 := HP9.out.c1; have g2 := HP9.out.c2; have gl := HP9.out.lt
      have h0 := HP9.out.froz 0; have h1 := HP9.out.froz 1; have h2 := HP9.out.froz 2
      go_wp2_with fail
      exact bodyPost_ret (v := .tuple #[.agg #[.int .i64 0, .int .i64 0, .int .i64 0], .bool false]) (by simp [results, Tryz.results15, go_sem, *]) rfl ⟨(z3, false), rfl, HFI.out, by have hk := HWW.out.trans (B2.out.mono HWW.out.size); have hg := HG6.out; (repeat' first | exact Below.refl _ _ | assumption | (apply below_drewN) | (refine Below.setCell ?_ (by (try simp); (try omega)) _) | (refine Below.alloc ?_ (by (try simp); (try omega)) _) | (refine Below.trans ?_ (Below.mono (Hid.out (by assumption)) (by (try simp); (try omega)))))⟩
  · rw [decide_eq_false ca] at HAR
    have HFI : Hid (FC r l S (z3, false)) := Lib.hid ⟨fun h => absurd h.1 ca, fun _ => rfl⟩
    clear ca
    go_enter Tryz.func15, Tryz.ntmps15
    go_wp2_with fail
    rw [← hW0, ← hW]
    clear hW0 hW
    refine (HAR.out _ (Below.refl _ _)).mono ?_
    rintro e w1 ⟨rfl, hb⟩
    have B2 := Lib.hid hb; clear hb HAR x0 x1 x2 x3 xl
    have HP9 := Lib.hid (HP3.out.below B2.out)
    have g0 := HP9.out.c0; have g1 := HP9.out.c1; have g2 := HP9.out.c2; have gl := HP9.out.lt
    have h0 := HP9.out.froz 0; have h1 := HP9.out.froz 1; have h2 := HP9.out.froz 2
    go_wp2_with fail
    exact bodyPost_ret (v := .tuple #[.agg #[.int .i64 0, .int .i64 0, .int .i64 0], .bool false]) (by simp [results, Tryz.results15, go_sem, *]) rfl ⟨(z3, false), rfl, HFI.out, by have hk := HWW.out.trans (B2.out.mono HWW.out.size); have hg := HG6.out; (repeat' first | exact Below.refl _ _ | assumption | (apply below_drewN) | (refine Below.setCell ?_ (by (try simp); (try omega)) _) | (refine Below.alloc ?_ (by (try simp); (try omega)) _) | (refine Below.trans ?_ (Below.mono (Hid.out (by assumption)) (by (try simp); (try omega)))))⟩
end Go.Proofs.YtkjblmfmaenllaaGreat
