/-
  Contracts of the program's layer 6 (6): column.
-/
import Derived.Test.YtngddecpfhlilaaGreatC07
import Derived.IntWalk
import Derived.Shelf.Abstract
import Derived.Deep.DeepCutAuto
set_option linter.unusedVariables false
set_option maxRecDepth 100000
namespace Go.Proofs.YtngddecpfhlilaaGreat
open Go.RowKit
def KeepOk (K : Nat) (kp : List Int → Bool) (m : Nat) : Prop := ∀ (w : World) (A : Option Addr) (cap : Nat) (c : List Int), IRow w A c → c.length = m → Calls Tryz.prog K #[.slice A m cap] w (BlIs (kp c) w)
def ColRes (Kf : Int → Bool) (a b : Int) (nb : Nat) (w : World) (e : Ending) (w' : World) : Prop := ∃ v T, e = .returned v ∧ ColOk T ∧ (∀ y, inT T y = Kf y) ∧ w'.ownsRow w.heap.size 68 4 v (rectsOf a b T).length (rcells (rectsOf a b T)) ∧ Below nb w w'
def Mid (p : Nat) (y : Int) (nb m cn : Nat) (c : List Int) (v : Value) (l : List Rc) (w wr : World) : Prop := wr.cell? ⟨p, 2, none⟩ = some (.int .i64 y) ∧ p < wr.heap.size ∧ CW nb m cn c v l w wr
theorem Mid.go {p : Nat} {y : Int} {nb m cn : Nat} {c : List Int} {v : Value} {l : List Rc} {w wr w' : World} (h : Mid p y nb m cn c v l w wr) (hb : Below wr.heap.size wr w') : Mid p y nb m cn c v l w w' :=
 ⟨(hb.cell (p := ⟨p, 2, none⟩) h.2.1).trans h.1, Nat.lt_of_lt_of_le h.2.1 hb.size, h.2.2.go hb⟩
theorem Mid.drewN {p : Nat} {y : Int} {nb m cn : Nat} {c : List Int} {v : Value} {l : List Rc} {w wr : World} (h : Mid p y nb m cn c v l w wr) (n : Nat) : Mid p y nb m cn c v l w (wr.drewN n) := h.go (below_drewN (Below.refl _ _) n)
structure EdsOk (E : List Ed) (m : Nat) : Prop where
 srt : SortE E
 ok : ∀ e ∈ E, (0 ≤ e.y ∧ e.y ≤ 1048576) ∧ e.l < m ∧ (e.s = 1 ∨ e.s = -1)
 len : E.length ≤ 4096
set_option maxHeartbeats 40000000 in
theorem gcol_any (K : Nat) (eg : ∀ args w, (callFunc K args).run Tryz.prog w = .ok (.enter K args) w) (kp : List Int → Bool) (m nb cn cE : Nat) (E : List Ed) (a b : Int) (Kf : Int → Bool) (A : Option Addr) (w : World)
  (hkp : KeepOk K kp m) (hE : EdRow w nb A E) (hok : EdsOk E m) (hK : TellsK Kf kp a b m E) (h0 : ZeroK kp m) (hz : ∀ k, sumE (ctE a b k) E = 0) (hm : m ≤ 1000)
  (hn : w.ownsRow nb 3 1 (.slice (some ⟨nb, 0, none⟩) m cn) m (icells (List.replicate m 0))) :
  Calls Tryz.prog 122 #[.slice A E.length cE, .int .i64 a, .int .i64 b, .func (.func K) #[] #[], .slice (some ⟨nb, 0, none⟩) m cn] w (ColRes Kf a b nb w) := by
 obtain ⟨i0, hi9, hz0, hz1, hz2⟩ := info_parts infoRect
 have hEl := hok.len
 have HE := Lib.hid hE; clear hE
 have HS := Lib.hid hok.srt
 have HOK := Lib.hid hok.ok
 have HK := Lib.hid hK; have H0 := Lib.hid h0; have HZ := Lib.hid hz
 have HKP := Lib.hid hkp; clear hkp hok h0 hz
 have C0 : Hid (CW nb m cn (cntsE a b m (E.take 0)) (.slice none 0 0) (rectsUp a b []) w w) := Lib.hid ⟨by rw [List.take_zero, cnts_nil]; exact hn, World.ownsRow_nil _ _ _ _, Below.refl _ _, (hn.lt nb rfl).2⟩
 have A0 : Hid (ColAt Kf E 0 false []) := Lib.hid (ColAt.start hK H0.out HS.out)
 clear hn hK
 go_enter Tryz.func122, Tryz.ntmps122
 go_wp2
 go_loopw [11, 12, 18] (fun v kept i wr => ∃ (k : Nat) (kb : Bool) (T : List Int) (v0 : Value), k ≤ E.length ∧ i = .int .i64 k ∧ kept = .bool kb ∧ v0 = v ∧ Hid (ColAt Kf E k kb T) ∧ Hid (CW nb m cn (cntsE a b m (E.take k)) v0 (rectsUp a b T) w wr)) (fun _ _ i _ => E.length - (intOf i).toNat)
 case atStart => exact ⟨0, false, [], _, Nat.zero_le _, rfl, rfl, rfl, A0, C0⟩
 case round =>
  clear C0 A0
  obtain ⟨k, kb, T, v0, hk, rfl, rfl, rfl, HAT, HCW⟩ := hrel
  by_cases hlt : k < E.length
  ·obtain ⟨b1, o1, rfl, hb1n, hb1, hv1⟩ := HE.out (by omega)
   have wc := fun o => HCW.out.bel.cell (p := ⟨b1, o, none⟩) hb1n
   obtain ⟨x0, x1, x2, x3, x4⟩ := hv1 k hlt
   have x0 := (wc _).trans x0; have x1 := (wc _).trans x1; have x2 := (wc _).trans x2; have x3 := (wc _).trans x3; have x4 := (wc _).trans x4
   have HB1 := Lib.hid hb1n
   have hbw : b1 < wr.heap.size := Nat.lt_of_lt_of_le hb1 HCW.out.bel.size
   have HV1 := Lib.hid hv1
   clear hv1 wc hb1n
   have j0 : (0 : Int) ≤ (k : Int) := by omega
   have j1 : (k : Int) < (E.length : Int) := by omega
   have hnx := cnts_next a b m E k hlt
   obtain ⟨_, hl1, hs1⟩ := HOK.out _ (List.getElem_mem hlt)
   have HNX0 := Lib.hid hnx; clear hnx
   have HSG := Lib.hid hs1; clear hs1
   have hal : Below wr.heap.size wr (wr.alloc (.cells #[.int .i64 E[k].x0, .int .i64 E[k].x1, .int .i64 E[k].y, .int .i64 (E[k].l : Int), .int .i64 E[k].s] 130)) := (Below.refl _ _).alloc (Nat.le_refl _) _
   have M0 : Hid (Mid wr.heap.size E[k].y nb m cn (cntsE a b m (E.take k)) v0 (rectsUp a b T) w (wr.alloc (.cells #[.int .i64 E[k].x0, .int .i64 E[k].x1, .int .i64 E[k].y, .int .i64 (E[k].l : Int), .int .i64 E[k].s] 130))) := Lib.hid ⟨by simp, by simp, HCW.out.go hal⟩
   clear hal
   have HKP2 := Lib.hid (fun w' A' cap' (h : IRow w' A' (cntsE a b m (E.take (k + 1)))) => HKP.out w' A' cap' _ h (cntsE_len _ _ _ _))
   obtain ⟨isb, his⟩ : ∃ isb, isb = kp (cntsE a b m (E.take (k + 1))) := ⟨_, rfl⟩
   rw [← his] at HKP2
   have HIS := Lib.hid his; clear his
   obtain ⟨sk, hsk⟩ : ∃ sk : Bool, sk = true ↔ ∃ h : k + 1 < E.length, E[k + 1].y = E[k].y := ⟨decide (∃ h : k + 1 < E.length, E[k + 1].y = E[k].y), decide_eq_true_iff⟩
   have HSK := Lib.hid hsk; clear hsk
   by_cases r0 : E[k].x0 ≤ a
   ·have d0 : decide (E[k].x0 ≤ a) = true := decide_eq_true r0
    by_cases r1 : b ≤ E[k].x1
    ·have d1 : decide (b ≤ E[k].x1) = true := decide_eq_true r1
     have hlc : E[k].l < (cntsE a b m (E.take k)).length := by rw [cntsE_len]; exact hl1
     have hcc := HCW.out.cell E[k].l hlc
     have hfz := HCW.out.n.frozenAt E[k].l
     have hnb : nb < wr.heap.size := (HCW.out.n.lt nb rfl).2
     have hcb : -4096 ≤ (cntsE a b m (E.take k))[E[k].l] ∧ (cntsE a b m (E.take k))[E[k].l] ≤ 4096 := by
      rw [cntsE_at _ _ _ _ _ hl1]
      have := cnt_bound a b E[k].l (E := E.take k) (fun e he => (HOK.out e (List.mem_of_mem_take he)).2.2)
      rw [List.length_take] at this; omega
     have HNX0' := Lib.hid (HNX0.out.trans (by rw [if_pos ⟨r0, r1⟩, modify_set _ _ hlc]))
     have hsb : -1 ≤ E[k].s ∧ E[k].s ≤ 1 := by have := HSG.out; omega
     have STEP : Hid (Mid wr.heap.size E[k].y nb m cn (cntsE a b m (E.take (k + 1))) v0 (rectsUp a b T) w (((wr.setCell ⟨nb, E[k].l, none⟩ (.int .i64 ((cntsE a b m (E.take k))[E[k].l] + E[k].s))).alloc (.cells #[.int .i64 E[k].x0, .int .i64 E[k].x1, .int .i64 E[k].y, .int .i64 (E[k].l : Int), .int .i64 E[k].s] 130)).drew)) := Lib.hid (by
      have h := HCW.out.setn E[k].l ((cntsE a b m (E.take k))[E[k].l] + E[k].s)
      rw [← HNX0'.out] at h
      have hsz : (wr.setCell ⟨nb, E[k].l, none⟩ (.int .i64 ((cntsE a b m (E.take k))[E[k].l] + E[k].s))).heap.size = wr.heap.size := by simp [World.setCell]
      generalize (wr.setCell ⟨nb, E[k].l, none⟩ (.int .i64 ((cntsE a b m (E.take k))[E[k].l] + E[k].s))) = ws at *
      have M1 : Mid wr.heap.size E[k].y nb m cn (cntsE a b m (E.take (k + 1))) v0 (rectsUp a b T) w (ws.alloc (.cells #[.int .i64 E[k].x0, .int .i64 E[k].x1, .int .i64 E[k].y, .int .i64 (E[k].l : Int), .int .i64 E[k].s] 130)) := by
       rw [← hsz]
       exact ⟨by simp, by simp, h.go ((Below.refl _ _).alloc (Nat.le_refl _) _)⟩
      exact M1.drewN 1)
     clear HNX0' HNX0 M0 HCW HSG r0 r1
     generalize (cntsE a b m (E.take k))[E[k].l] = cc at *
     clear hlc
     obtain ⟨el, hel⟩ : ∃ el, el = E[k].l := ⟨_, rfl⟩
     rw [← hel] at STEP hcc hfz x3 hl1
     clear hel
     generalize E[k].x0 = e0 at *
     generalize E[k].x1 = e1 at *
     obtain ⟨e2, he2⟩ : ∃ e2, e2 = E[k].y := ⟨_, rfl⟩
     rw [← he2] at STEP x2
     have HE2 := Lib.hid he2; clear he2
     generalize E[k].s = e4 at *
     have l0 : (0 : Int) ≤ (el : Int) := by omega
     have l1 : (el : Int) < (m : Int) := by omega
     obtain ⟨g1, g2⟩ := hcb
     obtain ⟨g3, g4⟩ := hsb
     have q1 : IntKind.i64.wrap (cc + e4) = cc + e4 := IntWalk.i64_in _ (by omega)
     go_wp2_with fail
     go_region
     all_goals
      have HM : Hid (Mid wr.heap.size E[k].y nb m cn (cntsE a b m (E.take (k + 1))) v0 (rectsUp a b T) w _) := Lib.hid (by rw [← HE2.out]; exact STEP.out)
      clear STEP
      generalize hwx : (((wr.setCell ⟨nb, el, none⟩ (.int .i64 (cc + e4))).alloc (.cells #[.int .i64 e0, .int .i64 e1, .int .i64 e2, .int .i64 (el : Int), .int .i64 e4] 130)).drew) = wx at *
      clear hwx q1 g1 g2 g3 g4 l0 l1 hcc hfz d0 d1 x0 x1 x2 x3 x4 hnb HE2 hl1
      go_upto_region 8 with fail
      go_cut [57] (fun s57 wx => s57 = .bool sk ∧ Hid (Mid wr.heap.size E[k].y nb m cn (cntsE a b m (E.take (k + 1))) v0 (rectsUp a b T) w wx))
      case first =>
       have q1 : IntKind.i64.wrap ((k : Int) + 1) = (k : Int) + 1 := IntWalk.i64_in _ (by omega)
       have q2 : (0 : Int) ≤ (k : Int) + 1 := by omega
       have q3 : ((k : Int) + 1).toNat = k + 1 := by omega
       have z2 := HM.out.1
       have zz := HM.out.2.1
       by_cases hn1 : k + 1 < E.length
       ·have q4 : (k : Int) + 1 < (E.length : Int) := by omega
        have y2 := ((HM.out.2.2.bel.cell (p := ⟨b1, o1 + (k + 1) * 5 + 2, none⟩) HB1.out)).trans (HV1.out (k + 1) hn1).2.2.1
        by_cases hy : E[k + 1].y = E[k].y
        ·have d9 : (E[k + 1].y == E[k].y) = true := by simp [hy]
         obtain rfl : sk = true := HSK.out.2 ⟨hn1, hy⟩
         have HY := Lib.hid hy; clear hy
         generalize hg1 : E[k + 1].y = yn at *
         clear hg1
         go_wp2_with fail
         go_quiet (fail)
         go_wp2_with fail
         go_meet
         exact ⟨rfl, Lib.hid (HM.out.go (by (repeat' first | exact Below.refl _ _ | assumption | (apply below_drewN) | (refine Below.setCell ?_ (by (try simp); (try omega)) _) | (refine Below.alloc ?_ (by (try simp); (try omega)) _) | (refine Below.trans ?_ (Below.mono (Hid.out (by assumption)) (by (try simp); (try omega)))))))⟩
        ·have d9 : (E[k + 1].y == E[k].y) = false := by simp [hy]
         obtain rfl : sk = false := by
          cases sk with
          | false => rfl
          | true => exact absurd (HSK.out.1 rfl).2 hy
         clear hy
         generalize hg1 : E[k + 1].y = yn at *
         clear hg1
         go_wp2_with fail
         go_quiet (fail)
         go_wp2_with fail
         go_meet
         exact ⟨rfl, Lib.hid (HM.out.go (by (repeat' first | exact Below.refl _ _ | assumption | (apply below_drewN) | (refine Below.setCell ?_ (by (try simp); (try omega)) _) | (refine Below.alloc ?_ (by (try simp); (try omega)) _) | (refine Below.trans ?_ (Below.mono (Hid.out (by assumption)) (by (try simp); (try omega)))))))⟩
       ·have q4 : decide ((k : Int) + 1 < (E.length : Int)) = false := decide_eq_false (by omega)
        obtain rfl : sk = false := by
         cases sk with
         | false => rfl
         | true => exact absurd (HSK.out.1 rfl).1 hn1
        go_wp2_with fail
        go_quiet (fail)
        go_wp2_with fail
        go_meet
        exact ⟨rfl, Lib.hid (HM.out.go (by (repeat' first | exact Below.refl _ _ | assumption | (apply below_drewN) | (refine Below.setCell ?_ (by (try simp); (try omega)) _) | (refine Below.alloc ?_ (by (try simp); (try omega)) _) | (refine Below.trans ?_ (Below.mono (Hid.out (by assumption)) (by (try simp); (try omega)))))))⟩
      case rest =>
       obtain ⟨rfl, HM2⟩ := hcut
       clear HM
       have HM := HM2; clear HM2
       cases sk with
       | true =>
        obtain ⟨hn1, hy⟩ := HSK.out.1 rfl
        have HN := Lib.hid (HAT.out.skip hn1 hy)
        clear hy HIS HKP2 HAT HSK
        go_wp2_with fail
        go_roundw
        case rel => exact ⟨k + 1, kb, T, _, by omega, by go_num, rfl, rfl, HN, Lib.hid HM.out.2.2⟩
        case measure => simp [intOf]; omega
       | false =>
        have HNX : Hid (∀ h : k + 1 < E.length, E[k + 1].y ≠ E[k].y) := Lib.hid (fun h hy => by have := HSK.out.2 ⟨h, hy⟩; cases this)
        clear HSK
        go_wp2_with fail
        go_at_fn K
        refine (HKP2.out _ _ _ ((HM.out.2.2.irow).below (by (repeat' first | exact Below.refl _ _ | assumption | (apply below_drewN) | (refine Below.setCell ?_ (by (try simp); (try omega)) _) | (refine Below.alloc ?_ (by (try simp); (try omega)) _) | (refine Below.trans ?_ (Below.mono (Hid.out (by assumption)) (by (try simp); (try omega)))))))).mono ?_
        rintro e1 w1 ⟨rfl, hb⟩
        have HM1 := Lib.hid (HM.out.go hb)
        clear hb HM HKP2
        cases isb with
        | false =>
         cases kb with
         | false =>
          have HN := Lib.hid (HAT.out.stay HK.out HS.out hlt HNX.out HIS.out.symm)
          go_wp2_with fail
          go_roundw
          case rel => exact ⟨k + 1, false, T, _, by omega, by go_num, rfl, rfl, HN, Lib.hid HM1.out.2.2⟩
          case measure => simp [intOf]; omega
         | true =>
          have HN := Lib.hid (HAT.out.turn HK.out HS.out hlt HNX.out HIS.out.symm (by simp))
          obtain ⟨L, z, hL1, hL2⟩ := rectsUp_end a b E[k].y T HAT.out.par
          have hl0 : (rectsUp a b T).length = L.length + 1 := by rw [hL1]; simp
          obtain ⟨A', cap', rfl, hrow, hcap, hcap2, hA', _⟩ := own_rects HM1.out.2.2.own
          obtain ⟨g, rfl, hg1, hg2⟩ := hA' (by omega)
          have hfz := HM1.out.2.2.own.frozenAt (L.length * 4 + 3)
          obtain ⟨hg2', hcells⟩ := RRow.some hrow (by omega)
          have hcl := (hcells L.length (by omega)).2.2.2
          rw [Nat.zero_add] at hcl
          generalize (rectsUp a b T)[L.length].Y1 = y9 at hcl
          have hset : Hid ((rcells (rectsUp a b T)).set (L.length * 4 + 3) (.int .i64 E[k].y) = rcells (rectsUp a b (T ++ [E[k].y]))) := Lib.hid (by
           rw [(rcells_set _ L.length (by omega) _).2, hL2]
           congr 1
           simp only [hL1]
           rw [List.getElem_append_right (Nat.le_refl _)]
           simp)
          have hlen2 : Hid ((rectsUp a b (T ++ [E[k].y])).length = (rectsUp a b T).length) := Lib.hid (by rw [hL2, hL1]; simp)
          have HFZ := Lib.hid hfz; clear hfz hL1 hL2 hcells hrow hA' HIS HNX HS HK HE
          have hLb : L.length ≤ 1048576 := by have := rectsUp_len a b T; have := HAT.out.len; omega
          generalize hlr : (rectsUp a b T).length = nr at *
          have HLR := Lib.hid hlr; clear hlr
          subst hl0
          have q1 : IntKind.i64.wrap (((L.length + 1 : Nat) : Int) - 1) = (L.length : Int) := by rw [show ((L.length + 1 : Nat) : Int) - 1 = (L.length : Int) by omega]; exact IntWalk.i64_in _ (by omega)
          have q1' : IntKind.i64.wrap (L.length : Int) = (L.length : Int) := IntWalk.i64_in _ (by omega)
          have q2 : (0 : Int) ≤ (L.length : Int) := by omega
          have q3 : (L.length : Int) < ((L.length + 1 : Nat) : Int) := by omega
          have q4 : (L.length : Int) < (L.length : Int) + 1 := by omega
          have y2 := HM1.out.1
          have f3 := HFZ.out
          generalize hyy : E[k].y = yy at *
          have HYY := Lib.hid hyy; clear hyy
          go_wp2_with fail
          go_roundw
          case rel => exact ⟨k + 1, false, T ++ [yy], _, by omega, by go_num, rfl, rfl, by rw [← HYY.out]; rw [← HYY.out] at HN; exact HN, Lib.hid (HM1.out.2.2.setr (by rw [HLR.out]) (by rw [hlen2.out, HLR.out]) hset.out)⟩
          case measure => simp [intOf]; omega
        | true =>
         cases kb with
         | true =>
          have HN := Lib.hid (HAT.out.stay HK.out HS.out hlt HNX.out HIS.out.symm)
          go_wp2_with fail
          go_roundw
          case rel => exact ⟨k + 1, true, T, _, by omega, by go_num, rfl, rfl, HN, Lib.hid HM1.out.2.2⟩
          case measure => simp [intOf]; omega
         | false =>
          have HN := Lib.hid (HAT.out.turn HK.out HS.out hlt HNX.out HIS.out.symm (by simp))
          have hrb : Hid (rectsUp a b (T ++ [E[k].y]) = rectsUp a b T ++ [⟨a, E[k].y, b, 0⟩]) := Lib.hid (rectsUp_begin a b _ T ((odd_even T).1 HAT.out.par))
          have hlb : (rectsUp a b T).length ≤ 1048576 := by have := rectsUp_len a b T; have := HAT.out.len; omega
          have y2 := HM1.out.1
          have hown := HM1.out.2.2.own
          have hbs := HM1.out.2.2.bel.size
          clear HIS HNX HS HK HE
          generalize hyy : E[k].y = yy at *
          have HYY := Lib.hid hyy; clear hyy
          have HOWN := Lib.hid hown; clear hown
          go_wp2_with (at_builtin; refine wpList_append_own _ rfl _ _ 30 rfl w.heap.size 68 i0 (.agg #[.int .i64 0, .int .i64 0, .int .i64 0, .int .i64 0]) 4 32 Tryz.underlying30 hi9 hz0 hz1 hz2 rfl (by decide) _ _ _ rfl (HOWN.out.alloc _) ⟨w1.heap.size, 0, none⟩ 1 1 [.int .i64 a, .int .i64 yy, .int .i64 b, .int .i64 0] rfl rfl ?c1 ?c2 ?c3 ?c4 ?c5 ?_)
          case c1 =>
           intro j u hj
           match j, hj with
           | 0, hj => simp at hj; subst hj; simp [Addr.add]
           | 1, hj => simp at hj; subst hj; simp [Addr.add]
           | 2, hj => simp at hj; subst hj; simp [Addr.add]
           | 3, hj => simp at hj; subst hj; simp [Addr.add]
          case c2 => intro u hu; simp at hu; rcases hu with rfl | rfl | rfl | rfl <;> rfl
          case c3 => unfold maxLen; omega
          case c4 => omega
          case c5 => simp; omega
          intro v' w4 hown' hgr _
          have HX : Hid (CW nb m cn (cntsE a b m (E.take (k + 1))) v' (rectsUp a b (T ++ [yy])) w w4) := Lib.hid (by
           have hM2 := HM1.out.2.2.go (w' := w1.alloc (.cells #[.int .i64 a, .int .i64 yy, .int .i64 b, .int .i64 0] 68)) ((Below.refl _ _).alloc (Nat.le_refl _) _)
           refine hM2.grown ?_ hgr
           rw [hrb.out, List.length_append, rcells_append]; exact hown')
          clear hown' hgr
          go_wp2_with fail
          go_roundw
          case rel => exact ⟨k + 1, true, T ++ [yy], _, by omega, by go_num, rfl, rfl, by rw [← HYY.out]; rw [← HYY.out] at HN; exact HN, HX⟩
          case measure => simp [intOf]; omega
    ·have d1 : decide (b ≤ E[k].x1) = false := decide_eq_false r1
     have HM : Hid (Mid wr.heap.size E[k].y nb m cn (cntsE a b m (E.take (k + 1))) v0 (rectsUp a b T) w _) := Lib.hid (by rw [HNX0.out, if_neg (fun h => r1 h.2)]; exact M0.out)
     clear HNX0 HCW HSG r0 r1 M0 hl1
     go_upto_region 8 with fail
     go_cut [57] (fun s57 wx => s57 = .bool sk ∧ Hid (Mid wr.heap.size E[k].y nb m cn (cntsE a b m (E.take (k + 1))) v0 (rectsUp a b T) w wx))
     case first =>
      have q1 : IntKind.i64.wrap ((k : Int) + 1) = (k : Int) + 1 := IntWalk.i64_in _ (by omega)
      have q2 : (0 : Int) ≤ (k : Int) + 1 := by omega
      have q3 : ((k : Int) + 1).toNat = k + 1 := by omega
      have z2 := HM.out.1
      have zz := HM.out.2.1
      by_cases hn1 : k + 1 < E.length
      ·have q4 : (k : Int) + 1 < (E.length : Int) := by omega
       have y2 := ((HM.out.2.2.bel.cell (p := ⟨b1, o1 + (k + 1) * 5 + 2, none⟩) HB1.out)).trans (HV1.out (k + 1) hn1).2.2.1
       by_cases hy : E[k + 1].y = E[k].y
       ·have d9 : (E[k + 1].y == E[k].y) = true := by simp [hy]
        obtain rfl : sk = true := HSK.out.2 ⟨hn1, hy⟩
        have HY := Lib.hid hy; clear hy
        generalize hg1 : E[k + 1].y = yn at *
        clear hg1
        go_wp2_with fail
        go_quiet (fail)
        go_wp2_with fail
        go_meet
        exact ⟨rfl, Lib.hid (HM.out.go (by (repeat' first | exact Below.refl _ _ | assumption | (apply below_drewN) | (refine Below.setCell ?_ (by (try simp); (try omega)) _) | (refine Below.alloc ?_ (by (try simp); (try omega)) _) | (refine Below.trans ?_ (Below.mono (Hid.out (by assumption)) (by (try simp); (try omega)))))))⟩
       ·have d9 : (E[k + 1].y == E[k].y) = false := by simp [hy]
        obtain rfl : sk = false := by
         cases sk with
         | false => rfl
         | true => exact absurd (HSK.out.1 rfl).2 hy
        clear hy
        generalize hg1 : E[k + 1].y = yn at *
        clear hg1
        go_wp2_with fail
        go_quiet (fail)
        go_wp2_with fail
        go_meet
        exact ⟨rfl, Lib.hid (HM.out.go (by (repeat' first | exact Below.refl _ _ | assumption | (apply below_drewN) | (refine Below.setCell ?_ (by (try simp); (try omega)) _) | (refine Below.alloc ?_ (by (try simp); (try omega)) _) | (refine Below.trans ?_ (Below.mono (Hid.out (by assumption)) (by (try simp); (try omega)))))))⟩
      ·have q4 : decide ((k : Int) + 1 < (E.length : Int)) = false := decide_eq_false (by omega)
       obtain rfl : sk = false := by
        cases sk with
        | false => rfl
        | true => exact absurd (HSK.out.1 rfl).1 hn1
       go_wp2_with fail
       go_quiet (fail)
       go_wp2_with fail
       go_meet
       exact ⟨rfl, Lib.hid (HM.out.go (by (repeat' first | exact Below.refl _ _ | assumption | (apply below_drewN) | (refine Below.setCell ?_ (by (try simp); (try omega)) _) | (refine Below.alloc ?_ (by (try simp); (try omega)) _) | (refine Below.trans ?_ (Below.mono (Hid.out (by assumption)) (by (try simp); (try omega)))))))⟩
     case rest =>
      obtain ⟨rfl, HM2⟩ := hcut
      clear HM
      have HM := HM2; clear HM2
      cases sk with
      | true =>
       obtain ⟨hn1, hy⟩ := HSK.out.1 rfl
       have HN := Lib.hid (HAT.out.skip hn1 hy)
       clear hy HIS HKP2 HAT HSK
       go_wp2_with fail
       go_roundw
       case rel => exact ⟨k + 1, kb, T, _, by omega, by go_num, rfl, rfl, HN, Lib.hid HM.out.2.2⟩
       case measure => simp [intOf]; omega
      | false =>
       have HNX : Hid (∀ h : k + 1 < E.length, E[k + 1].y ≠ E[k].y) := Lib.hid (fun h hy => by have := HSK.out.2 ⟨h, hy⟩; cases this)
       clear HSK
       go_wp2_with fail
       go_at_fn K
       refine (HKP2.out _ _ _ ((HM.out.2.2.irow).below (by (repeat' first | exact Below.refl _ _ | assumption | (apply below_drewN) | (refine Below.setCell ?_ (by (try simp); (try omega)) _) | (refine Below.alloc ?_ (by (try simp); (try omega)) _) | (refine Below.trans ?_ (Below.mono (Hid.out (by assumption)) (by (try simp); (try omega)))))))).mono ?_
       rintro e1 w1 ⟨rfl, hb⟩
       have HM1 := Lib.hid (HM.out.go hb)
       clear hb HM HKP2
       cases isb with
       | false =>
        cases kb with
        | false =>
         have HN := Lib.hid (HAT.out.stay HK.out HS.out hlt HNX.out HIS.out.symm)
         go_wp2_with fail
         go_roundw
         case rel => exact ⟨k + 1, false, T, _, by omega, by go_num, rfl, rfl, HN, Lib.hid HM1.out.2.2⟩
         case measure => simp [intOf]; omega
        | true =>
         have HN := Lib.hid (HAT.out.turn HK.out HS.out hlt HNX.out HIS.out.symm (by simp))
         obtain ⟨L, z, hL1, hL2⟩ := rectsUp_end a b E[k].y T HAT.out.par
         have hl0 : (rectsUp a b T).length = L.length + 1 := by rw [hL1]; simp
         obtain ⟨A', cap', rfl, hrow, hcap, hcap2, hA', _⟩ := own_rects HM1.out.2.2.own
         obtain ⟨g, rfl, hg1, hg2⟩ := hA' (by omega)
         have hfz := HM1.out.2.2.own.frozenAt (L.length * 4 + 3)
         obtain ⟨hg2', hcells⟩ := RRow.some hrow (by omega)
         have hcl := (hcells L.length (by omega)).2.2.2
         rw [Nat.zero_add] at hcl
         generalize (rectsUp a b T)[L.length].Y1 = y9 at hcl
         have hset : Hid ((rcells (rectsUp a b T)).set (L.length * 4 + 3) (.int .i64 E[k].y) = rcells (rectsUp a b (T ++ [E[k].y]))) := Lib.hid (by
          rw [(rcells_set _ L.length (by omega) _).2, hL2]
          congr 1
          simp only [hL1]
          rw [List.getElem_append_right (Nat.le_refl _)]
          simp)
         have hlen2 : Hid ((rectsUp a b (T ++ [E[k].y])).length = (rectsUp a b T).length) := Lib.hid (by rw [hL2, hL1]; simp)
         have HFZ := Lib.hid hfz; clear hfz hL1 hL2 hcells hrow hA' HIS HNX HS HK HE
         have hLb : L.length ≤ 1048576 := by have := rectsUp_len a b T; have := HAT.out.len; omega
         generalize hlr : (rectsUp a b T).length = nr at *
         have HLR := Lib.hid hlr; clear hlr
         subst hl0
         have q1 : IntKind.i64.wrap (((L.length + 1 : Nat) : Int) - 1) = (L.length : Int) := by rw [show ((L.length + 1 : Nat) : Int) - 1 = (L.length : Int) by omega]; exact IntWalk.i64_in _ (by omega)
         have q1' : IntKind.i64.wrap (L.length : Int) = (L.length : Int) := IntWalk.i64_in _ (by omega)
         have q2 : (0 : Int) ≤ (L.length : Int) := by omega
         have q3 : (L.length : Int) < ((L.length + 1 : Nat) : Int) := by omega
         have q4 : (L.length : Int) < (L.length : Int) + 1 := by omega
         have y2 := HM1.out.1
         have f3 := HFZ.out
         generalize hyy : E[k].y = yy at *
         have HYY := Lib.hid hyy; clear hyy
         go_wp2_with fail
         go_roundw
         case rel => exact ⟨k + 1, false, T ++ [yy], _, by omega, by go_num, rfl, rfl, by rw [← HYY.out]; rw [← HYY.out] at HN; exact HN, Lib.hid (HM1.out.2.2.setr (by rw [HLR.out]) (by rw [hlen2.out, HLR.out]) hset.out)⟩
         case measure => simp [intOf]; omega
       | true =>
        cases kb with
        | true =>
         have HN := Lib.hid (HAT.out.stay HK.out HS.out hlt HNX.out HIS.out.symm)
         go_wp2_with fail
         go_roundw
         case rel => exact ⟨k + 1, true, T, _, by omega, by go_num, rfl, rfl, HN, Lib.hid HM1.out.2.2⟩
         case measure => simp [intOf]; omega
        | false =>
         have HN := Lib.hid (HAT.out.turn HK.out HS.out hlt HNX.out HIS.out.symm (by simp))
         have hrb : Hid (rectsUp a b (T ++ [E[k].y]) = rectsUp a b T ++ [⟨a, E[k].y, b, 0⟩]) := Lib.hid (rectsUp_begin a b _ T ((odd_even T).1 HAT.out.par))
         have hlb : (rectsUp a b T).length ≤ 1048576 := by have := rectsUp_len a b T; have := HAT.out.len; omega
         have y2 := HM1.out.1
         have hown := HM1.out.2.2.own
         have hbs := HM1.out.2.2.bel.size
         clear HIS HNX HS HK HE
         generalize hyy : E[k].y = yy at *
         have HYY := Lib.hid hyy; clear hyy
         have HOWN := Lib.hid hown; clear hown
         go_wp2_with (at_builtin; refine wpList_append_own _ rfl _ _ 30 rfl w.heap.size 68 i0 (.agg #[.int .i64 0, .int .i64 0, .int .i64 0, .int .i64 0]) 4 32 Tryz.underlying30 hi9 hz0 hz1 hz2 rfl (by decide) _ _ _ rfl (HOWN.out.alloc _) ⟨w1.heap.size, 0, none⟩ 1 1 [.int .i64 a, .int .i64 yy, .int .i64 b, .int .i64 0] rfl rfl ?c1 ?c2 ?c3 ?c4 ?c5 ?_)
         case c1 =>
          intro j u hj
          match j, hj with
          | 0, hj => simp at hj; subst hj; simp [Addr.add]
          | 1, hj => simp at hj; subst hj; simp [Addr.add]
          | 2, hj => simp at hj; subst hj; simp [Addr.add]
          | 3, hj => simp at hj; subst hj; simp [Addr.add]
         case c2 => intro u hu; simp at hu; rcases hu with rfl | rfl | rfl | rfl <;> rfl
         case c3 => unfold maxLen; omega
         case c4 => omega
         case c5 => simp; omega
         intro v' w4 hown' hgr _
         have HX : Hid (CW nb m cn (cntsE a b m (E.take (k + 1))) v' (rectsUp a b (T ++ [yy])) w w4) := Lib.hid (by
          have hM2 := HM1.out.2.2.go (w' := w1.alloc (.cells #[.int .i64 a, .int .i64 yy, .int .i64 b, .int .i64 0] 68)) ((Below.refl _ _).alloc (Nat.le_refl _) _)
          refine hM2.grown ?_ hgr
          rw [hrb.out, List.length_append, rcells_append]; exact hown')
         clear hown' hgr
         go_wp2_with fail
         go_roundw
         case rel => exact ⟨k + 1, true, T ++ [yy], _, by omega, by go_num, rfl, rfl, by rw [← HYY.out]; rw [← HYY.out] at HN; exact HN, HX⟩
         case measure => simp [intOf]; omega
   ·have d0 : decide (E[k].x0 ≤ a) = false := decide_eq_false r0
    have HM : Hid (Mid wr.heap.size E[k].y nb m cn (cntsE a b m (E.take (k + 1))) v0 (rectsUp a b T) w _) := Lib.hid (by rw [HNX0.out, if_neg (fun h => r0 h.1)]; exact M0.out)
    clear HNX0 HCW HSG r0 M0 hl1
    go_upto_region 8 with fail
    go_cut [57] (fun s57 wx => s57 = .bool sk ∧ Hid (Mid wr.heap.size E[k].y nb m cn (cntsE a b m (E.take (k + 1))) v0 (rectsUp a b T) w wx))
    case first =>
     have q1 : IntKind.i64.wrap ((k : Int) + 1) = (k : Int) + 1 := IntWalk.i64_in _ (by omega)
     have q2 : (0 : Int) ≤ (k : Int) + 1 := by omega
     have q3 : ((k : Int) + 1).toNat = k + 1 := by omega
     have z2 := HM.out.1
     have zz := HM.out.2.1
     by_cases hn1 : k + 1 < E.length
     ·have q4 : (k : Int) + 1 < (E.length : Int) := by omega
      have y2 := ((HM.out.2.2.bel.cell (p := ⟨b1, o1 + (k + 1) * 5 + 2, none⟩) HB1.out)).trans (HV1.out (k + 1) hn1).2.2.1
      by_cases hy : E[k + 1].y = E[k].y
      ·have d9 : (E[k + 1].y == E[k].y) = true := by simp [hy]
       obtain rfl : sk = true := HSK.out.2 ⟨hn1, hy⟩
       have HY := Lib.hid hy; clear hy
       generalize hg1 : E[k + 1].y = yn at *
       clear hg1
       go_wp2_with fail
       go_quiet (fail)
       go_wp2_with fail
       go_meet
       exact ⟨rfl, Lib.hid (HM.out.go (by (repeat' first | exact Below.refl _ _ | assumption | (apply below_drewN) | (refine Below.setCell ?_ (by (try simp); (try omega)) _) | (refine Below.alloc ?_ (by (try simp); (try omega)) _) | (refine Below.trans ?_ (Below.mono (Hid.out (by assumption)) (by (try simp); (try omega)))))))⟩
      ·have d9 : (E[k + 1].y == E[k].y) = false := by simp [hy]
       obtain rfl : sk = false := by
        cases sk with
        | false => rfl
        | true => exact absurd (HSK.out.1 rfl).2 hy
       clear hy
       generalize hg1 : E[k + 1].y = yn at *
       clear hg1
       go_wp2_with fail
       go_quiet (fail)
       go_wp2_with fail
       go_meet
       exact ⟨rfl, Lib.hid (HM.out.go (by (repeat' first | exact Below.refl _ _ | assumption | (apply below_drewN) | (refine Below.setCell ?_ (by (try simp); (try omega)) _) | (refine Below.alloc ?_ (by (try simp); (try omega)) _) | (refine Below.trans ?_ (Below.mono (Hid.out (by assumption)) (by (try simp); (try omega)))))))⟩
     ·have q4 : decide ((k : Int) + 1 < (E.length : Int)) = false := decide_eq_false (by omega)
      obtain rfl : sk = false := by
       cases sk with
       | false => rfl
       | true => exact absurd (HSK.out.1 rfl).1 hn1
      go_wp2_with fail
      go_quiet (fail)
      go_wp2_with fail
      go_meet
      exact ⟨rfl, Lib.hid (HM.out.go (by (repeat' first | exact Below.refl _ _ | assumption | (apply below_drewN) | (refine Below.setCell ?_ (by (try simp); (try omega)) _) | (refine Below.alloc ?_ (by (try simp); (try omega)) _) | (refine Below.trans ?_ (Below.mono (Hid.out (by assumption)) (by (try simp); (try omega)))))))⟩
    case rest =>
     obtain ⟨rfl, HM2⟩ := hcut
     clear HM
     have HM := HM2; clear HM2
     cases sk with
     | true =>
      obtain ⟨hn1, hy⟩ := HSK.out.1 rfl
      have HN := Lib.hid (HAT.out.skip hn1 hy)
      clear hy HIS HKP2 HAT HSK
      go_wp2_with fail
      go_roundw
      case rel => exact ⟨k + 1, kb, T, _, by omega, by go_num, rfl, rfl, HN, Lib.hid HM.out.2.2⟩
      case measure => simp [intOf]; omega
     | false =>
      have HNX : Hid (∀ h : k + 1 < E.length, E[k + 1].y ≠ E[k].y) := Lib.hid (fun h hy => by have := HSK.out.2 ⟨h, hy⟩; cases this)
      clear HSK
      go_wp2_with fail
      go_at_fn K
      refine (HKP2.out _ _ _ ((HM.out.2.2.irow).below (by (repeat' first | exact Below.refl _ _ | assumption | (apply below_drewN) | (refine Below.setCell ?_ (by (try simp); (try omega)) _) | (refine Below.alloc ?_ (by (try simp); (try omega)) _) | (refine Below.trans ?_ (Below.mono (Hid.out (by assumption)) (by (try simp); (try omega)))))))).mono ?_
      rintro e1 w1 ⟨rfl, hb⟩
      have HM1 := Lib.hid (HM.out.go hb)
      clear hb HM HKP2
      cases isb with
      | false =>
       cases kb with
       | false =>
        have HN := Lib.hid (HAT.out.stay HK.out HS.out hlt HNX.out HIS.out.symm)
        go_wp2_with fail
        go_roundw
        case rel => exact ⟨k + 1, false, T, _, by omega, by go_num, rfl, rfl, HN, Lib.hid HM1.out.2.2⟩
        case measure => simp [intOf]; omega
       | true =>
        have HN := Lib.hid (HAT.out.turn HK.out HS.out hlt HNX.out HIS.out.symm (by simp))
        obtain ⟨L, z, hL1, hL2⟩ := rectsUp_end a b E[k].y T HAT.out.par
        have hl0 : (rectsUp a b T).length = L.length + 1 := by rw [hL1]; simp
        obtain ⟨A', cap', rfl, hrow, hcap, hcap2, hA', _⟩ := own_rects HM1.out.2.2.own
        obtain ⟨g, rfl, hg1, hg2⟩ := hA' (by omega)
        have hfz := HM1.out.2.2.own.frozenAt (L.length * 4 + 3)
        obtain ⟨hg2', hcells⟩ := RRow.some hrow (by omega)
        have hcl := (hcells L.length (by omega)).2.2.2
        rw [Nat.zero_add] at hcl
        generalize (rectsUp a b T)[L.length].Y1 = y9 at hcl
        have hset : Hid ((rcells (rectsUp a b T)).set (L.length * 4 + 3) (.int .i64 E[k].y) = rcells (rectsUp a b (T ++ [E[k].y]))) := Lib.hid (by
         rw [(rcells_set _ L.length (by omega) _).2, hL2]
         congr 1
         simp only [hL1]
         rw [List.getElem_append_right (Nat.le_refl _)]
         simp)
        have hlen2 : Hid ((rectsUp a b (T ++ [E[k].y])).length = (rectsUp a b T).length) := Lib.hid (by rw [hL2, hL1]; simp)
        have HFZ := Lib.hid hfz; clear hfz hL1 hL2 hcells hrow hA' HIS HNX HS HK HE
        have hLb : L.length ≤ 1048576 := by have := rectsUp_len a b T; have := HAT.out.len; omega
        generalize hlr : (rectsUp a b T).length = nr at *
        have HLR := Lib.hid hlr; clear hlr
        subst hl0
        have q1 : IntKind.i64.wrap (((L.length + 1 : Nat) : Int) - 1) = (L.length : Int) := by rw [show ((L.length + 1 : Nat) : Int) - 1 = (L.length : Int) by omega]; exact IntWalk.i64_in _ (by omega)
        have q1' : IntKind.i64.wrap (L.length : Int) = (L.length : Int) := IntWalk.i64_in _ (by omega)
        have q2 : (0 : Int) ≤ (L.length : Int) := by omega
        have q3 : (L.length : Int) < ((L.length + 1 : Nat) : Int) := by omega
        have q4 : (L.length : Int) < (L.length : Int) + 1 := by omega
        have y2 := HM1.out.1
        have f3 := HFZ.out
        generalize hyy : E[k].y = yy at *
        have HYY := Lib.hid hyy; clear hyy
        go_wp2_with fail
        go_roundw
        case rel => exact ⟨k + 1, false, T ++ [yy], _, by omega, by go_num, rfl, rfl, by rw [← HYY.out]; rw [← HYY.out] at HN; exact HN, Lib.hid (HM1.out.2.2.setr (by rw [HLR.out]) (by rw [hlen2.out, HLR.out]) hset.out)⟩
        case measure => simp [intOf]; omega
      | true =>
       cases kb with
       | true =>
        have HN := Lib.hid (HAT.out.stay HK.out HS.out hlt HNX.out HIS.out.symm)
        go_wp2_with fail
        go_roundw
        case rel => exact ⟨k + 1, true, T, _, by omega, by go_num, rfl, rfl, HN, Lib.hid HM1.out.2.2⟩
        case measure => simp [intOf]; omega
       | false =>
        have HN := Lib.hid (HAT.out.turn HK.out HS.out hlt HNX.out HIS.out.symm (by simp))
        have hrb : Hid (rectsUp a b (T ++ [E[k].y]) = rectsUp a b T ++ [⟨a, E[k].y, b, 0⟩]) := Lib.hid (rectsUp_begin a b _ T ((odd_even T).1 HAT.out.par))
        have hlb : (rectsUp a b T).length ≤ 1048576 := by have := rectsUp_len a b T; have := HAT.out.len; omega
        have y2 := HM1.out.1
        have hown := HM1.out.2.2.own
        have hbs := HM1.out.2.2.bel.size
        clear HIS HNX HS HK HE
        generalize hyy : E[k].y = yy at *
        have HYY := Lib.hid hyy; clear hyy
        have HOWN := Lib.hid hown; clear hown
        go_wp2_with (at_builtin; refine wpList_append_own _ rfl _ _ 30 rfl w.heap.size 68 i0 (.agg #[.int .i64 0, .int .i64 0, .int .i64 0, .int .i64 0]) 4 32 Tryz.underlying30 hi9 hz0 hz1 hz2 rfl (by decide) _ _ _ rfl (HOWN.out.alloc _) ⟨w1.heap.size, 0, none⟩ 1 1 [.int .i64 a, .int .i64 yy, .int .i64 b, .int .i64 0] rfl rfl ?c1 ?c2 ?c3 ?c4 ?c5 ?_)
        case c1 =>
         intro j u hj
         match j, hj with
         | 0, hj => simp at hj; subst hj; simp [Addr.add]
         | 1, hj => simp at hj; subst hj; simp [Addr.add]
         | 2, hj => simp at hj; subst hj; simp [Addr.add]
         | 3, hj => simp at hj; subst hj; simp [Addr.add]
        case c2 => intro u hu; simp at hu; rcases hu with rfl | rfl | rfl | rfl <;> rfl
        case c3 => unfold maxLen; omega
        case c4 => omega
        case c5 => simp; omega
        intro v' w4 hown' hgr _
        have HX : Hid (CW nb m cn (cntsE a b m (E.take (k + 1))) v' (rectsUp a b (T ++ [yy])) w w4) := Lib.hid (by
         have hM2 := HM1.out.2.2.go (w' := w1.alloc (.cells #[.int .i64 a, .int .i64 yy, .int .i64 b, .int .i64 0] 68)) ((Below.refl _ _).alloc (Nat.le_refl _) _)
         refine hM2.grown ?_ hgr
         rw [hrb.out, List.length_append, rcells_append]; exact hown')
        clear hown' hgr
        go_wp2_with fail
        go_roundw
        case rel => exact ⟨k + 1, true, T ++ [yy], _, by omega, by go_num, rfl, rfl, by rw [← HYY.out]; rw [← HYY.out] at HN; exact HN, HX⟩
        case measure => simp [intOf]; omega
  ·obtain rfl : k = E.length := by omega
   have HD := Lib.hid (HAT.out.done HK.out H0.out HZ.out (fun e he => (HOK.out e he).1))
   have HEV : Hid (rectsUp a b T = rectsOf a b T) := Lib.hid (rectsUp_even a b T HD.out.1.ev)
   go_wp2_with fail
   go_ret
   exact ⟨v0, T, rfl, HD.out.1, HD.out.2, by rw [← HEV.out]; exact HCW.out.own, HCW.out.bel⟩
end Go.Proofs.YtngddecpfhlilaaGreat
