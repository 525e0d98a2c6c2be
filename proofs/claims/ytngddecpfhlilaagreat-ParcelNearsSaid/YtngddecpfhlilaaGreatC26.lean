/-
  Contracts of layer 13 (8): areApart.
-/
import Derived.Test.YtngddecpfhlilaaGreatC22
set_option linter.unusedVariables false
set_option maxRecDepth 100000
namespace Go.Proofs.YtngddecpfhlilaaGreat
open Go.RowKit
set_option maxHeartbeats 32000000 in
theorem apart_any (A : Option Addr) (cap : Nat) (l : List Rc) (w : World) (h1 : RRow w A l) (hl : l.length ≤ 274877906944) (hok : ∀ r ∈ l, ROk r) :
  Calls Tryz.prog 53 #[.slice A l.length cap] w (BlIs (apB l) w) := by
 obtain ⟨i1, hj9, hy0, hy1, hy2⟩ := info_parts infoSd
 obtain ⟨i0, hi9, hz0, hz1, hz2⟩ := info_parts infoInt
 have H1 := Lib.hid h1; clear h1
 have HOK := Lib.hid hok; clear hok
 go_enter Tryz.func53, Tryz.ntmps53
 go_wp2_with fail
 go_loopw [3, 4, 17] (fun v1 v2 i wr => ∃ (k : Nat) (a1 a2 : Value), k ≤ l.length ∧ i = .int .i64 k ∧ a1 = v1 ∧ a2 = v2 ∧ Hid (ApW a1 a2 (ap1 (l.take k)) (sidesOf (l.take k)) w wr)) (fun _ _ i _ => l.length - (intOf i).toNat)
 case atStart => exact ⟨0, _, _, Nat.zero_le _, rfl, rfl, rfl, Lib.hid (ApW.nil w)⟩
 case round =>
  obtain ⟨k, v1, v2, hk, rfl, rfl, rfl, HK⟩ := hrel
  by_cases hlt : k < l.length
  ·obtain ⟨b1, o1, rfl, hb1, hv1⟩ := H1.out (by omega)
   obtain ⟨x0, x1, x2, x3⟩ := hv1 k hlt
   have wc := fun o => HK.out.bel.cell (p := ⟨b1, o, none⟩) hb1
   have x0 := (wc _).trans x0; have x1 := (wc _).trans x1; have x2 := (wc _).trans x2; have x3 := (wc _).trans x3
   clear hv1 wc
   have n0 : (0 : Int) ≤ (k : Int) := by omega
   have n1 : (k : Int) < (l.length : Int) := by omega
   have HL1 : Hid (ap1 (l.take (k + 1)) = ap1 (l.take k) ++ [l[k].Y0]) := Lib.hid (by rw [← List.take_append_getElem hlt]; unfold ap1; rw [List.map_append]; rfl)
   have HL2 : Hid (sidesOf (l.take (k + 1)) = sidesOf (l.take k) ++ [⟨l[k].X0, l[k].Y0, l[k].Y1, 1⟩, ⟨l[k].X1, l[k].Y0, l[k].Y1, -1⟩]) := Lib.hid (by rw [← List.take_append_getElem hlt, sidesOf_append]; rfl)
   have HZ1 : Hid ((ap1 (l.take k)).length = k) := Lib.hid (by unfold ap1; rw [List.length_map, List.length_take]; omega)
   have HZ2 : Hid ((sidesOf (l.take k)).length = k * 2) := Lib.hid (by rw [sidesOf_len, List.length_take]; omega)
   obtain ⟨u, hu⟩ : ∃ u, u = l[k] := ⟨_, rfl⟩
   rw [← hu] at x0 x1 x2 x3 HL1 HL2
   clear hu
   obtain ⟨F1, hF1⟩ : ∃ F, F = ap1 (l.take k) := ⟨_, rfl⟩
   obtain ⟨F2, hF2⟩ : ∃ F, F = sidesOf (l.take k) := ⟨_, rfl⟩
   rw [← hF1] at HK HL1 HZ1
   rw [← hF2] at HK HL2 HZ2
   clear hF1 hF2
   have HKA : Hid (∀ o, ApW v1 v2 F1 F2 w ((wr.alloc (.cells #[.int .i64 u.X0, .int .i64 u.Y0, .int .i64 u.X1, .int .i64 u.Y1] 68)).alloc o)) := Lib.hid (fun o => HK.out.go (((Below.refl _ _).alloc (Nat.le_refl _) _).alloc (by simp) _))
   have HBX : Hid (∀ o w5, ((wr.alloc (.cells #[.int .i64 u.X0, .int .i64 u.Y0, .int .i64 u.X1, .int .i64 u.Y1] 68)).alloc o).grownBy w5 v1.ownBlock → w5.heap[wr.heap.size]? = some (.cells #[.int .i64 u.X0, .int .i64 u.Y0, .int .i64 u.X1, .int .i64 u.Y1] 68 (0, 0))) := Lib.hid (fun o w5 hg => by
    rw [hg.block wr.heap.size (by simp; omega) (fun e => absurd (HK.out.o1.lt _ e.symm).2 (Nat.lt_irrefl _))]
    exact heap_alloc2_old wr _ _)
   have hbs := HK.out.bel.size
   clear HK
   go_wp2_with (at_builtin; refine wpList_append_own _ rfl _ _ 31 rfl w.heap.size 3 i0 (.int .i64 0) 1 8 Tryz.underlying31 hi9 hz0 hz1 hz2 rfl (by decide) _ _ _ rfl (HKA.out _).o1 ⟨wr.heap.size + 1, 0, none⟩ 1 1 [.int .i64 u.Y0] rfl rfl ?c1 ?c2 ?c3 ?c4 ?c5 ?_)
   case c1 => exact World.news_of_block (cs := #[.int .i64 u.Y0]) (t := 3) (fr := (0, 0)) (heap_alloc2_new wr _ _)
   case c2 => intro z hz; simp only [List.mem_cons, List.not_mem_nil, or_false] at hz; rcases hz with rfl; rfl
   case c3 => have := HZ1.out; unfold maxLen; omega
   case c4 => have := HZ1.out; omega
   case c5 => exact (HKA.out _).bel.size
   intro v5 w5 hown5 hgr5 _
   have HK5 := Lib.hid ((HKA.out _).app1 hown5 hgr5)
   have hbx := HBX.out _ _ hgr5
   have y0 : w5.cell? ⟨wr.heap.size, 0, none⟩ = some (.int .i64 u.X0) := by simp [World.cell?, hbx]
   have y1 : w5.cell? ⟨wr.heap.size, 1, none⟩ = some (.int .i64 u.Y0) := by simp [World.cell?, hbx]
   have y2 : w5.cell? ⟨wr.heap.size, 2, none⟩ = some (.int .i64 u.X1) := by simp [World.cell?, hbx]
   have y3 : w5.cell? ⟨wr.heap.size, 3, none⟩ = some (.int .i64 u.Y1) := by simp [World.cell?, hbx]
   have HK6 : Hid (∀ o, ApW v5 v2 (F1 ++ [u.Y0]) F2 w (w5.alloc o)) := Lib.hid (fun o => HK5.out.go ((Below.refl _ _).alloc (Nat.le_refl _) o))
   clear hown5 hgr5 hbx HBX HKA
   go_wp2_with (at_builtin; refine wpList_append_own _ rfl _ _ 111 rfl w.heap.size 113 i1 (.agg #[.int .i64 0, .int .i64 0, .int .i64 0, .int .i64 0]) 4 32 Tryz.underlying111 hj9 hy0 hy1 hy2 rfl (by decide) _ _ _ rfl (HK6.out _).o2 ⟨w5.heap.size, 0, none⟩ 2 2 [.int .i64 u.X0, .int .i64 u.Y0, .int .i64 u.Y1, .int .i64 1, .int .i64 u.X1, .int .i64 u.Y0, .int .i64 u.Y1, .int .i64 (-1)] rfl rfl ?d1 ?d2 ?d3 ?d4 ?d5 ?_)
   case d1 => exact World.news_of_block (cs := #[.int .i64 u.X0, .int .i64 u.Y0, .int .i64 u.Y1, .int .i64 1, .int .i64 u.X1, .int .i64 u.Y0, .int .i64 u.Y1, .int .i64 (-1)]) (t := 113) (fr := (0, 0)) (heap_alloc_new w5 _)
   case d2 => intro z hz; simp only [List.mem_cons, List.not_mem_nil, or_false] at hz; rcases hz with rfl | rfl | rfl | rfl | rfl | rfl | rfl | rfl <;> rfl
   case d3 => have := HZ2.out; unfold maxLen; omega
   case d4 => have := HZ2.out; omega
   case d5 => exact (HK6.out _).bel.size
   intro v7 w7 hown7 hgr7 _
   have HK7 : Hid (ApW v5 v7 (ap1 (l.take (k + 1))) (sidesOf (l.take (k + 1))) w w7) := Lib.hid (by
    rw [HL1.out, HL2.out]
    exact (HK6.out _).app2 (T := [⟨u.X0, u.Y0, u.Y1, 1⟩, ⟨u.X1, u.Y0, u.Y1, -1⟩]) hown7 hgr7)
   clear hown7 hgr7 y0 y1 y2 y3
   go_wp2_with fail
   go_roundw
   case rel => exact ⟨k + 1, v5, v7, by omega, by go_num, rfl, rfl, HK7⟩
   case measure => simp [intOf]; omega
  ·obtain rfl : k = l.length := by omega
   rw [List.take_length] at HK
   have hz1 : (ap1 l).length = l.length := by simp [ap1]
   have hz2 : (sidesOf l).length = l.length * 2 := sidesOf_len l
   obtain ⟨A1, c1, rfl, hr1, hr2, hr3⟩ := own_parts13 HK.out.o1
   have hn1 : NIn wr A1 c1 (ap1 l) := own_nin HK.out.o1 (by rw [hz1]; omega)
   have HAS := Lib.hid (asc_any A1 c1 (ap1 l) wr hn1)
   have HO2 := Lib.hid HK.out.o2
   have HB := Lib.hid HK.out.bel
   clear HK hn1 hr1 hr2 hr3
   rw [hz1] at HAS ⊢
   have hbs := HB.out.size
   go_wp2_with fail
   refine HAS.out.mono ?_
   rintro e w1 ⟨A3, c3, rfl, hn3, hg3, hb3⟩
   have HN3 := Lib.hid hn3; have HG3 := Lib.hid hg3; clear hg3
   have HOLD := Lib.hid (fun k hk => (HO2.out.lt k hk).2)
   have HB3 := Lib.hid (HB.out.trans (hb3.mono hbs)); clear hn3 HAS
   have HO3 := Lib.hid (own_go HO2.out hb3); clear HO2 hb3 HB
   obtain ⟨A4, c4, rfl, hs1, hs2, hsc⟩ := sort13_any HO3.out (by rw [hz2]; omega)
   have HSC := Lib.hid hsc; clear hsc
   have HOL := Lib.hid (fun k hk => HO3.out.lt k hk); clear HO3
   obtain ⟨n4, hn4⟩ : ∃ n4, n4 = (sidesOf l).length := ⟨_, rfl⟩
   rw [← hn4] at HSC HOL hs1 hz2 ⊢
   have HZ2 := Lib.hid hz2; have HN4 := Lib.hid hn4; clear hz2 hn4
   go_wp2_with fail
   with_reducible refine HSC.out.mono ?_
   rintro e w2 ⟨rfl, E, hp, hs, hrow, hgr⟩
   have HB4 := Lib.hid (HB3.out.grown hgr HB3.out.size (fun k e => (HOL.out k e).1))
   have hEl : E.length = n4 := by rw [HN4.out]; exact hp.length_eq.symm
   have HF := Lib.hid (sides_facts HOK.out hp)
   have HAP := Lib.hid (apB_iff HOK.out hp hs)
   have HN5 : Hid (NIn w2 A3 c3 (sortS (ap1 l))) := Lib.hid ⟨fun h0 => by
    obtain ⟨g3, e3, hg3⟩ := HG3.out h0
    obtain ⟨b, o, e4, hb4, hc4⟩ := HN3.out.row h0
    rw [e3] at e4
    simp only [Option.some.injEq, Addr.mk.injEq, and_true] at e4
    obtain ⟨rfl, rfl⟩ := e4
    refine ⟨g3, 0, e3, Nat.lt_of_lt_of_le hb4 hgr.size, fun j hj => ?_⟩
    have e5 : w2.heap[g3]? = w1.heap[g3]? := hgr.block g3 hb4 (fun e => by have := HOLD.out g3 (by rw [← HN4.out]; exact e.symm); omega)
    rw [← hc4 j hj]
    exact World.cell?_of_block e5, HN3.out.len, HN3.out.room, HN3.out.room2⟩
   have HROW := Lib.hid hrow
   have hRl : (sortS (ap1 l)).length ≤ l.length := by have := sortS_len (ap1 l); rw [hz1] at this; exact this
   have HASC := Lib.hid (sortS_is (ap1 l)).1
   clear hrow hgr hs hp HSC HN3
   obtain ⟨R, hR⟩ : ∃ R, R = sortS (ap1 l) := ⟨_, rfl⟩
   rw [← hR] at HN5 HASC hRl HF ⊢
   clear hR hz1
   obtain ⟨nR, hnR⟩ : ∃ nR, nR = R.length := ⟨_, rfl⟩
   rw [← hnR] at hRl ⊢
   obtain ⟨m, hm⟩ : ∃ m, m = nR + 1 := ⟨_, rfl⟩
   have HNC := Lib.hid (fun W' => newC_any nR m hm (by omega) W')
   have HST := Lib.hid (CtAt.start R E w2 m (by omega) (by unfold maxLen; omega))
   have HM := Lib.hid hm; have HNR := Lib.hid hnR; have HEL := Lib.hid hEl; have HRL := Lib.hid hRl
   clear hm hnR hEl hRl
   go_wp2_with (go_at_call 108; refine (HNC.out _).mono ?_; rintro e w' ⟨rfl, rfl⟩)
   have HB5 : Hid (Below w.heap.size w ((w2.alloc (.cells (icells (List.replicate m 0)).toArray 3)).alloc (.cells (icells (List.replicate m 0)).toArray 3))) := Lib.hid (HB4.out.trans (HST.out.bel.mono HB4.out.size))
   have e9 : (w2.alloc (.cells (icells (List.replicate m 0)).toArray 3)).heap.size = w2.heap.size + 1 := by simp
   try rw [e9]
   clear e9 HNC
   generalize (w2.alloc (.cells (icells (List.replicate m 0)).toArray 3)).alloc (.cells (icells (List.replicate m 0)).toArray 3) = wq at *
   obtain ⟨gB, hgB⟩ : ∃ gB, gB = w2.heap.size := ⟨_, rfl⟩
   obtain ⟨gE, hgE⟩ : ∃ gE, gE = w2.heap.size + 1 := ⟨_, rfl⟩
   rw [← hgE, ← hgB] at HST ⊢
   have hne : gB ≠ gE := by omega
   have hB1 : w2.heap.size ≤ gB := by omega
   have hB2 : w2.heap.size ≤ gE := by omega
   have HNE := Lib.hid hne; have HB1' := Lib.hid hB1; have HB2' := Lib.hid hB2
   clear hgB hgE hne hB1 hB2
   have HE1 : Hid (∀ s ∈ E, s.st = 1 ∨ s.st = -1) := Lib.hid (fun s hs => (HF.out s hs).2.2.1)
   have hm4 : m ≤ 4398046511104 := by have := HM.out; have := HRL.out; omega
   have hE4 : E.length ≤ 4398046511104 := by have := HEL.out; have := HZ2.out; omega
   have HM4 := Lib.hid hm4; have HE4 := Lib.hid hE4
   have hn4b : n4 ≤ 549755813888 := by have := HZ2.out; omega
   clear hm4 hE4
   go_wp2_with fail
   go_loopw [56] (fun i wr => ∃ (k : Nat), k ≤ n4 ∧ i = .int .i64 k ∧ Hid (CtAt R E gB gE m k w2 wr) ∧ Hid (∀ j (h : j < E.length), j < k → E[j].st = 1 → sumW (ovS E[j]) (E.take j) = 0)) (fun i _ => n4 - (intOf i).toNat)
   case atStart => exact ⟨0, Nat.zero_le _, rfl, HST, Lib.hid (fun j h hj => absurd hj (Nat.not_lt_zero _))⟩
   case round =>
    clear HST
    obtain ⟨k, hk, rfl, HC, HT⟩ := hrel
    by_cases hlt : k < n4
    ·have hkE : k < E.length := by rw [HEL.out]; exact hlt
     have hWB := Lib.hid HC.out.bel
     have hrow := HROW.out.below HC.out.bel
     obtain ⟨g, rfl, hg, hv⟩ := hrow (by omega)
     obtain ⟨x0, x1, x2, x3⟩ := hv k hkE
     clear hv hrow
     have hf := HF.out E[k] (List.getElem_mem hkE)
     have n0 : (0 : Int) ≤ (k : Int) := by omega
     have n1 : (k : Int) < (n4 : Int) := by omega
     have HNK : Hid (∀ w', Below wr.heap.size wr w' → NIn w' A3 c3 R) := Lib.hid (fun w' hb => (HN5.out.below hWB.out).below hb)
     have HBS := Lib.hid (fun w' x (hb : Below wr.heap.size wr w') => show Calls Tryz.prog 109 #[.slice A3 nR c3, .int .i64 x] w' (PosR R x w') from by rw [HNR.out]; exact bs_any A3 c3 R x w' (HNK.out w' hb) HASC.out)
     have HIX0 := Lib.hid (fun i (h : PosI R E[k].y0 i) => h.ix)
     have HIX1 := Lib.hid (fun i (h : PosI R E[k].y1 i) => h.ix)
     have hi0 : ixR R E[k].y0 < nR := by
      have h2 := ixR_lt (R := R) hf.1 (show E[k].y0 < 1048577 by omega)
      have h3 := ixR_le R 1048577
      have := HNR.out; omega
     have hi1 : ixR R E[k].y1 ≤ nR := by have := ixR_le R E[k].y1; have := HNR.out; omega
     have HSW : Hid (sumW (fun s => decide (ixR R s.y0 < ixR R E[k].y1)) (E.take k) = sumW (fun s => decide (ixR R s.y1 < ixR R E[k].y0 + 1)) (E.take k) ↔ sumW (ovS E[k]) (E.take k) = 0) := Lib.hid (by
      rw [← sweep_two (t := E[k]) (P := E.take k) (fun s hs => (HF.out s (List.mem_of_mem_take hs)).2.1) hf.2.1]
      rw [sumW_congr (q := fun s => decide (s.y0 < E[k].y1)) (fun s hs => decide_eq_decide.2 (ix_iff1 (HF.out s (List.mem_of_mem_take hs)).1)), sumW_congr (p := fun s => decide (ixR R s.y1 < ixR R E[k].y0 + 1)) (q := fun s => decide (s.y1 ≤ E[k].y0)) (fun s hs => decide_eq_decide.2 (ix_iff2 hf.1))])
     have HP1 := Lib.hid (fun wq (h : CtAt R E gB gE m k w2 wq) => ct_bef1 h HE1.out HE4.out HM4.out (i := ixR R E[k].y1) (by have := HM.out; omega))
     have HP2 := Lib.hid (fun wq (h : CtAt R E gB gE m k w2 wq) => ct_bef2 h HE1.out HE4.out HM4.out (i := ixR R E[k].y0 + 1) (by have := HM.out; omega))
     have HA1 := Lib.hid (fun wq (h : CtAt R E gB gE m k w2 wq) => ct_add1 h HNE.out HB1'.out HE1.out HE4.out HM4.out hkE (by have := HM.out; have := HM4.out; omega))
     have HA2 := Lib.hid (fun wq (h : CtMd R E gB gE m k w2 wq) => ct_add2 h HNE.out HB2'.out HE1.out HE4.out HM4.out hkE (by have := HM.out; have := HM4.out; omega))
     have HS1 := sumW_bd (fun s => decide (ixR R s.y0 < ixR R E[k].y1)) (S := E.take k) (fun s hs => HE1.out s (List.mem_of_mem_take hs))
     have HTK := Lib.hid (fun (c : E[k].st = 1 → sumW (ovS E[k]) (E.take k) = 0) j (h : j < E.length) (hj : j < k + 1) => show E[j].st = 1 → sumW (ovS E[j]) (E.take j) = 0 from by
      by_cases e : j < k
      ·exact HT.out j h e
      ·obtain rfl : j = k := by omega
       exact c)
     have HFL := Lib.hid (fun (c : E[k].st = 1) (c2 : ¬ sumW (ovS E[k]) (E.take k) = 0) => show apB l = false from by
      cases hb : apB l with
      | false => rfl
      | true => exact absurd (HAP.out.1 hb k hkE c) c2)
     have hst := hf.2.2.1
     clear HT hf HS1
     generalize sumW (ovS E[k]) (E.take k) = zo at *
     generalize sumW (fun s => decide (ixR R s.y0 < ixR R E[k].y1)) (E.take k) = z1 at *
     generalize sumW (fun s => decide (ixR R s.y1 < ixR R E[k].y0 + 1)) (E.take k) = z2 at *
     generalize E[k] = u at *
     obtain ⟨i0', hi0'⟩ : ∃ i, i = ixR R u.y0 := ⟨_, rfl⟩
     obtain ⟨i1', hi1'⟩ : ∃ i, i = ixR R u.y1 := ⟨_, rfl⟩
     rw [← hi0'] at HIX0 HP2 HA1 hi0
     rw [← hi1'] at HIX1 HP1 HA2 hi1
     clear hi0' hi1'
     have hbs2 := hWB.out.size
     have HC1 := Lib.hid (fun w' (hb : Below wr.heap.size wr w') => HC.out.go hb)
     have HBWR := Lib.hid (Below.refl wr.heap.size wr)
     have hgBl := HC.out.lt
     have HGL := Lib.hid hgBl; clear hgBl
     have hib : i0' + 1 ≤ 4398046511104 := by have := HM.out; have := HM4.out; omega
     have hjb : i1' ≤ 4398046511104 := by have := HM.out; have := HM4.out; omega
     rcases hst with hst | hst
     ·rw [hst] at x3 HA1 HA2
      go_wp2_with fail
      refine (HBS.out _ u.y0 (by (repeat' first | exact Below.refl _ _ | assumption | (apply below_drewN) | (refine Below.setCell ?_ (by (try simp); (try omega)) _) | (refine Below.alloc ?_ (by (try simp); (try omega)) _) | (refine Below.trans ?_ (Below.mono (Hid.out (by assumption)) (by (try simp); (try omega))))))).mono ?_
      rintro e w3 ⟨i, rfl, hi, q, rfl⟩
      obtain rfl := HIX0.out i hi
      clear hi
      go_wp2_with fail
      refine (HBS.out _ u.y1 (by (repeat' first | exact Below.refl _ _ | assumption | (apply below_drewN) | (refine Below.setCell ?_ (by (try simp); (try omega)) _) | (refine Below.alloc ?_ (by (try simp); (try omega)) _) | (refine Below.trans ?_ (Below.mono (Hid.out (by assumption)) (by (try simp); (try omega))))))).mono ?_
      rintro e w4 ⟨j, rfl, hi, q2, rfl⟩
      obtain rfl := HIX1.out j hi
      clear hi
      go_wp2_with fail
      refine (HP1.out _ (HC1.out _ (by (repeat' first | exact Below.refl _ _ | assumption | (apply below_drewN) | (refine Below.setCell ?_ (by (try simp); (try omega)) _) | (refine Below.alloc ?_ (by (try simp); (try omega)) _) | (refine Below.trans ?_ (Below.mono (Hid.out (by assumption)) (by (try simp); (try omega)))))))).mono ?_
      rintro e w5 ⟨rfl, hb5⟩
      have HW5 : Hid (Below wr.heap.size wr w5 ∧ w5.cell? ⟨wr.heap.size, 3, none⟩ = some (.int .i64 1) ∧ wr.heap.size < w5.heap.size) := Lib.hid ⟨Below.trans (by (repeat' first | exact Below.refl _ _ | assumption | (apply below_drewN) | (refine Below.setCell ?_ (by (try simp); (try omega)) _) | (refine Below.alloc ?_ (by (try simp); (try omega)) _) | (refine Below.trans ?_ (Below.mono (Hid.out (by assumption)) (by (try simp); (try omega)))))) (hb5.mono (by simp)), (hb5.cell (p := ⟨wr.heap.size, 3, none⟩) (by simp)).trans (by simp), Nat.lt_of_lt_of_le (by simp) hb5.size⟩
      clear hb5
      go_wp2_with fail
      have e10 : (i : Int) + 1 = ((i + 1 : Nat) : Int) := by omega
      try rw [e10]
      refine (HP2.out _ (HC1.out _ HW5.out.1)).mono ?_
      rintro e w6 ⟨rfl, hb6⟩
      have HW6 : Hid (Below wr.heap.size wr w6 ∧ w6.cell? ⟨wr.heap.size, 3, none⟩ = some (.int .i64 1) ∧ wr.heap.size < w6.heap.size) := Lib.hid ⟨HW5.out.1.trans (hb6.mono HW5.out.1.size), (hb6.cell (p := ⟨wr.heap.size, 3, none⟩) HW5.out.2.2).trans HW5.out.2.1, Nat.lt_of_lt_of_le HW5.out.2.2 hb6.size⟩
      clear hb6 HW5 e10
      by_cases c : z1 = z2
      ·have hd : (z1 != z2) = false := by simpa using c
       have HTN := Lib.hid (HTK.out (fun _ => HSW.out.1 c))
       clear c HTK HFL HSW
       have s6 := HW6.out.1.size
       obtain ⟨_, c6, l6⟩ := HW6.out
       go_wp2_with fail
       refine (HA1.out _ (HC1.out _ HW6.out.1)).mono ?_
       rintro e w7 ⟨rfl, hm7, hg7⟩
       have c7 : w7.cell? ⟨wr.heap.size, 3, none⟩ = some (.int .i64 1) := (World.cell?_of_block (hg7.block wr.heap.size l6 (fun e => by have := HGL.out.1; injection e with e; omega))).trans c6
       have c7b : w7.cell? ⟨wr.heap.size, 1, none⟩ = some (.int .i64 u.y0) ∨ True := .inr trivial
       have HM7 := Lib.hid hm7
       clear hm7 hg7 c7b
       go_wp2_with fail
       refine (HA2.out _ HM7.out).mono ?_
       rintro e w8 ⟨rfl, hm8⟩
       have HM8 := Lib.hid hm8; clear hm8
       go_wp2_with fail
       go_roundw
       case rel => exact ⟨k + 1, by omega, by go_num, Lib.hid (HM8.out.go (by (repeat' first | exact Below.refl _ _ | assumption | (apply below_drewN) | (refine Below.setCell ?_ (by (try simp); (try omega)) _) | (refine Below.alloc ?_ (by (try simp); (try omega)) _) | (refine Below.trans ?_ (Below.mono (Hid.out (by assumption)) (by (try simp); (try omega))))))), HTN.out⟩
       case measure => simp [intOf]; omega
      ·have hd : (z1 != z2) = true := by simpa using c
       have HFN := Lib.hid (HFL.out hst (fun h => c (HSW.out.2 h)))
       have HBF : Hid (Below w.heap.size w w6) := Lib.hid ((HB4.out.trans (hWB.out.mono HB4.out.size)).trans (HW6.out.1.mono (Nat.le_trans HB4.out.size hbs2)))
       clear c HTK HFL HSW
       go_wp2_with fail
       go_ret
       exact ⟨by rw [HFN.out]; rfl, HBF.out.trans (by (repeat' first | exact Below.refl _ _ | assumption | (apply below_drewN) | (refine Below.setCell ?_ (by (try simp); (try omega)) _) | (refine Below.alloc ?_ (by (try simp); (try omega)) _) | (refine Below.trans ?_ (Below.mono (Hid.out (by assumption)) (by (try simp); (try omega))))))⟩
     ·rw [hst] at x3 HA1 HA2
      go_wp2_with fail
      refine (HBS.out _ u.y0 (by (repeat' first | exact Below.refl _ _ | assumption | (apply below_drewN) | (refine Below.setCell ?_ (by (try simp); (try omega)) _) | (refine Below.alloc ?_ (by (try simp); (try omega)) _) | (refine Below.trans ?_ (Below.mono (Hid.out (by assumption)) (by (try simp); (try omega))))))).mono ?_
      rintro e w3 ⟨i, rfl, hi, q, rfl⟩
      obtain rfl := HIX0.out i hi
      clear hi
      go_wp2_with fail
      refine (HBS.out _ u.y1 (by (repeat' first | exact Below.refl _ _ | assumption | (apply below_drewN) | (refine Below.setCell ?_ (by (try simp); (try omega)) _) | (refine Below.alloc ?_ (by (try simp); (try omega)) _) | (refine Below.trans ?_ (Below.mono (Hid.out (by assumption)) (by (try simp); (try omega))))))).mono ?_
      rintro e w4 ⟨j, rfl, hi, q2, rfl⟩
      obtain rfl := HIX1.out j hi
      clear hi
      have HTN := Lib.hid (HTK.out (fun h => by rw [hst] at h; exact absurd h (by decide)))
      have HW6 : Hid (Below wr.heap.size wr (((wr.alloc (.cells #[.int .i64 u.x, .int .i64 u.y0, .int .i64 u.y1, .int .i64 (-1)] 113)).drewN (q + q2))) ∧ ((wr.alloc (.cells #[.int .i64 u.x, .int .i64 u.y0, .int .i64 u.y1, .int .i64 (-1)] 113)).drewN (q + q2)).cell? ⟨wr.heap.size, 3, none⟩ = some (.int .i64 (-1)) ∧ wr.heap.size < ((wr.alloc (.cells #[.int .i64 u.x, .int .i64 u.y0, .int .i64 u.y1, .int .i64 (-1)] 113)).drewN (q + q2)).heap.size) := Lib.hid ⟨by (repeat' first | exact Below.refl _ _ | assumption | (apply below_drewN) | (refine Below.setCell ?_ (by (try simp); (try omega)) _) | (refine Below.alloc ?_ (by (try simp); (try omega)) _) | (refine Below.trans ?_ (Below.mono (Hid.out (by assumption)) (by (try simp); (try omega))))), by simp, by simp⟩
      clear HTK HFL HSW
      have s6 := HW6.out.1.size
      obtain ⟨_, c6, l6⟩ := HW6.out
      go_wp2_with fail
      refine (HA1.out _ (HC1.out _ HW6.out.1)).mono ?_
      rintro e w7 ⟨rfl, hm7, hg7⟩
      have c7 : w7.cell? ⟨wr.heap.size, 3, none⟩ = some (.int .i64 (-1)) := (World.cell?_of_block (hg7.block wr.heap.size l6 (fun e => by have := HGL.out.1; injection e with e; omega))).trans c6
      have c7b : w7.cell? ⟨wr.heap.size, 1, none⟩ = some (.int .i64 u.y0) ∨ True := .inr trivial
      have HM7 := Lib.hid hm7
      clear hm7 hg7 c7b
      go_wp2_with fail
      refine (HA2.out _ HM7.out).mono ?_
      rintro e w8 ⟨rfl, hm8⟩
      have HM8 := Lib.hid hm8; clear hm8
      go_wp2_with fail
      go_roundw
      case rel => exact ⟨k + 1, by omega, by go_num, Lib.hid (HM8.out.go (by (repeat' first | exact Below.refl _ _ | assumption | (apply below_drewN) | (refine Below.setCell ?_ (by (try simp); (try omega)) _) | (refine Below.alloc ?_ (by (try simp); (try omega)) _) | (refine Below.trans ?_ (Below.mono (Hid.out (by assumption)) (by (try simp); (try omega))))))), HTN.out⟩
      case measure => simp [intOf]; omega
    ·obtain rfl : k = n4 := by omega
     have HY : Hid (apB l = true) := Lib.hid (HAP.out.2 (fun j hj => HT.out j hj (by rw [← HEL.out]; exact hj)))
     have HBF : Hid (Below w.heap.size w wr) := Lib.hid (HB4.out.trans (HC.out.bel.mono HB4.out.size))
     clear HT HC HF HAP
     go_wp2_with fail
     go_ret
     exact ⟨by rw [HY.out]; rfl, HBF.out.trans (by (repeat' first | exact Below.refl _ _ | assumption | (apply below_drewN) | (refine Below.setCell ?_ (by (try simp); (try omega)) _) | (refine Below.alloc ?_ (by (try simp); (try omega)) _) | (refine Below.trans ?_ (Below.mono (Hid.out (by assumption)) (by (try simp); (try omega))))))⟩
end Go.Proofs.YtngddecpfhlilaaGreat
