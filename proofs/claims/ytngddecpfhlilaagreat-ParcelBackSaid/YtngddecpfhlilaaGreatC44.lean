/-
  The laws of layer 13: an operation.
  The laws of layer 13: the number of cells of all lots.
  Lots (layer 13): a split that is joined again. No program in this text.
  The law ParcelBack of layer 13: its walk.
-/
import Derived.Test.YtngddecpfhlilaaGreatC43
import Derived.Test.YtngddecpfhlilaaGreatC39
import Derived.Test.YtngddecpfhlilaaGreatC22
import Derived.Test.YtngddecpfhlilaaGreatC40
import Derived.BigQuiet
import Derived.Deep.RegionHeld3
set_option linter.unusedVariables false
set_option maxRecDepth 100000
namespace Go.Proofs.YtngddecpfhlilaaGreat
open Go.RowKit
def OfR13 (x : List Rc × Int) (w : World) (e : Ending) (w' : World) : Prop := ∃ A c, e = .returned (.tuple #[.slice A x.1.length c, .int .i64 x.2]) ∧ RIn w' A c x.1 ∧ (A = none → c = 0) ∧ Below w.heap.size w w'
theorem gof13_any (A : Option Addr) (cap : Nat) (l : List Rc) (w : World) (h : RIn w A cap l) : Calls Tryz.prog 24 #[.slice A l.length cap] w (OfR13 (ofR l) w) := by
 refine (gof_any A cap l w h.row h.len).mono ?_
 rintro e w' ⟨v, rfl, ho, hb⟩
 obtain ⟨B, c, rfl, _⟩ := own_parts ho
 exact ⟨B, c, rfl, own_rin ho (by have := (ofR_regP l).2; omega), own_none ho, hb⟩
def OpAt (g : Nat) (x : Op13) (p : LtP) (w : World) : Prop := w.cell? ⟨g, 0, none⟩ = some (.int .i64 x.k) ∧ w.cell? ⟨g, 1, none⟩ = some (.int .i64 x.id) ∧ w.cell? ⟨g, 2, none⟩ = some (.int .i64 x.a) ∧ w.cell? ⟨g, 3, none⟩ = some (.int .i64 x.b) ∧ w.cell? ⟨g, 4, none⟩ = some (.int .i64 x.n) ∧ w.cell? ⟨g, 5, none⟩ = some (.slice p.A x.ar.length p.c) ∧ w.cell? ⟨g, 6, none⟩ = some (.slice p.B x.ids.length p.d) ∧ g < w.heap.size
theorem OpAt.go {g : Nat} {x : Op13} {p : LtP} {w w' : World} (h : OpAt g x p w) (hb : Below w.heap.size w w') : OpAt g x p w' := by
 obtain ⟨h0, h1, h2, h3, h4, h5, h6, hl⟩ := h
 have wc := fun k => hb.cell (p := ⟨g, k, none⟩) hl
 exact ⟨(wc _).trans h0, (wc _).trans h1, (wc _).trans h2, (wc _).trans h3, (wc _).trans h4, (wc _).trans h5, (wc _).trans h6, Nat.lt_of_lt_of_le hl hb.size⟩
theorem OpAt.fut {g : Nat} {x : Op13} {p : LtP} {w : World} (h : OpAt g x p w) : Fut w (OpAt g x p) := fun w' hb => h.go hb
theorem OpAt.new (w : World) (x : Op13) (p : LtP) (k : Nat) (hk : k = w.heap.size) : OpAt k x p (w.alloc (.cells #[.int .i64 x.k, .int .i64 x.id, .int .i64 x.a, .int .i64 x.b, .int .i64 x.n, .slice p.A x.ar.length p.c, .slice p.B x.ids.length p.d] 33)) := by
 subst hk
 have h := heap_alloc_new w (.cells #[.int .i64 x.k, .int .i64 x.id, .int .i64 x.a, .int .i64 x.b, .int .i64 x.n, .slice p.A x.ar.length p.c, .slice p.B x.ids.length p.d] 33)
 exact ⟨by rw [Lib.cell_of_heap h]; rfl, by rw [Lib.cell_of_heap h]; rfl, by rw [Lib.cell_of_heap h]; rfl, by rw [Lib.cell_of_heap h]; rfl, by rw [Lib.cell_of_heap h]; rfl, by rw [Lib.cell_of_heap h]; rfl, by rw [Lib.cell_of_heap h]; rfl, by rw [World.size_alloc]; omega⟩
set_option maxHeartbeats 16000000 in
theorem do_any (A : Option Addr) (cap : Nat) (L : List Lt) (o : Op13) (p : LtP) (w : World) (h : LtIn w A cap L) (ho : OpI w o p) (hids : (idsL L).length ≤ 274877906944) :
  Calls Tryz.prog 12 #[.slice A L.length cap, opv o p] w (OpR (doM L o) w) := by
 have HOF := Lib.hid (gof13_any p.A p.c o.ar w ho.ar)
 have HAD := Lib.hid (fun w' A' c' (hb : Below w.heap.size w w') (hr : RIn w' A' c' (ofR o.ar).1) (hn : A' = none → c' = 0) => show Calls Tryz.prog 39 #[.slice A L.length cap, .agg #[.int .i64 o.id, .int .i64 o.n, .slice A' (ofR o.ar).1.length c', .slice none 0 0]] w' (OpR (addM landB lotB L ⟨o.id, o.n, (ofR o.ar).1, []⟩) w') from
  add13_any A cap L ⟨o.id, o.n, (ofR o.ar).1, []⟩ ⟨A', c', none, 0⟩ w' (h.below hb) ⟨hr, NIn.nil _, hn, fun _ => rfl⟩)
 have HSP := Lib.hid (fun w' A' c' (hb : Below w.heap.size w w') (hr : RIn w' A' c' (ofR o.ar).1) => split13_any A cap L o.id A' c' (ofR o.ar).1 o.a o.b w' (h.below hb) hr)
 have HJN := Lib.hid (fun w' (hb : Below w.heap.size w w') => join13_any A cap L p.B p.d o.ids o.id w' (h.below hb) (ho.ids.below hb) hids)
 have HTR := Lib.hid (fun w' (hb : Below w.heap.size w w') => trans13_any A cap L o.id o.n w' (h.below hb))
 have HLL := Lib.hid (fun w' (hb : Below w.heap.size w w') => h.below hb)
 have HE : Hid (doM L o = if (doR L o).2 = 0 then ((doR L o).1, 0) else (L, (doR L o).2)) := Lib.hid rfl
 have HM0 : Hid (o.k = 0 → doR L o = addM landB lotB L ⟨o.id, o.n, (ofR o.ar).1, []⟩) := Lib.hid (fun c => by unfold doR; rw [if_pos c])
 have HM1 : Hid (o.k = 1 → doR L o = splitM landB rgB oneB L o.id (ofR o.ar).1 o.a o.b) := Lib.hid (fun c => by unfold doR; rw [if_neg (by omega), if_pos c])
 have HM2 : Hid (o.k = 2 → doR L o = joinG L (sortS o.ids) o.ids.length o.id) := Lib.hid (fun c => by unfold doR; rw [if_neg (by omega), if_neg (by omega), if_pos c])
 have HM3 : Hid (o.k = 3 → doR L o = transM landB L o.id o.n) := Lib.hid (fun c => by unfold doR; rw [if_neg (by omega), if_neg (by omega), if_neg (by omega), if_pos c])
 have HM4 : Hid (o.k ≠ 0 → o.k ≠ 1 → o.k ≠ 2 → o.k ≠ 3 → doR L o = (L, 0)) := Lib.hid (fun c0 c1 c2 c3 => by unfold doR; rw [if_neg c0, if_neg c1, if_neg c2, if_neg c3])
 generalize doM L o = Y at *
 generalize doR L o = X at *
 clear h hids
 have HO := Lib.hid (OpAt.new w o p _ rfl)
 have HOF2 := Lib.hid (fun w' (hb : Below w.heap.size w w') => gof13_any p.A p.c o.ar w' (ho.ar.below hb))
 have HOF := HOF2; clear HOF2 ho
 have HB0 := Lib.hid ((Below.refl w.heap.size w).alloc (Nat.le_refl _) (.cells #[.int .i64 o.k, .int .i64 o.id, .int .i64 o.a, .int .i64 o.b, .int .i64 o.n, .slice p.A o.ar.length p.c, .slice p.B o.ids.length p.d] 33))
 obtain ⟨k, id, a, b, n, ar, ids⟩ := o
 obtain ⟨PA, PC, PB, PD⟩ := p
 unfold opv
 have HOX := Lib.hid (fun w' g (h : OpAt g ⟨k, id, a, b, n, ar, ids⟩ ⟨PA, PC, PB, PD⟩ w') => show w'.cell? ⟨g, 0, none⟩ = some (.int .i64 k) ∧ w'.cell? ⟨g, 1, none⟩ = some (.int .i64 id) ∧ w'.cell? ⟨g, 2, none⟩ = some (.int .i64 a) ∧ w'.cell? ⟨g, 3, none⟩ = some (.int .i64 b) ∧ w'.cell? ⟨g, 4, none⟩ = some (.int .i64 n) ∧ w'.cell? ⟨g, 5, none⟩ = some (.slice PA ar.length PC) ∧ w'.cell? ⟨g, 6, none⟩ = some (.slice PB ids.length PD) ∧ g < w'.heap.size from h)
 simp only at HOF HAD HSP HJN HTR HM0 HM1 HM2 HM3 HM4 HB0 ⊢
 have x5 := (HOX.out _ _ HO.out).2.2.2.2.2.1
 generalize hR : (ofR ar).1 = R at *
 generalize hRc : (ofR ar).2 = rc at *
 have HRR : Hid (ofR ar = (R, rc)) := Lib.hid (by rw [← hR, ← hRc])
 clear hR hRc
 rw [HRR.out] at HOF
 clear HRR
 go_enter Tryz.func12, Tryz.ntmps12
 go_wp2_with fail
 refine (HOF.out _ HB0.out).mono ?_
 rintro e w1 ⟨A1, c1, rfl, hr1, hn1, hb1⟩
 have HB1 := Lib.hid (HB0.out.trans (hb1.mono HB0.out.size))
 obtain ⟨y0, y1, y2, y3, y4, y5, y6, yl⟩ := HOX.out _ _ (HO.out.go hb1)
 have HR1 := Lib.hid hr1
 have HN1 := Lib.hid hn1
 clear hb1 hr1 hn1 HOF HOX HO x5 HB0
 by_cases c0 : k = 0
 ·subst c0
  have HX := Lib.hid (HM0.out rfl)
  clear HM0 HM1 HM2 HM3 HM4
  go_wp2_with fail
  refine (HAD.out _ _ _ HB1.out HR1.out HN1.out).mono ?_
  rw [← HX.out]
  rintro e w2 ⟨A2, c2, rfl, hr2, hb2⟩
  have HB2 := Lib.hid (HB1.out.trans (hb2.mono HB1.out.size))
  have HR2 := Lib.hid hr2
  clear hb2 hr2 HAD HSP HJN HTR HX
  obtain ⟨T, c⟩ := X
  simp only at HE HR2 ⊢
  have hT := HR2.out.len
  by_cases hc : c = 0
  ·have HV : Hid (Y = (T, 0)) := Lib.hid (by rw [HE.out, if_pos hc])
   subst hc
   clear HE
   go_wp2_with fail
   go_ret2
   rw [HV.out]; exact ⟨_, _, rfl, HR2.out, HB2.out⟩
  ·have HV : Hid (Y = (L, c)) := Lib.hid (by rw [HE.out, if_neg hc])
   have g1 : (c != (0 : Int)) = true := by simpa using hc
   have HL2 := Lib.hid (HLL.out _ HB2.out)
   clear HE hc HLL
   go_wp2_with fail
   go_ret2
   rw [HV.out]; exact ⟨_, _, rfl, HL2.out, HB2.out⟩
 ·by_cases c1 : k = 1
  ·have f0 : (k == (0 : Int)) = false := by simpa using c0
   subst c1
   have HX := Lib.hid (HM1.out rfl)
   clear HM0 HM1 HM2 HM3 HM4
   clear c0
   go_wp2_with fail
   refine (HSP.out _ _ _ HB1.out HR1.out).mono ?_
   rw [← HX.out]
   rintro e w2 ⟨A2, c2, rfl, hr2, hb2⟩
   have HB2 := Lib.hid (HB1.out.trans (hb2.mono HB1.out.size))
   have HR2 := Lib.hid hr2
   clear hb2 hr2 HAD HSP HJN HTR HX
   obtain ⟨T, c⟩ := X
   simp only at HE HR2 ⊢
   have hT := HR2.out.len
   by_cases hc : c = 0
   ·have HV : Hid (Y = (T, 0)) := Lib.hid (by rw [HE.out, if_pos hc])
    subst hc
    clear HE
    go_wp2_with fail
    go_ret2
    rw [HV.out]; exact ⟨_, _, rfl, HR2.out, HB2.out⟩
   ·have HV : Hid (Y = (L, c)) := Lib.hid (by rw [HE.out, if_neg hc])
    have g1 : (c != (0 : Int)) = true := by simpa using hc
    have HL2 := Lib.hid (HLL.out _ HB2.out)
    clear HE hc HLL
    go_wp2_with fail
    go_ret2
    rw [HV.out]; exact ⟨_, _, rfl, HL2.out, HB2.out⟩
  ·by_cases c2 : k = 2
   ·have f0 : (k == (0 : Int)) = false := by simpa using c0
    have f1 : (k == (1 : Int)) = false := by simpa using c1
    subst c2
    have HX := Lib.hid (HM2.out rfl)
    clear HM0 HM1 HM2 HM3 HM4
    clear c0
    clear c1
    go_wp2_with fail
    refine (HJN.out _ HB1.out).mono ?_
    rw [← HX.out]
    rintro e w2 ⟨A2, c2, rfl, hr2, hb2⟩
    have HB2 := Lib.hid (HB1.out.trans (hb2.mono HB1.out.size))
    have HR2 := Lib.hid hr2
    clear hb2 hr2 HAD HSP HJN HTR HX
    obtain ⟨T, c⟩ := X
    simp only at HE HR2 ⊢
    have hT := HR2.out.len
    by_cases hc : c = 0
    ·have HV : Hid (Y = (T, 0)) := Lib.hid (by rw [HE.out, if_pos hc])
     subst hc
     clear HE
     go_wp2_with fail
     go_ret2
     rw [HV.out]; exact ⟨_, _, rfl, HR2.out, HB2.out⟩
    ·have HV : Hid (Y = (L, c)) := Lib.hid (by rw [HE.out, if_neg hc])
     have g1 : (c != (0 : Int)) = true := by simpa using hc
     have HL2 := Lib.hid (HLL.out _ HB2.out)
     clear HE hc HLL
     go_wp2_with fail
     go_ret2
     rw [HV.out]; exact ⟨_, _, rfl, HL2.out, HB2.out⟩
   ·by_cases c3 : k = 3
    ·have f0 : (k == (0 : Int)) = false := by simpa using c0
     have f1 : (k == (1 : Int)) = false := by simpa using c1
     have f2 : (k == (2 : Int)) = false := by simpa using c2
     subst c3
     have HX := Lib.hid (HM3.out rfl)
     clear HM0 HM1 HM2 HM3 HM4
     clear c0
     clear c1
     clear c2
     go_wp2_with fail
     refine (HTR.out _ HB1.out).mono ?_
     rw [← HX.out]
     rintro e w2 ⟨A2, c2, rfl, hr2, hb2⟩
     have HB2 := Lib.hid (HB1.out.trans (hb2.mono HB1.out.size))
     have HR2 := Lib.hid hr2
     clear hb2 hr2 HAD HSP HJN HTR HX
     obtain ⟨T, c⟩ := X
     simp only at HE HR2 ⊢
     have hT := HR2.out.len
     by_cases hc : c = 0
     ·have HV : Hid (Y = (T, 0)) := Lib.hid (by rw [HE.out, if_pos hc])
      subst hc
      clear HE
      go_wp2_with fail
      go_ret2
      rw [HV.out]; exact ⟨_, _, rfl, HR2.out, HB2.out⟩
     ·have HV : Hid (Y = (L, c)) := Lib.hid (by rw [HE.out, if_neg hc])
      have g1 : (c != (0 : Int)) = true := by simpa using hc
      have HL2 := Lib.hid (HLL.out _ HB2.out)
      clear HE hc HLL
      go_wp2_with fail
      go_ret2
      rw [HV.out]; exact ⟨_, _, rfl, HL2.out, HB2.out⟩
    ·have f0 : (k == (0 : Int)) = false := by simpa using c0
     have f1 : (k == (1 : Int)) = false := by simpa using c1
     have f2 : (k == (2 : Int)) = false := by simpa using c2
     have f3 : (k == (3 : Int)) = false := by simpa using c3
     have HX := Lib.hid (HM4.out c0 c1 c2 c3)
     clear HM0 HM1 HM2 HM3 HM4
     clear c0
     clear c1
     clear c2
     clear c3
     go_wp2_with fail
     have HV : Hid (Y = (L, 0)) := Lib.hid (by rw [HE.out, HX.out, if_pos rfl])
     have HL2 := Lib.hid (HLL.out _ HB1.out)
     go_ret2
     rw [HV.out]; exact ⟨_, _, rfl, HL2.out, HB1.out⟩
end Go.Proofs.YtngddecpfhlilaaGreat
namespace Go.Proofs.YtngddecpfhlilaaGreat
open Go.RowKit
theorem tot_take {L : List Lt} {j : Nat} (hj : j < L.length) : totL (L.take (j + 1)) = totL (L.take j) + areaL L[j].ar := by
 rw [List.take_succ_eq_append_getElem hj]
 unfold totL
 rw [List.map_append, List.sum_append]
 simp
theorem tot_bd {L : List Lt} (h : Land oneB L) : ∀ j, 0 ≤ totL (L.take j) ∧ totL (L.take j) ≤ j * 1099511627776 := by
 intro j
 induction j with
 | zero => simp [totL]
 | succ j ih =>
  by_cases hj : j < L.length
  ·rw [tot_take hj]
   have h1 := form_grid (forms_of h _ (List.getElem_mem hj)).1
   have h2 := (areaL_bd L[j].ar).1
   omega
  ·rw [List.take_of_length_le (by omega)]
   rw [List.take_of_length_le (by omega)] at ih
   omega
theorem tot_le {L : List Lt} (h : Land oneB L) : 0 ≤ totL L ∧ totL L ≤ 20000 * 1099511627776 := by
 have h1 := tot_bd h L.length
 rw [List.take_length] at h1
 have := h.len
 omega
set_option maxHeartbeats 8000000 in
theorem wtotal_any (A : Option Addr) (cap : Nat) (L : List Lt) (w : World) (h : LtIn w A cap L) (hl : Land oneB L) : Calls Tryz.prog 26 #[.slice A L.length cap] w (InIs (totL L) w) := by
 have HL := Lib.hid h; clear h
 have hlen := hl.len
 have HAR := Lib.hid (fun j (hj : j < L.length) A c w' (h : RIn w' A c L[j].ar) => garea_yes A c L[j].ar w' h (oneB_reg (hl.ok _ (List.getElem_mem hj)).one))
 have HBD := Lib.hid (tot_bd hl)
 have HAB := Lib.hid (fun j (hj : j < L.length) => And.intro (areaL_bd L[j].ar).1 (form_grid (forms_of hl _ (List.getElem_mem hj)).1))
 clear hl
 go_enter Tryz.func26, Tryz.ntmps26
 go_wp2_with fail
 go_loopw [3, 4] (fun n i wr => ∃ (k : Nat), k ≤ L.length ∧ i = .int .i64 k ∧ n = .int .i64 (totL (L.take k)) ∧ Hid (Below w.heap.size w wr)) (fun _ i _ => L.length - (intOf i).toNat)
 case atStart => exact ⟨0, Nat.zero_le _, rfl, rfl, Lib.hid (Below.refl _ _)⟩
 case round =>
  obtain ⟨k, hk, rfl, rfl, HB⟩ := hrel
  by_cases hlt : k < L.length
  ·obtain ⟨b, o, p, rfl, hb, hc, hi⟩ := HL.out.at_ hlt
   obtain ⟨x0, x1, x2, x3⟩ := hc.below hb HB.out
   have n0 : (0 : Int) ≤ (k : Int) := by omega
   have n1 : (k : Int) < (L.length : Int) := by omega
   have HA := Lib.hid (fun w' (hb : Below w.heap.size w w') => HAR.out k hlt p.A p.c w' (hi.ar.below hb))
   have HT := Lib.hid (tot_take hlt)
   have b1 := HBD.out k
   have b2 := HAB.out k hlt
   clear hc hi
   generalize L[k] = u at *
   generalize areaL u.ar = s at *
   generalize totL (L.take k) = t at *
   have hs : -9223372036854775808 ≤ t + s ∧ t + s ≤ 9223372036854775807 := by omega
   go_wp2_with fail
   refine (HA.out _ HB.out).mono ?_
   rintro e w2 ⟨rfl, hb2⟩
   have HB2 := Lib.hid (HB.out.trans (hb2.mono HB.out.size))
   clear hb2 HB HA
   go_wp2_with fail
   go_roundw
   case rel => exact ⟨k + 1, by omega, by go_num, by rw [HT.out], HB2⟩
   case measure => simp [intOf]; omega
  ·obtain rfl : k = L.length := by omega
   rw [List.take_length]
   go_wp2_with fail
   go_ret
   exact ⟨rfl, HB.out⟩
end Go.Proofs.YtngddecpfhlilaaGreat
namespace Go.Proofs.YtngddecpfhlilaaGreat
theorem splitM_none {L : List Lt} {k : Int} {cut : List Rc} {a b : Int} (h : (splitM landB rgB oneB L k cut a b).2 ≠ 0) : (splitM landB rgB oneB L k cut a b).1 = [] := by
 unfold splitM at h ⊢
 split
 ·rfl
 ·next c1 =>
  rw [if_neg c1] at h
  split
  ·rfl
  ·next t e =>
   rw [e] at h
   simp only at h
   split
   ·rfl
   ·next c2 =>
    rw [if_neg c2] at h
    split
    ·rfl
    ·next c3 =>
     rw [if_neg c3] at h
     split
     ·rfl
     ·next c4 =>
      rw [if_neg c4] at h
      split
      ·rfl
      ·next c5 =>
       rw [if_neg c5] at h
       exact absurd rfl h
theorem sort_two {a b : Int} (h : a ≠ b) : sortS [b, a] = [a, b] ∨ sortS [b, a] = [b, a] := by
 by_cases c : a < b
 ·exact .inl (asc_eq (sortS_is _).1 (show Asc [a, b] from ⟨c, trivial⟩) (fun z => by rw [(sortS_is _).2]; simp [or_comm]))
 ·exact .inr (asc_eq (sortS_is _).1 (show Asc [b, a] from ⟨by omega, trivial⟩) (fun z => by rw [(sortS_is _).2]))
theorem findAll_two {L : List Lt} {p q : Int} {P Q : Lt} (h1 : findL L p = some P) (h2 : findL L q = some Q) : findAll L [p, q] = some [P, Q] := by
 unfold findAll findAll findAll
 rw [h1, h2]
theorem cells_two (P Q : Lt) : cellsR [P, Q] = P.ar ++ Q.ar := by simp [cellsR]
theorem hasL_or (l m : List Rc) (x y : Int) : HasL (l ++ m) x y ↔ HasL l x y ∨ HasL m x y := by unfold HasL; simp only [List.mem_append, or_and_right, exists_or]
structure Bk13 (L : List Lt) (id : Int) (cut : List Rc) (a b : Int) (M : List Lt) (t u v : Lt) : Prop where
 ft : findL L id = some t
 fu : findL M a = some u
 fv : findL M b = some v
 all : opR or u.ar v.ar = (t.ar, 0)
 ou : u.ow = t.ow
 ov : v.ow = t.ow
 len : M.length = L.length + 1
 land : Land oneB M
 er : ∀ k, (joinG M (sortS [b, a]) 2 k).2 ≠ 0 → (joinG M (sortS [b, a]) 2 k).2 = 5 ∨ ((joinG M (sortS [b, a]) 2 k).2 = 1 ∧ (k < 1 ∨ 1073741824 < k))
 ok : ∀ k, (joinG M (sortS [b, a]) 2 k).2 = 0 → ∃ w, findL (joinG M (sortS [b, a]) 2 k).1 k = some w ∧ w.ar = t.ar ∧ w.ow = t.ow ∧ w.fr.length = t.fr.length + 3 ∧ t.id ∈ w.fr ∧ a ∈ w.fr ∧ b ∈ w.fr ∧
  (joinG M (sortS [b, a]) 2 k).1.length = L.length ∧ ∀ i (h : i < L.length), L[i].id ≠ id → findL (joinG M (sortS [b, a]) 2 k).1 L[i].id = some L[i]
theorem back_pure {L : List Lt} {id : Int} {cut : List Rc} {a b : Int} (hz : (splitM landB rgB oneB L id cut a b).2 = 0) :
    ∃ t u v, Bk13 L id cut a b (splitM landB rgB oneB L id cut a b).1 t u v := by
  obtain ⟨h, t, ht, s, hr⟩ := splitM_ok par13 hz
  rw [hr]
  subst ht
  have hM := h.chg (split_chg h s)
  have hlen := split_len h.asc s.mem cut a b
  have hf := forms_of h t s.mem
  generalize hMM : chL [t.id] (splitN t cut a b) L = M at *
  have hmem : ∀ x, x ∈ M ↔ x ∈ splitN t cut a b ∨ x ∈ L ∧ x.id ∉ [t.id] := fun x => by rw [← hMM]; exact mem_chL
  have hu : (⟨a, t.ow, formO and t.ar cut, insS t.id t.fr⟩ : Lt) ∈ M := (hmem _).2 (.inl (by simp [splitN]))
  have hv : (⟨b, t.ow, formO andnot t.ar cut, insS t.id t.fr⟩ : Lt) ∈ M := (hmem _).2 (.inl (by simp [splitN]))
  have g1 := oneB_reg s.one1
  have g2 := oneB_reg s.one2
  have gt := oneB_reg (h.ok t s.mem).one
  have hc : ∀ x y, (HasL (formO and t.ar cut) x y ∨ HasL (formO andnot t.ar cut) x y) ↔ HasL t.ar x y := fun x y => by
    rw [has_and s.ar s.cok, has_andnot s.ar s.cok]
    constructor
    · rintro (k | k)
      · exact k.1
      · exact k.1
    · intro k
      by_cases c : HasL cut x y
      · exact .inl ⟨k, c⟩
      · exact .inr ⟨k, c⟩
  have hta : ∀ u ∈ L, u.id ≠ a := fun u hu e => s.ta ⟨u, hu, .inl e⟩
  have htb : ∀ u ∈ L, u.id ≠ b := fun u hu e => s.tb ⟨u, hu, .inl e⟩
  have fu := find_of hM.asc hu
  have fv := find_of hM.asc hv
  simp only at fu fv
  have hG : ∀ n, n ∈ sortS [b, a] ↔ n = a ∨ n = b := fun n => by rw [(sortS_is _).2]; simp [or_comm]
  have hform : ∀ l : List Rc, (∀ r ∈ l, ROk r) → (∀ x y, HasL l x y ↔ HasL t.ar x y) → formL l = t.ar := fun l hl hx => form_val1 hl hf.1 (fun x y => (hx x y).symm)
  have hok1 := form_ok g1.1
  have hok2 := form_ok g2.1
  refine ⟨t, _, _, ⟨find_of h.asc s.mem, fu, fv, ?_, rfl, rfl, hlen, hM, fun k hk => ?_, fun k hk => ?_⟩⟩
  · rw [op_yes or g1 g2]
    have : formO or (formO and t.ar cut) (formO andnot t.ar cut) = t.ar := form_val rfl hok1 hok2 hf.1 (fun x y => by
      rw [Bool.or_eq_true, has_iff, has_iff]; exact (hc x y).symm)
    rw [this]
    unfold capR
    rw [if_pos gt.2]
  · unfold joinG at hk ⊢
    have e1 : landB M = true := (landB_is M).2 hM
    have e2 : decide ((sortS [b, a]).length = 2) = true := by
      rcases sort_two s.ne with e | e <;> rw [e] <;> rfl
    rw [e1, e2] at hk ⊢
    simp only [Bool.true_and, Bool.and_true] at hk ⊢
    have e3 : decide (2 ≤ 2) = true := rfl
    rw [e3] at hk ⊢
    simp only [Bool.true_and] at hk ⊢
    cases hn : nB k with
    | false =>
      refine .inr ⟨by simp, ?_⟩
      unfold nB at hn
      simp only [Bool.and_eq_false_iff, decide_eq_false_iff_not] at hn
      omega
    | true =>
      rw [hn] at hk
      rw [if_neg (by simp)] at hk ⊢
      have key : ∀ P Q : Lt, findAll M (sortS [b, a]) = some [P, Q] → (P.ow = t.ow ∧ Q.ow = t.ow) → formL (cellsR [P, Q]) = t.ar →
          (match findAll M (sortS [b, a]) with
            | none => (([] : List Lt), (4 : Int))
            | some [] => ([], 4)
            | some (t :: ts) =>
              if takB M k = true then ([], 5)
              else if ((t :: ts).any fun u => decide (u.ow ≠ t.ow)) = true then ([], 24)
              else if 200 < (formL (cellsR (t :: ts))).length then ([], 6)
              else if oneB (formL (cellsR (t :: ts))) = false then ([], 12)
              else (chL (sortS [b, a]) [⟨k, t.ow, formL (cellsR (t :: ts)), lineS (t :: ts)⟩] M, 0)).2 = 5 ∨ (match findAll M (sortS [b, a]) with
            | none => (([] : List Lt), (4 : Int))
            | some [] => ([], 4)
            | some (t :: ts) =>
              if takB M k = true then ([], 5)
              else if ((t :: ts).any fun u => decide (u.ow ≠ t.ow)) = true then ([], 24)
              else if 200 < (formL (cellsR (t :: ts))).length then ([], 6)
              else if oneB (formL (cellsR (t :: ts))) = false then ([], 12)
              else (chL (sortS [b, a]) [⟨k, t.ow, formL (cellsR (t :: ts)), lineS (t :: ts)⟩] M, 0)).2 = 0 := fun P Q q1 q2 q3 => by
        rw [q1]
        simp only
        by_cases c : takB M k = true
        · rw [if_pos c]; exact .inl rfl
        rw [if_neg c]
        have q4 : ([P, Q].any fun u => decide (u.ow ≠ P.ow)) = false := by simp [q2.1, q2.2]
        rw [q4, q3, if_neg (by simp), if_neg (by have := gt.2; omega), (h.ok t s.mem).one, if_neg (by simp)]
        exact .inr rfl
      have hpq : findAll M (sortS [b, a]) = some [⟨a, t.ow, formO and t.ar cut, insS t.id t.fr⟩, ⟨b, t.ow, formO andnot t.ar cut, insS t.id t.fr⟩] ∨ findAll M (sortS [b, a]) = some [⟨b, t.ow, formO andnot t.ar cut, insS t.id t.fr⟩, ⟨a, t.ow, formO and t.ar cut, insS t.id t.fr⟩] := by
        rcases sort_two s.ne with e | e
        · rw [e]; exact .inl (findAll_two fu fv)
        · rw [e]; exact .inr (findAll_two fv fu)
      have hres : (joinG M (sortS [b, a]) 2 k).2 = 5 ∨ (joinG M (sortS [b, a]) 2 k).2 = 0 := by
        unfold joinG
        rw [e1, e2, hn]
        rw [if_neg (by simp)]
        rcases hpq with e | e
        · refine key _ _ e ⟨rfl, rfl⟩ (hform _ (fun r hr => ?_) (fun x y => ?_))
          · rw [cells_two] at hr
            rcases List.mem_append.1 hr with k | k
            · exact hok1 r k
            · exact hok2 r k
          · rw [cells_two, hasL_or]; exact hc x y
        · refine key _ _ e ⟨rfl, rfl⟩ (hform _ (fun r hr => ?_) (fun x y => ?_))
          · rw [cells_two] at hr
            rcases List.mem_append.1 hr with k | k
            · exact hok2 r k
            · exact hok1 r k
          · rw [cells_two, hasL_or, or_comm]; exact hc x y
      unfold joinG at hres
      rw [e1, e2, hn, if_neg (by simp)] at hres
      rcases hres with e | e
      · exact .inl e
      · exact absurd e hk
  · have hl2 : [b, a].length = 2 := rfl
    rw [← hl2] at hk ⊢
    obtain ⟨_, w, hw, j, hwf, how, hres⟩ := joinG_ok hk
    rw [hres]
    have hLJ := hM.chg (join_chg hM j).1
    have hww : w ∈ chL (sortS [b, a]) [w] M := mem_chL.2 (.inl (by simp))
    have hnew : ∀ u ∈ L, u.id ≠ t.id → u.id ≠ w.id := fun u hu hne e => j.new ⟨u, (hmem u).2 (.inr ⟨hu, by simpa using hne⟩), .inl e⟩
    have hback : chL (sortS [b, a]) [w] M = chL [t.id] [w] L := by
      rw [← hMM]
      exact back_land h s hG hnew
    have hin : ∀ u ∈ M, u.id ∈ sortS [b, a] → u ∈ splitN t cut a b := fun u hu hi => by
      rcases (hmem u).1 hu with k | ⟨k, _⟩
      · exact k
      · rcases (hG _).1 hi with e | e
        · exact absurd e (hta u k)
        · exact absurd e (htb u k)
    have hfr : ∀ n, n ∈ w.fr ↔ n = a ∨ n = b ∨ n = t.id ∨ n ∈ t.fr := fun n => by
      rw [j.fr n]
      constructor
      · rintro ⟨u, hu, hi, k⟩
        have k2 := hin u hu hi
        simp only [splitN, List.mem_cons, List.not_mem_nil, or_false] at k2
        rcases k2 with e | e <;> subst e <;> rcases k with k | k
        · exact .inl k.symm
        · exact .inr (.inr ((insS_mem _ _ _).1 k))
        · exact .inr (.inl k.symm)
        · exact .inr (.inr ((insS_mem _ _ _).1 k))
      · rintro (e | e | e)
        · exact ⟨_, hu, (hG a).2 (.inl rfl), .inl e.symm⟩
        · exact ⟨_, hv, (hG b).2 (.inr rfl), .inl e.symm⟩
        · exact ⟨_, hu, (hG a).2 (.inl rfl), .inr ((insS_mem _ _ _).2 e)⟩
    refine ⟨w, by rw [← hw]; exact find_of hLJ.asc hww, ?_, (how _ hu (by simp)).symm, ?_, (hfr _).2 (.inr (.inr (.inl rfl))), (hfr _).2 (.inl rfl), (hfr _).2 (.inr (.inl rfl)), by rw [hback]; exact back_len h.asc s.mem, fun i hi hne => ?_⟩
    · refine form_eq hwf hf.1 (fun x y => ?_)
      rw [j.ar x y, ← hc x y]
      constructor
      · rintro ⟨u, hu2, hi, k⟩
        have k2 := hin u hu2 hi
        simp only [splitN, List.mem_cons, List.not_mem_nil, or_false] at k2
        rcases k2 with e | e <;> subst e
        · exact .inl k
        · exact .inr k
      · rintro (k | k)
        · exact ⟨_, hu, (hG a).2 (.inl rfl), k⟩
        · exact ⟨_, hv, (hG b).2 (.inr rfl), k⟩
    · exact back_fr (h.ok t s.mem).fr.1 j.ok.fr.1 hfr (fun c => s.ta ⟨t, s.mem, .inr c⟩) (fun c => s.tb ⟨t, s.mem, .inr c⟩) (h.fr t s.mem t s.mem) s.ne (fun e => hta t s.mem e.symm) (fun e => htb t s.mem e.symm)
    · refine find_of hLJ.asc ?_
      rw [hback]
      exact mem_chL.2 (.inr ⟨List.getElem_mem hi, by simpa using hne⟩)
end Go.Proofs.YtngddecpfhlilaaGreat
namespace Go.Proofs.YtngddecpfhlilaaGreat
open Go.RowKit
theorem OpOI.fut {w : World} {t : Op13} {p : LtP} (h : OpOI w t p) : Fut w (fun w' => OpOI w' t p) := fun w' hb => h.below hb
theorem LtI.fut {w : World} {t : Lt} {p : LtP} (h : LtI w t p) : Fut w (fun w' => LtI w' t p) := fun w' hb => h.below hb
def LtB (g : Nat) (t : Lt) (PA : Option Addr) (PC : Nat) (PB : Option Addr) (PD : Nat) (w : World) : Prop := w.cell? ⟨g, 0, none⟩ = some (.int .i64 t.id) ∧ w.cell? ⟨g, 1, none⟩ = some (.int .i64 t.ow) ∧ w.cell? ⟨g, 2, none⟩ = some (.slice PA t.ar.length PC) ∧ w.cell? ⟨g, 3, none⟩ = some (.slice PB t.fr.length PD) ∧ g < w.heap.size
theorem LtB.go {g : Nat} {t : Lt} {PA : Option Addr} {PC : Nat} {PB : Option Addr} {PD : Nat} {w w' : World} (h : LtB g t PA PC PB PD w) (hb : Below w.heap.size w w') : LtB g t PA PC PB PD w' := by
 obtain ⟨h0, h1, h2, h3, hl⟩ := h
 have wc := fun k => hb.cell (p := ⟨g, k, none⟩) hl
 exact ⟨(wc _).trans h0, (wc _).trans h1, (wc _).trans h2, (wc _).trans h3, Nat.lt_of_lt_of_le hl hb.size⟩
theorem LtB.fut {g : Nat} {t : Lt} {PA : Option Addr} {PC : Nat} {PB : Option Addr} {PD : Nat} {w : World} (h : LtB g t PA PC PB PD w) : Fut w (LtB g t PA PC PB PD) := fun w' hb => h.go hb
theorem LtB.new (w : World) (t : Lt) (PA : Option Addr) (PC : Nat) (PB : Option Addr) (PD : Nat) (k : Nat) (hk : k = w.heap.size) : LtB k t PA PC PB PD (w.alloc (.cells #[.int .i64 t.id, .int .i64 t.ow, .slice PA t.ar.length PC, .slice PB t.fr.length PD] 40)) := by
 subst hk
 have h := heap_alloc_new w (.cells #[.int .i64 t.id, .int .i64 t.ow, .slice PA t.ar.length PC, .slice PB t.fr.length PD] 40)
 exact ⟨by rw [Lib.cell_of_heap h]; rfl, by rw [Lib.cell_of_heap h]; rfl, by rw [Lib.cell_of_heap h]; rfl, by rw [Lib.cell_of_heap h]; rfl, by rw [World.size_alloc]; omega⟩
def FdS (t : Lt) (w : World) (e : Ending) (w' : World) : Prop := ∃ (PA : Option Addr) (PC : Nat) (PB : Option Addr) (PD : Nat), e = .returned (.tuple #[.agg #[.int .i64 t.id, .int .i64 t.ow, .slice PA t.ar.length PC, .slice PB t.fr.length PD], .bool true]) ∧ LtI w' t ⟨PA, PC, PB, PD⟩ ∧ Below w.heap.size w w'
theorem findS_any (A : Option Addr) (cap : Nat) (L : List Lt) (x : Int) (t : Lt) (w : World) (h : LtIn w A cap L) (hf : findL L x = some t) : Calls Tryz.prog 22 #[.slice A L.length cap, .int .i64 x] w (FdS t w) := by
 have h1 := find13_any A cap L x w h
 rw [hf] at h1
 refine h1.mono ?_
 rintro e w' ⟨p, rfl, hi, hb⟩
 exact ⟨p.A, p.c, p.B, p.d, rfl, hi, hb⟩
theorem gun13_any (A1 : Option Addr) (c1 : Nat) (A2 : Option Addr) (c2 : Nat) (a b : List Rc) (w : World) (ha : RIn w A1 c1 a) (hb : RIn w A2 c2 b) (hl : (opR or a b).1.length ≤ 200) : Calls Tryz.prog 33 #[.slice A1 a.length c1, .slice A2 b.length c2] w (OfR13 (opR or a b) w) := by
 refine (gunion_any A1 c1 A2 c2 a b w ha hb).mono ?_
 rintro e w' ⟨v, rfl, ho, hb⟩
 obtain ⟨B, c, rfl, _⟩ := own_parts ho
 exact ⟨B, c, rfl, own_rin ho (by omega), own_none ho, hb⟩
theorem split_ids {L : List Lt} {id : Int} {ar : List Rc} {a b : Int} (hl : Land oneB L) (hz : (splitM landB rgB oneB L id (ofR ar).1 a b).2 = 0) : (idsL (splitM landB rgB oneB L id (ofR ar).1 a b).1).length ≤ 3 * (idsL L).length + 4 := by
 have e : doR L ⟨1, id, a, b, 0, ar, []⟩ = splitM landB rgB oneB L id (ofR ar).1 a b := by unfold doR; rw [if_neg (show ¬ (1 : Int) = 0 by decide), if_pos rfl]
 have h1 := do_ids (o := ⟨1, id, a, b, 0, ar, []⟩) hl
 rw [doM_res (by rw [doM_code, e]; exact hz), e] at h1
 exact h1
theorem LtIn.sub {w : World} {b o c : Nat} {L : List Lt} (h : LtIn w (some ⟨b, o, none⟩) c L) {m : Nat} (hm : m < L.length) : LtIn w (some ⟨b, o + m * 4, none⟩) (c - m) [L[m]] := by
 have h1 := h.room
 have h2 := h.room2
 refine ⟨fun _ => ?_, by simp, by simp; omega, by omega⟩
 obtain ⟨b', off, e, hl, hc⟩ := h.row (by omega)
 simp only [Option.some.injEq, Addr.mk.injEq, and_true] at e
 obtain ⟨rfl, rfl⟩ := e
 refine ⟨b, o + m * 4, rfl, hl, fun j hj => ?_⟩
 obtain rfl : j = 0 := by simpa using hj
 obtain ⟨p, hp, hi⟩ := hc m hm
 exact ⟨p, by simpa using hp, hi⟩
theorem wrap_m13 {z : Int} (h : 0 ≤ z ∧ z ≤ 9223372036854775807) : IntKind.i64.wrap z = z := by
 rw [IntKind.wrap_i64]; omega
theorem tkEA {v : Value} {P : Program} {ops : Array Oper} {Q : Exit → Act → World → Prop} {md : Region.Mode} {S : World → Prop} {i : Nat} {oi : Oper} {fuel : Nat} {listed : Array Bool} {a : Act} {w : World} (hi : ops[i]? = some oi) (h : wpAnyH P md ops Q S fuel (listed.setIfInBounds i true) (a.put oi.dst v) w) (hy : ∀ w, S w → (execOp a.eval oi).run P w = .ok (.value v) w := by (intro w hSw; (try dsimp only at hSw); go_simp); try with_reducible rfl) (hs : Region.noSelect ops = true := by kernel_rfl) (hf : Region.free md ops listed i = true := by kernel_rfl) (hr : (Region.ready md ops listed).contains i = true := by kernel_rfl) (hQ : ∀ c a w, Q (.panic c) (a.put oi.dst v) w → Q (.panic c) a w := by exact fun _ _ _ h => h) (hg : Region.wanted oi (yielded ops a.tmps) = true := by rfl) (hS : S w := by assumption) : wpAnyH P md ops Q S (fuel + 1) listed a w :=
 wpAnyH_take hi hs hf hr hQ (Or.inl ⟨hg, hy⟩) hS h
theorem sxEA : (∀ (a : Act) (v : Value), a.put none v = a) ∧ (∀ (a : Act) (d : Tmp) (v : Value), a.put (some d) v = { a with tmps := a.tmps.setIfInBounds d v }) ∧ (∀ {α : Type} (l : List α) (i : Nat) (x : α), l.toArray.setIfInBounds i x = (l.set i x).toArray) ∧ (∀ {α : Type} (l : List α) (x y : α), (x :: l).set 0 y = y :: l) ∧ (∀ {α : Type} (l : List α) (x y : α) (n : Nat), (x :: l).set (n + 1) y = x :: l.set n y) :=
 ⟨fun _ _ => rfl, fun _ _ _ => rfl, fun _ _ _ => List.setIfInBounds_toArray .., fun _ _ _ => rfl, fun _ _ _ _ => rfl⟩
def Pk13 (b o go gx : Nat) (sid oid sow : Int) (v1 v2 : Value) (w' : World) : Prop := w'.cell? ⟨b, o, none⟩ = some (.int .i64 sid) ∧ w'.cell? ⟨go, 1, none⟩ = some (.int .i64 oid) ∧ w'.cell? ⟨gx, 0, none⟩ = some (.int .i64 sid) ∧ w'.cell? ⟨gx, 1, none⟩ = some (.int .i64 sow) ∧ w'.cell? ⟨gx, 2, none⟩ = some v1 ∧ w'.cell? ⟨gx, 3, none⟩ = some v2 ∧ b < w'.heap.size ∧ go < w'.heap.size ∧ gx < w'.heap.size
theorem Pk13.go {b o go gx : Nat} {sid oid sow : Int} {v1 v2 : Value} {w w' : World} (h : Pk13 b o go gx sid oid sow v1 v2 w) (hb : Below w.heap.size w w') : Pk13 b o go gx sid oid sow v1 v2 w' := by
 obtain ⟨h0, h1, h2, h3, h4, h5, l0, l1, l2⟩ := h
 exact ⟨(hb.cell (p := ⟨b, o, none⟩) l0).trans h0, (hb.cell (p := ⟨go, 1, none⟩) l1).trans h1, (hb.cell (p := ⟨gx, 0, none⟩) l2).trans h2, (hb.cell (p := ⟨gx, 1, none⟩) l2).trans h3, (hb.cell (p := ⟨gx, 2, none⟩) l2).trans h4, (hb.cell (p := ⟨gx, 3, none⟩) l2).trans h5, Nat.lt_of_lt_of_le l0 hb.size, Nat.lt_of_lt_of_le l1 hb.size, Nat.lt_of_lt_of_le l2 hb.size⟩
set_option maxHeartbeats 64000000 in
theorem back_any (A : Option Addr) (cap : Nat) (O : List Op13) (o : Op13) (p : LtP) (id : Int) (w : World) (h : OpO w A cap O) (ho : OpOI w o p) :
    Calls Tryz.prog 6 #[.slice A O.length cap, opv o p, .int .i64 id] w (BlIs true w) := by
  have HSM := Lib.hid (fun w' => small13_any w')
  have HFW := Lib.hid (fun w' (h : OpO w' A cap O) => mfewops_any A cap O w' h)
  have K := Lib.hid (((Kp.start w).add (Below.refl _ _) h.fut).add (Below.refl _ _) ho.fut)
  replace K := Lib.hid (K.out.add ((Below.refl _ _).alloc (Nat.le_refl _) (.cells #[.int .i64 o.k, .int .i64 o.id, .int .i64 o.a, .int .i64 o.b, .int .i64 o.n, .slice p.A o.ar.length p.c, .slice p.B o.ids.length p.d] 33)) (OpAt.new w o p _ rfl).fut)
  have HFL := Lib.hid (fun (hf : fewOB O = true) => fewO_len hf)
  have hroom := h.room
  have hroom2 := h.room2
  have hal := ho.al
  have hac := ho.ac
  clear h ho
  generalize fewOB O = fw at *
  unfold opv
  obtain ⟨k, oid, a9, b9, n9, ar, ids⟩ := o
  obtain ⟨PA, PC, PB, PD⟩ := p
  simp only at hal hac K ⊢
  go_enter Tryz.func6, Tryz.ntmps6
  go_wp2_with fail
  generalize hw0 : w.alloc (.cells #[.int .i64 k, .int .i64 oid, .int .i64 a9, .int .i64 b9, .int .i64 n9, .slice PA ar.length PC, .slice PB ids.length PD] 33) = w0 at *
  clear hw0
  generalize hgo : w.heap.size = go at *
  clear hgo
  refine (HSM.out _).mono ?_
  rintro e w1 ⟨rfl, hb⟩
  replace K := Lib.hid (K.out.go hb)
  clear hb HSM
  go_wp2_with fail
  refine (HFW.out _ (K.out.nth 2 rfl)).mono ?_
  rintro e w2 ⟨rfl, hb⟩
  replace K := Lib.hid (K.out.go hb)
  clear hb HFW
  obtain ⟨y0, y1, y2, y3, y4, y5, y6, yl⟩ := (K.out.nth 0 rfl)
  simp only at y0 y1 y2 y3 y4 y5 y6
  cases fw
  · go_wp2_with fail
    go_ret
    exact ⟨rfl, K.out.2⟩
  by_cases hbig : 10 < ar.length
  · have s0 : (10 : Int) < (ar.length : Int) := by omega
    go_wp2_with fail
    go_ret
    exact ⟨rfl, K.out.2⟩
  have s0 : ¬ (10 : Int) < (ar.length : Int) := by omega
  obtain ⟨hl12, hl⟩ := HFL.out rfl
  have HLS := Lib.hid hl
  clear hl HFL
  go_wp2_with fail
  clear y0 y1 y2 y3 y4 y5 y6 yl s0
  go_loopw [8, 9] (fun v i wr => ∃ (j : Nat) (B : Option Addr) (c : Nat) (L : List Lt), j ≤ O.length ∧ i = .int .i64 j ∧ v = .slice B L.length c ∧ Hid (Land oneB L) ∧ Hid ((idsL L).length + 2 ≤ 2 * 3 ^ j) ∧ Hid (Kp [fun w' => LtIn w' B c L, OpAt go ⟨k, oid, a9, b9, n9, ar, ids⟩ ⟨PA, PC, PB, PD⟩, fun w' => OpOI w' ⟨k, oid, a9, b9, n9, ar, ids⟩ ⟨PA, PC, PB, PD⟩, fun w' => OpO w' A cap O] w wr)) (fun _ i _ => O.length - (intOf i).toNat)
  case atStart => exact ⟨0, none, 0, [], Nat.zero_le _, rfl, rfl, Lib.hid (land_nil _), Lib.hid (by simp [idsL]), Lib.hid (K.out.add (Below.refl _ _) (LtIn.nil _).fut)⟩
  case round =>
    clear K
    obtain ⟨j, B, c, L, hj, rfl, rfl, HLA, HID, K⟩ := hrel
    have hlL := (K.out.nth 0 rfl).len
    have hid9 : (idsL L).length ≤ 2000000 := by have h1 := HID.out; have h2 : 3 ^ j ≤ 3 ^ 12 := Nat.pow_le_pow_right (by omega) (by omega); have h3 : 3 ^ 12 = 531441 := (by decide); omega
    by_cases hlt : j < O.length
    case pos =>
      obtain ⟨b, o9, p, rfl, hb, hc, hi⟩ := (K.out.nth 3 rfl).at_ hlt
      have hoi := hi.few (HLS.out _ (List.getElem_mem hlt)).1 (by have := (HLS.out _ (List.getElem_mem hlt)).2; omega)
      replace K := Lib.hid (K.out.add (Below.refl _ _) hoi.fut)
      clear hi hoi
      have n0 : (0 : Int) ≤ (j : Int) := by omega
      have n1 : (j : Int) < (O.length : Int) := by omega
      have HDO := Lib.hid (fun w' (h : LtIn w' B c L) (ho : OpI w' O[j] p) => do_any B c L O[j] p w' h ho (by omega))
      have HMA := Lib.hid (do_land (o := O[j]) HLA.out)
      have HMI : Hid ((idsL (doM L O[j]).1).length + 2 ≤ 2 * 3 ^ (j + 1)) := Lib.hid (by have h1 := HID.out; have h2 := do_ids (o := O[j]) HLA.out; rw [Nat.pow_succ]; omega)
      obtain ⟨x0, x1, x2, x3, x4, x5, x6⟩ := hc
      clear HID hid9
      generalize O[j] = o at *
      unfold opv at HDO
      obtain ⟨k1, id1, a1, b1, nn1, ar1, ids1⟩ := o
      obtain ⟨PA1, PC1, PB1, PD1⟩ := p
      simp only at x0 x1 x2 x3 x4 x5 x6 HDO
      generalize hX : doM L ⟨k1, id1, a1, b1, nn1, ar1, ids1⟩ = X at *
      clear hX
      obtain ⟨M, er⟩ := X
      simp only at HMA HMI
      go_wp2_with fail
      refine (HDO.out _ (K.out.nth 1 rfl) (K.out.nth 0 rfl)).mono ?_
      rintro e w5 ⟨B3, c3, rfl, hr3, hb⟩
      replace K := Lib.hid (K.out.add hb hr3.fut)
      clear hb hr3 HDO x0 x1 x2 x3 x4 x5 x6
      simp only at K ⊢
      go_wp2_with fail
      go_roundw
      case rel => exact ⟨j + 1, B3, c3, M, by omega, by go_num, rfl, HMA, HMI, Lib.hid ⟨fun P hP => by
          simp only [List.mem_cons, List.not_mem_nil, or_false] at hP
          rcases hP with rfl | rfl | rfl | rfl
          · exact K.out.1 _ List.mem_cons_self
          · exact K.out.1 _ (List.mem_cons_of_mem _ (List.mem_cons_of_mem _ (List.mem_cons_of_mem _ List.mem_cons_self)))
          · exact K.out.1 _ (List.mem_cons_of_mem _ (List.mem_cons_of_mem _ (List.mem_cons_of_mem _ (List.mem_cons_of_mem _ List.mem_cons_self))))
          · exact K.out.1 _ (List.mem_cons_of_mem _ (List.mem_cons_of_mem _ (List.mem_cons_of_mem _ (List.mem_cons_of_mem _ (List.mem_cons_of_mem _ List.mem_cons_self))))), K.out.2⟩⟩
      case measure => simp [intOf]; omega
    have s0 : ¬ (j : Int) < (O.length : Int) := by omega
    clear HID HLS hlt hj
    have HRA := Lib.hid (show RIn wr PA PC ar from ⟨(K.out.nth 2 rfl).ar, by omega, hal, hac⟩)
    have HOF := Lib.hid (fun w' (h : RIn w' PA PC ar) => gof13_any PA PC ar w' h)
    have HSP := Lib.hid (fun A' c' w' (h : LtIn w' B c L) (h2 : RIn w' A' c' (ofR ar).1) => split13_any B c L oid A' c' (ofR ar).1 a9 b9 w' h h2)
    have HNO := Lib.hid (fun (h : (splitM landB rgB oneB L oid (ofR ar).1 a9 b9).2 ≠ 0) => splitM_none h)
    have HBK := Lib.hid (fun (h : (splitM landB rgB oneB L oid (ofR ar).1 a9 b9).2 = 0) => back_pure h)
    have HIM := Lib.hid (fun (h : (splitM landB rgB oneB L oid (ofR ar).1 a9 b9).2 = 0) => split_ids HLA.out h)
    generalize hR : ofR ar = R at *
    clear hR
    obtain ⟨R, rc⟩ := R
    simp only at HSP HNO HBK HIM
    generalize hX : splitM landB rgB oneB L oid R a9 b9 = X at *
    clear hX
    obtain ⟨M, er⟩ := X
    simp only at HNO HBK HIM
    replace K := Lib.hid (K.out.add (Below.refl _ _) HRA.out.fut)
    clear HRA
    obtain ⟨y0, y1, y2, y3, y4, y5, y6, yl⟩ := (K.out.nth 2 rfl)
    simp only at y0 y1 y2 y3 y4 y5 y6
    go_wp2_with fail
    refine (HOF.out _ (K.out.nth 0 rfl)).mono ?_
    rintro e w6 ⟨A9, c9, rfl, hr9, _, hb⟩
    replace K := Lib.hid (K.out.add hb hr9.fut)
    clear hb hr9 HOF y0 y1 y2 y3 y4 y5 y6 yl
    simp only
    obtain ⟨y0, y1, y2, y3, y4, y5, y6, yl⟩ := (K.out.nth 3 rfl)
    simp only at y0 y1 y2 y3 y4 y5 y6
    go_wp2_with fail
    refine (HSP.out _ _ _ (K.out.nth 2 rfl) (K.out.nth 0 rfl)).mono ?_
    rintro e w7 ⟨B3, c3, rfl, hr3, hb⟩
    replace K := Lib.hid (K.out.add hb hr3.fut)
    clear hb HSP y0 y1 y2 y3 y4 y5 y6 yl
    simp only at hr3 K ⊢
    have hlM := hr3.len
    have hrM := hr3.room
    have hrM2 := hr3.room2
    clear hr3
    by_cases hz : er = 0
    case neg =>
      have g1 : (er != (0 : Int)) = true := by simpa using hz
      have e1 := HNO.out hz
      subst e1
      clear HNO HBK HIM hz
      simp only [List.length_nil] at *
      go_wp2_with fail
      go_ret
      exact ⟨rfl, K.out.2⟩
    subst hz
    have hidM := HIM.out rfl
    obtain ⟨t, u, v, HB⟩ := HBK.out rfl
    have HB9 := Lib.hid HB
    clear HB HNO HBK HIM
    have HF1 := Lib.hid (fun w' (h : LtIn w' B c L) => findS_any B c L oid t w' h HB9.out.ft)
    have HF2 := Lib.hid (fun w' (h : LtIn w' B3 c3 M) => findS_any B3 c3 M a9 u w' h HB9.out.fu)
    have HF3 := Lib.hid (fun w' (h : LtIn w' B3 c3 M) => findS_any B3 c3 M b9 v w' h HB9.out.fv)
    have htl : t.ar.length ≤ 200 := (oneB_reg (HLA.out.ok t (find_mem HB9.out.ft).1).one).2
    have HUN := Lib.hid (fun A1 c1 A2 c2 w' (h : RIn w' A1 c1 u.ar) (h2 : RIn w' A2 c2 v.ar) => gun13_any A1 c1 A2 c2 u.ar v.ar w' h h2 (by rw [HB9.out.all]; exact htl))
    rw [HB9.out.all] at HUN
    have HJN := Lib.hid (fun g w' (h : LtIn w' B3 c3 M) (h2 : NIn w' (some ⟨g, 0, none⟩) 2 [b9, a9]) => show Calls Tryz.prog 34 #[.slice B3 M.length c3, .slice (some ⟨g, 0, none⟩) 2 2, .int .i64 id] w' (OpR (joinG M (sortS [b9, a9]) 2 id) w') from join13_any B3 c3 M (some ⟨g, 0, none⟩) 2 [b9, a9] id w' h h2 (by omega))
    have HJE := Lib.hid (HB9.out.er id)
    have HJO := Lib.hid (HB9.out.ok id)
    generalize hY : joinG M (sortS [b9, a9]) 2 id = Y at *
    clear hY
    obtain ⟨C, ec⟩ := Y
    simp only at HJE HJO
    have hou := HB9.out.ou
    have hov := HB9.out.ov
    have HLN := Lib.hid HB9.out.len
    have HSA := Lib.hid (fun A1 c1 A2 c2 l w' (h : RIn w' A1 c1 l) (h2 : RIn w' A2 c2 l) => show Calls Tryz.prog 28 #[.slice A1 l.length c1, .slice A2 l.length c2] w' (BlIs true w') from by
      have := gsame_any A1 c1 A2 c2 l l w' h.row h2.row h.len h2.len
      rw [decide_eq_true rfl] at this; exact this)
    clear HB9 hid9 hidM
    obtain ⟨tid, tow, tar, tfr⟩ := t
    obtain ⟨uid, uow, uar, ufr⟩ := u
    obtain ⟨vid, vow, var, vfr⟩ := v
    simp only at hou hov HUN HJO HF1 HF2 HF3 htl
    subst hou
    subst hov
    obtain ⟨y0, y1, y2, y3, y4, y5, y6, yl⟩ := (K.out.nth 4 rfl)
    simp only at y0 y1 y2 y3 y4 y5 y6
    go_wp2_with fail
    refine (HF1.out _ (K.out.nth 3 rfl)).mono ?_
    rintro e w8 ⟨TA, TC, TB, TD, rfl, hi, hb⟩
    replace K := Lib.hid (K.out.add hb hi.fut)
    clear hb hi HF1 y0 y1 y2 y3 y4 y5 y6 yl
    simp only
    replace K := Lib.hid (K.out.add ((Below.refl _ _).alloc (Nat.le_refl _) (.cells #[.int .i64 tid, .int .i64 vow, .slice TA tar.length TC, .slice TB tfr.length TD] 40)) (LtB.new w8 ⟨tid, vow, tar, tfr⟩ TA TC TB TD _ rfl).fut)
    obtain ⟨y0, y1, y2, y3, y4, y5, y6, yl⟩ := (K.out.nth 6 rfl)
    simp only at y0 y1 y2 y3 y4 y5 y6
    go_wp2_with fail
    generalize w8.heap.size = gt at *
    refine (HF2.out _ (K.out.nth 2 rfl)).mono ?_
    rintro e w9 ⟨UA, UC, UB, UD, rfl, hi, hb⟩
    replace K := Lib.hid (K.out.add hb hi.fut)
    clear hb hi HF2 y0 y1 y2 y3 y4 y5 y6 yl
    simp only
    replace K := Lib.hid (K.out.add ((Below.refl _ _).alloc (Nat.le_refl _) (.cells #[.int .i64 uid, .int .i64 vow, .slice UA uar.length UC, .slice UB ufr.length UD] 40)) (LtB.new w9 ⟨uid, vow, uar, ufr⟩ UA UC UB UD _ rfl).fut)
    obtain ⟨y0, y1, y2, y3, y4, y5, y6, yl⟩ := (K.out.nth 8 rfl)
    simp only at y0 y1 y2 y3 y4 y5 y6
    go_wp2_with fail
    generalize w9.heap.size = gu at *
    refine (HF3.out _ (K.out.nth 4 rfl)).mono ?_
    rintro e w10 ⟨VA, VC, VB, VD, rfl, hi, hb⟩
    replace K := Lib.hid (K.out.add hb hi.fut)
    clear hb hi HF3 y0 y1 y2 y3 y4 y5 y6 yl
    simp only
    replace K := Lib.hid (K.out.add ((Below.refl _ _).alloc (Nat.le_refl _) (.cells #[.int .i64 vid, .int .i64 vow, .slice VA var.length VC, .slice VB vfr.length VD] 40)) (LtB.new w10 ⟨vid, vow, var, vfr⟩ VA VC VB VD _ rfl).fut)
    obtain ⟨p0, p1, p2, p3, pl⟩ := (K.out.nth 2 rfl)
    simp only at p0 p1 p2 p3
    obtain ⟨q0, q1, q2, q3, ql⟩ := (K.out.nth 0 rfl)
    simp only at q0 q1 q2 q3
    go_wp2_with fail
    generalize w10.heap.size = gv at *
    refine (HUN.out _ _ _ _ _ (K.out.nth 3 rfl).ar (K.out.nth 1 rfl).ar).mono ?_
    rintro e w11 ⟨A8, c8, rfl, hr8, _, hb⟩
    replace K := Lib.hid (K.out.add hb hr8.fut)
    clear hb hr8 HUN p0 p1 p2 p3 pl q0 q1 q2 q3 ql
    simp only at K ⊢
    obtain ⟨p0, p1, p2, p3, pl⟩ := (K.out.nth 5 rfl)
    simp only at p0 p1 p2 p3
    obtain ⟨q0, q1, q2, q3, ql⟩ := (K.out.nth 3 rfl)
    simp only at q0 q1 q2 q3
    obtain ⟨r0, r1, r2, r3, rl⟩ := (K.out.nth 1 rfl)
    simp only at r0 r1 r2 r3
    have e5 : (vow != vow) = false := by simp
    have e6 : ((M.length : Int) != (L.length : Int) + 1) = false := by have := HLN.out; simp; omega
    go_wp2_with fail
    refine (HSA.out _ _ _ _ _ _ (K.out.nth 0 rfl) (K.out.nth 6 rfl).ar).mono ?_
    rintro e w12 ⟨rfl, hb⟩
    replace K := Lib.hid (K.out.go hb)
    clear hb p0 p1 p2 p3 pl q0 q1 q2 q3 ql r0 r1 r2 r3 rl
    obtain ⟨p0, p1, p2, p3, pl⟩ := (K.out.nth 5 rfl)
    simp only at p0 p1 p2 p3
    obtain ⟨q0, q1, q2, q3, ql⟩ := (K.out.nth 3 rfl)
    simp only at q0 q1 q2 q3
    obtain ⟨r0, r1, r2, r3, rl⟩ := (K.out.nth 1 rfl)
    simp only at r0 r1 r2 r3
    obtain ⟨y0, y1, y2, y3, y4, y5, y6, yl⟩ := (K.out.nth 11 rfl)
    simp only at y0 y1 y2 y3 y4 y5 y6
    go_wp2_with fail
    clear p0 p1 p2 p3 pl q0 q1 q2 q3 ql r0 r1 r2 r3 rl y0 y1 y2 y3 y4 y5 y6 yl e6
    replace K := Lib.hid (K.out.add ((Below.refl _ _).alloc (Nat.le_refl _) (.cells #[.int .i64 b9, .int .i64 a9] 3)) (show Fut _ (fun w' => NIn w' (some ⟨w12.heap.size, 0, none⟩) 2 [b9, a9]) from (lit_nums w12 [b9, a9] _ rfl _ rfl (by simp)).fut))
    refine (HJN.out _ _ (K.out.nth 8 rfl) (K.out.nth 0 rfl)).mono ?_
    rintro e w13 ⟨C3, c4, rfl, hr4, hb⟩
    replace K := Lib.hid (K.out.add hb hr4.fut)
    have hlC := hr4.len
    clear hb hr4 HJN
    simp only at K hlC ⊢
    by_cases hz2 : ec = 0
    case neg =>
      have g2 : (ec != (0 : Int)) = true := by simpa using hz2
      rcases HJE.out hz2 with e5 | ⟨e5, e7⟩
      · subst e5
        clear HJE HJO hz2 g2
        go_wp2_with fail
        go_ret
        exact ⟨rfl, K.out.2⟩
      · subst e5
        clear HJE HJO hz2 g2
        by_cases c1 : id < 1
        · go_wp2_with fail
          go_ret
          exact ⟨rfl, K.out.2⟩
        · have c2 : 1073741824 < id := by omega
          clear e7
          go_wp2_with fail
          go_ret
          exact ⟨rfl, K.out.2⟩
    subst hz2
    obtain ⟨wl, hf, har, how, hfl, hm1, hm2, hm3, hcl, hall⟩ := HJO.out rfl
    clear HJE HJO
    obtain ⟨wid, wow, war, wfr⟩ := wl
    simp only at har how hfl hm1 hm2 hm3
    have har' := har.symm; subst har'
    have how' := how.symm; subst how'
    have HFW := Lib.hid (fun w' (h : LtIn w' C3 c4 C) => findS_any C3 c4 C id _ w' h hf)
    have HFL := Lib.hid hfl
    have HCL := Lib.hid hcl
    have HALL := Lib.hid hall
    have H1 := Lib.hid hm1
    have H2 := Lib.hid hm2
    have H3 := Lib.hid hm3
    clear hf har how hfl hm1 hm2 hm3 hcl hall
    go_wp2_with fail
    refine (HFW.out _ (K.out.nth 0 rfl)).mono ?_
    rintro e w14 ⟨WA, WC, WB, WD, rfl, hi, hb⟩
    replace K := Lib.hid (K.out.add hb hi.fut)
    clear hb hi HFW
    simp only
    replace K := Lib.hid (K.out.add ((Below.refl _ _).alloc (Nat.le_refl _) (.cells #[.int .i64 wid, .int .i64 vow, .slice WA tar.length WC, .slice WB wfr.length WD] 40)) (LtB.new w14 ⟨wid, vow, tar, wfr⟩ WA WC WB WD _ rfl).fut)
    obtain ⟨p0, p1, p2, p3, pl⟩ := (K.out.nth 9 rfl)
    simp only at p0 p1 p2 p3
    obtain ⟨q0, q1, q2, q3, ql⟩ := (K.out.nth 0 rfl)
    simp only at q0 q1 q2 q3
    obtain ⟨y0, y1, y2, y3, y4, y5, y6, yl⟩ := (K.out.nth 15 rfl)
    simp only at y0 y1 y2 y3 y4 y5 y6
    have htf := (K.out.nth 10 rfl).fr.len
    simp only at htf
    have e7 : ((wfr.length : Int) != (tfr.length : Int) + 3) = false := by have := HFL.out; simp; omega
    have e8 : ((C.length : Int) != (L.length : Int)) = false := by have := HCL.out; simp; omega
    go_wp2_with fail
    generalize w14.heap.size = gw at *
    refine (HSA.out _ _ _ _ _ _ (K.out.nth 1 rfl).ar (K.out.nth 10 rfl).ar).mono ?_
    rintro e w15 ⟨rfl, hb⟩
    replace K := Lib.hid (K.out.go hb)
    clear hb p0 p1 p2 p3 pl q0 q1 q2 q3 ql y0 y1 y2 y3 y4 y5 y6 yl
    obtain ⟨p0, p1, p2, p3, pl⟩ := (K.out.nth 9 rfl)
    simp only at p0 p1 p2 p3
    obtain ⟨q0, q1, q2, q3, ql⟩ := (K.out.nth 0 rfl)
    simp only at q0 q1 q2 q3
    obtain ⟨y0, y1, y2, y3, y4, y5, y6, yl⟩ := (K.out.nth 15 rfl)
    simp only at y0 y1 y2 y3 y4 y5 y6
    go_wp2_with fail
    refine ((win_any WB WD wfr tid _ (K.out.nth 1 rfl).fr)).mono ?_
    rintro e w16 ⟨rfl, hb⟩
    replace K := Lib.hid (K.out.go hb)
    clear hb p0 p1 p2 p3 pl q0 q1 q2 q3 ql y0 y1 y2 y3 y4 y5 y6 yl
    rw [decide_eq_true H1.out]
    obtain ⟨p0, p1, p2, p3, pl⟩ := (K.out.nth 9 rfl)
    simp only at p0 p1 p2 p3
    obtain ⟨q0, q1, q2, q3, ql⟩ := (K.out.nth 0 rfl)
    simp only at q0 q1 q2 q3
    obtain ⟨y0, y1, y2, y3, y4, y5, y6, yl⟩ := (K.out.nth 15 rfl)
    simp only at y0 y1 y2 y3 y4 y5 y6
    go_wp2_with fail
    refine ((win_any WB WD wfr a9 _ (K.out.nth 1 rfl).fr)).mono ?_
    rintro e w17 ⟨rfl, hb⟩
    replace K := Lib.hid (K.out.go hb)
    clear hb p0 p1 p2 p3 pl q0 q1 q2 q3 ql y0 y1 y2 y3 y4 y5 y6 yl
    rw [decide_eq_true H2.out]
    obtain ⟨p0, p1, p2, p3, pl⟩ := (K.out.nth 9 rfl)
    simp only at p0 p1 p2 p3
    obtain ⟨q0, q1, q2, q3, ql⟩ := (K.out.nth 0 rfl)
    simp only at q0 q1 q2 q3
    obtain ⟨y0, y1, y2, y3, y4, y5, y6, yl⟩ := (K.out.nth 15 rfl)
    simp only at y0 y1 y2 y3 y4 y5 y6
    go_wp2_with fail
    refine ((win_any WB WD wfr b9 _ (K.out.nth 1 rfl).fr)).mono ?_
    rintro e w18 ⟨rfl, hb⟩
    replace K := Lib.hid (K.out.go hb)
    clear hb p0 p1 p2 p3 pl q0 q1 q2 q3 ql y0 y1 y2 y3 y4 y5 y6 yl
    rw [decide_eq_true H3.out]
    clear H1 H2 H3
    obtain ⟨p0, p1, p2, p3, pl⟩ := (K.out.nth 9 rfl)
    simp only at p0 p1 p2 p3
    obtain ⟨q0, q1, q2, q3, ql⟩ := (K.out.nth 0 rfl)
    simp only at q0 q1 q2 q3
    obtain ⟨y0, y1, y2, y3, y4, y5, y6, yl⟩ := (K.out.nth 15 rfl)
    simp only at y0 y1 y2 y3 y4 y5 y6
    go_wp2_with fail
    clear p0 p1 p2 p3 pl q0 q1 q2 q3 ql y0 y1 y2 y3 y4 y5 y6 yl e5 e7 e8
    go_loopw [26] (fun i wr => ∃ (m : Nat), m ≤ L.length ∧ i = .int .i64 m ∧ Hid (Kp [fun w' => LtIn w' C3 c4 C, fun w' => LtIn w' B c L, OpAt go ⟨k, oid, a9, b9, n9, ar, ids⟩ ⟨PA, PC, PB, PD⟩] w wr)) (fun i _ => L.length - (intOf i).toNat)
    case atStart => exact ⟨0, Nat.zero_le _, rfl, Lib.hid ⟨fun P hP => by
        simp only [List.mem_cons, List.not_mem_nil, or_false] at hP
        rcases hP with rfl | rfl | rfl
        · exact K.out.1 _ (List.mem_cons_of_mem _ (List.mem_cons_of_mem _ List.mem_cons_self))
        · exact K.out.1 _ (List.mem_cons_of_mem _ (List.mem_cons_of_mem _ (List.mem_cons_of_mem _ (List.mem_cons_of_mem _ (List.mem_cons_of_mem _ (List.mem_cons_of_mem _ (List.mem_cons_of_mem _ (List.mem_cons_of_mem _ (List.mem_cons_of_mem _ (List.mem_cons_of_mem _ (List.mem_cons_of_mem _ (List.mem_cons_of_mem _ (List.mem_cons_of_mem _ (List.mem_cons_of_mem _ List.mem_cons_self))))))))))))))
        · exact K.out.1 _ (List.mem_cons_of_mem _ (List.mem_cons_of_mem _ (List.mem_cons_of_mem _ (List.mem_cons_of_mem _ (List.mem_cons_of_mem _ (List.mem_cons_of_mem _ (List.mem_cons_of_mem _ (List.mem_cons_of_mem _ (List.mem_cons_of_mem _ (List.mem_cons_of_mem _ (List.mem_cons_of_mem _ (List.mem_cons_of_mem _ (List.mem_cons_of_mem _ (List.mem_cons_of_mem _ (List.mem_cons_of_mem _ List.mem_cons_self))))))))))))))), K.out.2⟩⟩
    case round =>
      clear K
      obtain ⟨m, hm, rfl, K⟩ := hrel
      by_cases hlt : m < L.length
      case neg =>
        have s3 : ¬ (m : Int) < (L.length : Int) := by omega
        go_wp2_with fail
        go_ret
        exact ⟨rfl, K.out.2⟩
      obtain ⟨b, o9, p, rfl, hb, hc, hi⟩ := (K.out.nth 1 rfl).at_ hlt
      have n0 : (0 : Int) ≤ (m : Int) := by omega
      have n1 : (m : Int) < (L.length : Int) := by omega
      obtain ⟨x0, x1, x2, x3⟩ := hc
      have HFX := Lib.hid (fun w' (h : LtIn w' C3 c4 C) => find13_any C3 c4 C L[m].id w' h)
      have HXA := Lib.hid (HALL.out m hlt)
      have HLB : Hid (Fut wr (fun w' => LtIn w' (some ⟨b, o9 + m * 4, none⟩) (c - m) [L[m]])) := Lib.hid (LtIn.sub (K.out.nth 1 rfl) hlt).fut
      clear hi
      generalize L[m] = s at *
      have HBL := Lib.hid hb; clear hb
      go_wp2_with fail
      refine (HFX.out _ (K.out.nth 0 rfl)).mono ?_
      rintro e w19 ⟨q, rfl, hi, hb⟩
      have HX0 := Lib.hid ((hb.cell (p := ⟨b, o9 + m * 4, none⟩) HBL.out).trans x0)
      have hbl : b < w19.heap.size := Nat.lt_of_lt_of_le HBL.out hb.size
      replace K := Lib.hid ((K.out.add (Below.refl _ _) HLB.out).add hb hi.fut)
      clear hb hi HFX x0 x1 x2 x3 HLB
      generalize hxx : findL C s.id = fx at *
      generalize hxt : fx.getD lt0 = xt at *
      obtain ⟨xid, xow, xar, xfr⟩ := xt
      obtain ⟨XA, XC, XB, XD⟩ := q
      unfold lvl
      simp only at K ⊢
      replace K := Lib.hid (K.out.add ((Below.refl _ _).alloc (Nat.le_refl _) (.cells #[.int .i64 xid, .int .i64 xow, .slice XA xar.length XC, .slice XB xfr.length XD] 40)) (LtB.new w19 ⟨xid, xow, xar, xfr⟩ XA XC XB XD _ rfl).fut)
      have HX1 : (w19.alloc (.cells #[.int .i64 xid, .int .i64 xow, .slice XA xar.length XC, .slice XB xfr.length XD] 40)).cell? ⟨b, o9 + m * 4, none⟩ = some (.int .i64 s.id) := (((Below.refl _ _).alloc (Nat.le_refl _) _).cell (p := ⟨b, o9 + m * 4, none⟩) hbl).trans HX0.out
      have hbl2 : b < (w19.alloc (.cells #[.int .i64 xid, .int .i64 xow, .slice XA xar.length XC, .slice XB xfr.length XD] 40)).heap.size := by rw [World.size_alloc]; omega
      obtain ⟨y0, y1, y2, y3, y4, y5, y6, yl⟩ := (K.out.nth 5 rfl)
      simp only at y0 y1 y2 y3 y4 y5 y6
      obtain ⟨q0, q1, q2, q3, ql⟩ := (K.out.nth 0 rfl)
      simp only at q0 q1 q2 q3
      by_cases hsid : s.id = oid
      case pos =>
        have e1 : (s.id != oid) = false := by simpa using hsid
        clear hsid HXA hxx hxt
        go_wp2_with fail
        go_quiet (fail)
        go_wp2_with fail
        go_roundw
        case rel => exact ⟨m + 1, by omega, by go_num, Lib.hid ⟨fun P hP => by
            simp only [List.mem_cons, List.not_mem_nil, or_false] at hP
            rcases hP with rfl | rfl | rfl
            · exact (K.out.go (below_drewN (Below.refl _ _) _)).1 _ (List.mem_cons_of_mem _ (List.mem_cons_of_mem _ (List.mem_cons_of_mem _ List.mem_cons_self)))
            · exact (K.out.go (below_drewN (Below.refl _ _) _)).1 _ (List.mem_cons_of_mem _ (List.mem_cons_of_mem _ (List.mem_cons_of_mem _ (List.mem_cons_of_mem _ List.mem_cons_self))))
            · exact (K.out.go (below_drewN (Below.refl _ _) _)).1 _ (List.mem_cons_of_mem _ (List.mem_cons_of_mem _ (List.mem_cons_of_mem _ (List.mem_cons_of_mem _ (List.mem_cons_of_mem _ List.mem_cons_self))))), (K.out.go (below_drewN (Below.refl _ _) _)).2⟩⟩
        case measure => simp [intOf]; omega
      have e1 : (s.id != oid) = true := by simpa using hsid
      have hsx := HXA.out hsid
      clear hxx
      subst hsx
      obtain ⟨sid, sow, sar, sfr⟩ := s
      simp only [Option.getD_some, Lt.mk.injEq] at hxt
      obtain ⟨rfl, rfl, rfl, rfl⟩ := hxt
      simp only [Option.isSome_some]
      clear hsid HXA
      go_wp2_with fail
      generalize w19.alloc (.cells #[.int .i64 sid, .int .i64 sow, .slice XA sar.length XC, .slice XB sfr.length XD] 40) = wx at *
      generalize w19.heap.size = gx at *
      have hlc := ((K.out.nth 4 rfl)).room
      have hlc2 := ((K.out.nth 4 rfl)).room2
      have HPK : Hid (Pk13 b (o9 + m * 4) go gx sid oid sow (.slice XA sar.length XC) (.slice XB sfr.length XD) wx) := Lib.hid ⟨HX1, y1, q0, q1, q2, q3, hbl2, yl, ql⟩
      have HTB := Lib.hid (K.out.nth 0 rfl)
      have HTI := Lib.hid (Lib.hid (K.out.nth 1 rfl)).out.fut
      have HSB := Lib.hid (fun w' (hb : Below wx.heap.size wx w') => ((K.out.nth 2 rfl)).below hb)
      have KP := K
      have HMS := Lib.hid (fun g w' (h1 : LtIn w' (some ⟨g, 0, none⟩) 1 [⟨sid, sow, sar, sfr⟩]) (h2 : LtIn w' (some ⟨b, o9 + m * 4, none⟩) (c - m) [⟨sid, sow, sar, sfr⟩]) => show Calls Tryz.prog 14 #[.slice (some ⟨g, 0, none⟩) 1 1, .slice (some ⟨b, o9 + m * 4, none⟩) 1 (c - m)] w' (BlIs true w') from by
        have := msame_any (some ⟨g, 0, none⟩) 1 (some ⟨b, o9 + m * 4, none⟩) (c - m) [⟨sid, sow, sar, sfr⟩] [⟨sid, sow, sar, sfr⟩] w' h1 h2
        rw [sameB13_yes rfl] at this; exact this)
      clear HX1 hbl2 K y0 y1 y2 y3 y4 y5 y6 yl q0 q1 q2 q3 ql HTB HX0 hbl
      refine wp_region_held_drew (S := fun w' => w'.cell? ⟨b, o9 + m * 4, none⟩ = some (.int .i64 sid) ∧ w'.cell? ⟨go, 1, none⟩ = some (.int .i64 oid) ∧ w'.cell? ⟨gx, 0, none⟩ = some (.int .i64 sid) ∧ w'.cell? ⟨gx, 1, none⟩ = some (.int .i64 sow) ∧ w'.cell? ⟨gx, 2, none⟩ = some (.slice XA sar.length XC) ∧ w'.cell? ⟨gx, 3, none⟩ = some (.slice XB sfr.length XD) ∧ b < w'.heap.size ∧ go < w'.heap.size ∧ gx < w'.heap.size) (by kernel_rfl) ?_ (fun hHeld => ?_)
      · exact HPK.out.go (below_drewN (Below.refl _ _) 1)
      refine tkEA (i := 0) (oi := ⟨some 259, .move (.tmp 8), 22, "law.go:233", #[], none⟩) rfl ?_
      try simp only [sxEA]
      refine tkEA (i := 1) (oi := ⟨some 260, .move (.tmp 26), 3, "law.go:233", #[], none⟩) rfl ?_
      try simp only [sxEA]
      refine tkEA (i := 2) (oi := ⟨some 261, .indexAddr 22 (.tmp 259) (.tmp 260), 0, "law.go:233", #[⟨0, .data⟩, ⟨1, .data⟩], none⟩) rfl ?_
      try simp only [sxEA]
      refine tkEA (i := 3) (oi := ⟨some 262, .fieldAddr 40 (.tmp 261) 0, 0, "law.go:233", #[⟨2, .data⟩], none⟩) rfl ?_
      try simp only [sxEA]
      refine tkEA (i := 4) (oi := ⟨some 263, .load 3 (.tmp 262), 3, "law.go:233", #[⟨3, .data⟩], none⟩) rfl ?_
      try simp only [sxEA]
      refine tkEA (i := 5) (oi := ⟨some 264, .fieldAddr 33 (.tmp 4) 1, 0, "law.go:233", #[], none⟩) rfl ?_
      try simp only [sxEA]
      refine tkEA (i := 6) (oi := ⟨some 265, .load 3 (.tmp 264), 3, "law.go:233", #[⟨5, .data⟩], none⟩) rfl ?_
      try simp only [sxEA]
      refine tkEA (i := 7) (oi := ⟨some 266, .binOp .neq 3 (.tmp 263) (.tmp 265) 3, 4, "law.go:233", #[⟨4, .data⟩, ⟨6, .data⟩], none⟩) rfl ?_
      try simp only [sxEA]
      refine tkEA (i := 8) (oi := ⟨some 267, .move (.tmp 266), 4, "law.go:233", #[⟨7, .data⟩], none⟩) rfl ?_
      try simp only [sxEA]
      refine tkEA (i := 9) (oi := ⟨some 268, .move (.tmp 28), 4, "law.go:233", #[⟨8, .guard⟩], some (8, true)⟩) rfl ?_
      try simp only [sxEA]
      refine tkEA (i := 10) (oi := ⟨some 269, .unOp .not 4 (.tmp 268), 4, "law.go:233", #[⟨9, .data⟩, ⟨8, .guard⟩], some (8, true)⟩) rfl ?_
      try simp only [sxEA]
      refine tkEA (i := 11) (oi := ⟨some 270, .move (.tmp 269), 4, "law.go:233", #[⟨10, .data⟩, ⟨8, .chain⟩, ⟨8, .guard⟩], some (8, true)⟩) rfl ?_
      try simp only [sxEA]
      refine tkEA (i := 12) (oi := ⟨some 271, .load 40 (.tmp 27), 40, "law.go:233", #[⟨11, .guard⟩], some (11, false)⟩) rfl ?_
      try simp only [sxEA]
      refine tkEA (i := 14) (oi := ⟨some 273, .move (.tmp 8), 22, "law.go:233", #[⟨11, .guard⟩], some (11, false)⟩) rfl ?_
      try simp only [sxEA]
      refine tkEA (i := 15) (oi := ⟨some 274, .move (.tmp 26), 3, "law.go:233", #[⟨11, .guard⟩], some (11, false)⟩) rfl ?_
      try simp only [sxEA]
      refine tkEA (i := 16) (oi := ⟨some 275, .move (.tmp 26), 3, "law.go:233", #[⟨11, .guard⟩], some (11, false)⟩) rfl ?_
      try simp only [sxEA]
      refine tkEA (i := 17) (oi := ⟨some 276, .binOp .add 3 (.tmp 275) (.const (.int .i64 1)) 3, 3, "law.go:233", #[⟨16, .data⟩, ⟨11, .guard⟩], some (11, false)⟩) rfl ?_
      try simp only [sxEA]
      have hwr : IntKind.i64.wrap ((m : Int) + 1) = (m : Int) + 1 := wrap_m13 (by omega)
      have ht1 : ((m : Int) + 1).toNat = m + 1 := by omega
      have ht2 : m + 1 - m = 1 := by omega
      refine wpAnyH_take (i := 18) (oi := ⟨some 277, .slice 22 (.tmp 273) (some (.tmp 274)) (some (.tmp 276)) none, 22, "law.go:233", #[⟨14, .data⟩, ⟨15, .data⟩, ⟨17, .data⟩, ⟨11, .guard⟩], some (11, false)⟩) (v := .slice (some ⟨b, o9 + m * 4, none⟩) 1 (c - m)) rfl (by kernel_rfl) (by kernel_rfl) (by kernel_rfl) (fun _ _ _ h => h) (Or.inl ⟨by rfl, ?_⟩) (by assumption) ?_
      · intro w' hSw
        try dsimp only at hSw
        go_simp
        rw [if_pos ⟨by omega, by omega⟩, if_neg (by omega)]
      try simp only [sxEA]
      refine wpAnyH_ready (rs := [13]) (by kernel_rfl) (by simp) ?_
      refine AllReadyH.cons (o := ⟨some 272, .buildSlice 22 1 #[(0, .tmp 271)], 22, "law.go:233", #[⟨12, .data⟩, ⟨11, .guard⟩], some (11, false)⟩) rfl (fun Kx hKx => ?_) AllReadyH.nil
      go_simp
      refine hKx.out _ _ (Pk13.go ‹_› ((Below.refl _ _).alloc (Nat.le_refl _) _)) (fun hHeld2 => ?_)
      clear hKx Kx hHeld
      have hHeld := hHeld2; clear hHeld2
      try simp only [sxEA]
      refine wpAnyH_ready (rs := [19]) (by kernel_rfl) (by simp) ?_
      refine AllReadyH.cons (o := ⟨some 278, .call { callee := .value (.func 14), args := #[.tmp 272, .tmp 277], argTypes := #[22, 22] }, 4, "law.go:233", #[⟨13, .data⟩, ⟨18, .data⟩, ⟨11, .chain⟩, ⟨11, .guard⟩], some (11, false)⟩) rfl (fun Kx hKx => ?_) AllReadyH.nil
      go_simp
      go_at_call 14
      refine (HMS.out _ _ (((LtIn.one (LtAt.new wx ⟨sid, sow, sar, sfr⟩ ⟨XA, XC, XB, XD⟩ _ rfl rfl rfl) (HTI.out _ ((Below.refl _ _).alloc (Nat.le_refl _) _))).below (below_drewN (Below.refl _ _) 1))) (HSB.out _ (below_drewN ((Below.refl wx.heap.size wx).alloc (Nat.le_refl _) _) 1))).mono ?_
      rintro e w' ⟨rfl, hb⟩
      have K5 := Lib.hid ((KP.out.go (below_drewN ((Below.refl wx.heap.size wx).alloc (Nat.le_refl _) (.cells #[.int .i64 sid, .int .i64 sow, .slice XA sar.length XC, .slice XB sfr.length XD] 40)) 1)).go hb)
      try go_wp2_with fail
      refine hKx.out _ _ (Pk13.go ‹_› hb) (fun hHeld2 => ?_)
      clear hKx Kx hHeld hb
      have hHeld := hHeld2; clear hHeld2
      try simp only [sxEA]
      refine tkEA (i := 20) (oi := ⟨some 279, .unOp .not 4 (.tmp 278), 4, "law.go:233", #[⟨19, .data⟩, ⟨11, .guard⟩], some (11, false)⟩) rfl ?_
      try simp only [sxEA]
      refine tkEA (i := 21) (oi := ⟨some 280, .pick (.tmp 270) (.const (.bool true)) (.tmp 279), 4, "law.go:233", #[⟨11, .data⟩, ⟨20, .data⟩, ⟨8, .guard⟩], some (8, true)⟩) rfl ?_
      try simp only [sxEA]
      refine tkEA (i := 22) (oi := ⟨some 281, .pick (.tmp 267) (.tmp 280) (.const (.bool false)), 4, "law.go:233", #[⟨8, .data⟩, ⟨21, .data⟩], none⟩) rfl ?_
      try simp only [sxEA]
      refine wpAnyH_done (by kernel_rfl) ?_ _
      go_wp2_with fail
      go_roundw
      case rel => exact ⟨m + 1, by omega, by go_num, Lib.hid ⟨fun P hP => by
          simp only [List.mem_cons, List.not_mem_nil, or_false] at hP
          rcases hP with rfl | rfl | rfl
          · exact K5.out.1 _ (List.mem_cons_of_mem _ (List.mem_cons_of_mem _ (List.mem_cons_of_mem _ List.mem_cons_self)))
          · exact K5.out.1 _ (List.mem_cons_of_mem _ (List.mem_cons_of_mem _ (List.mem_cons_of_mem _ (List.mem_cons_of_mem _ List.mem_cons_self))))
          · exact K5.out.1 _ (List.mem_cons_of_mem _ (List.mem_cons_of_mem _ (List.mem_cons_of_mem _ (List.mem_cons_of_mem _ (List.mem_cons_of_mem _ List.mem_cons_self))))), K5.out.2⟩⟩
      case measure => simp [intOf]; omega
end Go.Proofs.YtngddecpfhlilaaGreat
