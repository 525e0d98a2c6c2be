/-
  The laws of layer 13: the number of cells of all lots.
  The law ParcelKeeps of layer 13: its walk.
-/
import Derived.Test.YtngddecpfhlilaaGreatD47
import Derived.Test.YtngddecpfhlilaaGreatD22
import Derived.Test.YtngddecpfhlilaaGreatD41
import Derived.Test.YtngddecpfhlilaaGreatD42
set_option linter.unusedVariables false
set_option maxRecDepth 100000
namespace Go.Proofs.YtngddecpfhlilaaGreat
open Go.RowKit
theorem tot_take {L : List Lt} {j : Nat} (hj : j < L.length) : totL (L.take (j + 1)) = totL (L.take j) + areaL L[j].ar := by
 rw [List.take_succ_eq_append_getElem hj]
 unfold totL
 rw [List.map_append, List.sum_append]
 simp
theorem tot_bd {L : List Lt} (h : Land oneB L) : ∀ j, 0 ≤ totL (L.take j) ∧ totL (L.take j) ≤ j * 1099511627776 := by
 intro j
 induction j with
 | zero => simp [totL]
 | succ j ih =>
  by_cases hj : j < L.length
  ·rw [tot_take hj]
   have h1 := form_grid (forms_of h _ (List.getElem_mem hj)).1
   have h2 := (areaL_bd L[j].ar).1
   omega
  ·rw [List.take_of_length_le (by omega)]
   rw [List.take_of_length_le (by omega)] at ih
   omega
theorem tot_le {L : List Lt} (h : Land oneB L) : 0 ≤ totL L ∧ totL L ≤ 20000 * 1099511627776 := by
 have h1 := tot_bd h L.length
 rw [List.take_length] at h1
 have := h.len
 omega
set_option maxHeartbeats 8000000 in
theorem wtotal_any (A : Option Addr) (cap : Nat) (L : List Lt) (w : World) (h : LtIn w A cap L) (hl : Land oneB L) : Calls Tryz.prog 26 #[.slice A L.length cap] w (InIs (totL L) w) := by
 have HL := Lib.hid h; clear h
 have hlen := hl.len
 have HAR := Lib.hid (fun j (hj : j < L.length) A c w' (h : RIn w' A c L[j].ar) => garea_yes A c L[j].ar w' h (oneB_reg (hl.ok _ (List.getElem_mem hj)).one))
 have HBD := Lib.hid (tot_bd hl)
 have HAB := Lib.hid (fun j (hj : j < L.length) => And.intro (areaL_bd L[j].ar).1 (form_grid (forms_of hl _ (List.getElem_mem hj)).1))
 clear hl
 go_enter Tryz.func26, Tryz.ntmps26
 go_wp2_with fail
 go_loopw [3, 4] (fun n i wr => ∃ (k : Nat), k ≤ L.length ∧ i = .int .i64 k ∧ n = .int .i64 (totL (L.take k)) ∧ Hid (Below w.heap.size w wr)) (fun _ i _ => L.length - (intOf i).toNat)
 case atStart => exact ⟨0, Nat.zero_le _, rfl, rfl, Lib.hid (Below.refl _ _)⟩
 case round =>
  obtain ⟨k, hk, rfl, rfl, HB⟩ := hrel
  by_cases hlt : k < L.length
  ·obtain ⟨b, o, p, rfl, hb, hc, hi⟩ := HL.out.at_ hlt
   obtain ⟨x0, x1, x2, x3⟩ := hc.below hb HB.out
   have n0 : (0 : Int) ≤ (k : Int) := by omega
   have n1 : (k : Int) < (L.length : Int) := by omega
   have HA := Lib.hid (fun w' (hb : Below w.heap.size w w') => HAR.out k hlt p.A p.c w' (hi.ar.below hb))
   have HT := Lib.hid (tot_take hlt)
   have b1 := HBD.out k
   have b2 := HAB.out k hlt
   clear hc hi
   generalize L[k] = u at *
   generalize areaL u.ar = s at *
   generalize totL (L.take k) = t at *
   have hs : -9223372036854775808 ≤ t + s ∧ t + s ≤ 9223372036854775807 := by omega
   go_wp2_with fail
   refine (HA.out _ HB.out).mono ?_
   rintro e w2 ⟨rfl, hb2⟩
   have HB2 := Lib.hid (HB.out.trans (hb2.mono HB.out.size))
   clear hb2 HB HA
   go_wp2_with fail
   go_roundw
   case rel => exact ⟨k + 1, by omega, by go_num, by rw [HT.out], HB2⟩
   case measure => simp [intOf]; omega
  ·obtain rfl : k = L.length := by omega
   rw [List.take_length]
   go_wp2_with fail
   go_ret
   exact ⟨rfl, HB.out⟩
end Go.Proofs.YtngddecpfhlilaaGreat
namespace Go.Proofs.YtngddecpfhlilaaGreat
open Go.RowKit
def OwAt (g : Nat) (ow : Int) (w : World) : Prop := w.cell? ⟨g, 1, none⟩ = some (.int .i64 ow) ∧ g < w.heap.size
theorem OwAt.go {g : Nat} {ow : Int} {w w' : World} (h : OwAt g ow w) (hb : Below w.heap.size w w') : OwAt g ow w' := ⟨(hb.cell (p := ⟨g, 1, none⟩) h.2).trans h.1, Nat.lt_of_lt_of_le h.2 hb.size⟩
theorem OwAt.fut {g : Nat} {ow : Int} {w : World} (h : OwAt g ow w) : Fut w (OwAt g ow) := fun w' hb => h.go hb
theorem OwAt.new (w : World) (id ow : Int) (u v : Value) (k : Nat) (hk : k = w.heap.size) : OwAt k ow (w.alloc (.cells #[.int .i64 id, .int .i64 ow, u, v] 40)) := by
 subst hk
 have h := heap_alloc_new w (.cells #[.int .i64 id, .int .i64 ow, u, v] 40)
 exact ⟨by rw [Lib.cell_of_heap h]; rfl, by rw [World.size_alloc]; omega⟩
def IdN (n : Int) (b : Bool) (w : World) (e : Ending) (w' : World) : Prop := e = .returned (.tuple #[.int .i64 n, .bool b]) ∧ Below w.heap.size w w'
def FdT (t : Lt) (w : World) (e : Ending) (w' : World) : Prop := ∃ (PA : Option Addr) (PC : Nat) (PB : Option Addr) (PD : Nat) (b : Bool), e = .returned (.tuple #[.agg #[.int .i64 t.id, .int .i64 t.ow, .slice PA t.ar.length PC, .slice PB t.fr.length PD], .bool b]) ∧ Below w.heap.size w w'
theorem findT_any (A : Option Addr) (cap : Nat) (L : List Lt) (x : Int) (w : World) (h : LtIn w A cap L) : Calls Tryz.prog 22 #[.slice A L.length cap, .int .i64 x] w (FdT ((findL L x).getD lt0) w) := by
 refine (find13_any A cap L x w h).mono ?_
 rintro e w' ⟨p, rfl, _, hb⟩
 exact ⟨p.A, p.c, p.B, p.d, _, rfl, hb⟩
set_option maxHeartbeats 32000000 in
theorem keeps_any (A : Option Addr) (cap : Nat) (O : List Op13) (x y : Int) (w : World) (h : OpO w A cap O) :
    Calls Tryz.prog 4 #[.slice A O.length cap, .int .i64 x, .int .i64 y] w (BlIs true w) := by
  have HSM := Lib.hid (fun w' => small13_any w')
  have HFW := Lib.hid (fun w' (h : OpO w' A cap O) => mfewops_any A cap O w' h)
  have K := Lib.hid ((Kp.start w).add (Below.refl _ _) h.fut)
  have HFL := Lib.hid (fun (hf : fewOB O = true) => fewO_len hf)
  have hroom := h.room
  have hroom2 := h.room2
  clear h
  generalize fewOB O = fw at *
  go_enter Tryz.func4, Tryz.ntmps4
  go_wp2_with fail
  refine (HSM.out _).mono ?_
  rintro e w1 ⟨rfl, hb⟩
  replace K := Lib.hid (K.out.go hb)
  clear hb HSM
  go_wp2_with fail
  refine (HFW.out _ (K.out.nth 0 rfl)).mono ?_
  rintro e w2 ⟨rfl, hb⟩
  replace K := Lib.hid (K.out.go hb)
  clear hb HFW
  cases fw
  · go_wp2_with fail
    go_ret
    exact ⟨rfl, K.out.2⟩
  obtain ⟨hl12, hl⟩ := HFL.out rfl
  have HLS := Lib.hid hl
  clear hl HFL
  go_wp2_with fail
  go_loopw [8, 9] (fun v i wr => ∃ (j : Nat) (B : Option Addr) (c : Nat) (L : List Lt), j ≤ O.length ∧ i = .int .i64 j ∧ v = .slice B L.length c ∧ Hid (Land oneB L) ∧ Hid ((idsL L).length + 2 ≤ 2 * 3 ^ j) ∧ Hid (Kp [fun w' => LtIn w' B c L, fun w' => OpO w' A cap O] w wr)) (fun _ i _ => O.length - (intOf i).toNat)
  case atStart => exact ⟨0, none, 0, [], Nat.zero_le _, rfl, rfl, Lib.hid (land_nil _), Lib.hid (by simp [idsL]), Lib.hid (K.out.add (Below.refl _ _) (LtIn.nil _).fut)⟩
  case round =>
    clear K
    obtain ⟨j, B, c, L, hj, rfl, rfl, HLA, HID, K⟩ := hrel
    by_cases hlt : j < O.length
    case neg =>
      have s0 : ¬ (j : Int) < (O.length : Int) := by omega
      go_wp2_with fail
      go_ret
      exact ⟨rfl, K.out.2⟩
    obtain ⟨b, o9, p, rfl, hb, hc, hi⟩ := (K.out.nth 1 rfl).at_ hlt
    have hoi := hi.few (HLS.out _ (List.getElem_mem hlt)).1 (by have := (HLS.out _ (List.getElem_mem hlt)).2; omega)
    replace K := Lib.hid (K.out.add (Below.refl _ _) hoi.fut)
    clear hi hoi
    have n0 : (0 : Int) ≤ (j : Int) := by omega
    have n1 : (j : Int) < (O.length : Int) := by omega
    have hlL := (K.out.nth 1 rfl).len
    have hid9 : (idsL L).length ≤ 274877906944 := by have h1 := HID.out; have h2 : 3 ^ j ≤ 3 ^ 12 := Nat.pow_le_pow_right (by omega) (by omega); have h3 : 3 ^ 12 = 531441 := (by decide); omega
    have HDO := Lib.hid (fun w' (h : LtIn w' B c L) (ho : OpI w' O[j] p) => do_any B c L O[j] p w' h ho hid9)
    clear hid9
    have HMA := Lib.hid (do_land (o := O[j]) HLA.out)
    have HMI : Hid ((idsL (doM L O[j]).1).length + 2 ≤ 2 * 3 ^ (j + 1)) := Lib.hid (by have h1 := HID.out; have h2 := do_ids (o := O[j]) HLA.out; rw [Nat.pow_succ]; omega)
    have HERR := Lib.hid (fun (h : (doM L O[j]).2 ≠ 0) => doM_err h)
    have HADD := Lib.hid (fun (h : (doM L O[j]).2 = 0) (h0 : O[j].k = 0) => keeps_add HLA.out h h0 x y)
    have HCHG := Lib.hid (fun (h : (doM L O[j]).2 = 0) (h0 : O[j].k ≠ 0) => keeps_chg HLA.out h h0 x y)
    unfold owG at HCHG
    obtain ⟨x0, x1, x2, x3, x4, x5, x6⟩ := hc
    clear HID
    generalize O[j] = o at *
    replace K := Lib.hid (K.out.add ((Below.refl _ _).alloc (Nat.le_refl _) (.cells #[.int .i64 o.k, .int .i64 o.id, .int .i64 o.a, .int .i64 o.b, .int .i64 o.n, .slice p.A o.ar.length p.c, .slice p.B o.ids.length p.d] 33)) (OpAt.new wr o p _ rfl).fut)
    unfold opv at HDO
    obtain ⟨k, id, a9, b9, n9, ar, ids⟩ := o
    obtain ⟨PA, PC, PB, PD⟩ := p
    simp only at x0 x1 x2 x3 x4 x5 x6 HDO HADD HCHG
    have HTOT := Lib.hid (tot_le HLA.out)
    have HTM := Lib.hid (tot_le HMA.out)
    have HRIG := Lib.hid (fun B' c' w' (h : LtIn w' B' c' (doM L ⟨k, id, a9, b9, n9, ar, ids⟩).1) => right13_any B' c' _ w' h)
    rw [(landB_is _).2 HMA.out] at HRIG
    generalize hX : doM L ⟨k, id, a9, b9, n9, ar, ids⟩ = X at *
    clear hX
    obtain ⟨M, er⟩ := X
    simp only at HMA HMI HERR HADD HCHG HTM HRIG
    go_wp2_with fail
    obtain ⟨hq0, hq1, hq2, hq3, hq4, hq5, hq6, hql⟩ := (K.out.nth 0 rfl)
    go_wp2_with fail
    refine (HDO.out _ (K.out.nth 2 rfl) (K.out.nth 1 rfl)).mono ?_
    rintro e w5 ⟨B3, c3, rfl, hr3, hb⟩
    replace K := Lib.hid (K.out.add hb hr3.fut)
    simp only at hr3
    have hlM := hr3.len
    clear hb hr3 HDO x0 x1 x2 x3 x4 x5 x6 hq0 hq1 hq2 hq3 hq4 hq5 hq6 hql
    simp only at K ⊢
    generalize wr.heap.size = go at *
    have HAT1 := Lib.hid (fun w' (h : LtIn w' B c L) => show Calls Tryz.prog 15 #[.slice B L.length c, .int .i64 x, .int .i64 y] w' (IdN (nmG (atG L x y)) (atG L x y).isSome w') from at13_any B c L x y w' h)
    have HAT2 := Lib.hid (fun w' (h : LtIn w' B3 c3 M) => show Calls Tryz.prog 15 #[.slice B3 M.length c3, .int .i64 x, .int .i64 y] w' (IdN (nmG (atG M x y)) (atG M x y).isSome w') from at13_any B3 c3 M x y w' h)
    have HF1 := Lib.hid (fun w' (h : LtIn w' B c L) => findT_any B c L (nmG (atG L x y)) w' h)
    have HF2 := Lib.hid (fun w' (h : LtIn w' B3 c3 M) => findT_any B3 c3 M (nmG (atG M x y)) w' h)
    generalize (findL L (nmG (atG L x y))).getD lt0 = t at *
    generalize (findL M (nmG (atG M x y))).getD lt0 = u at *
    generalize nmG (atG L x y) = nL at *
    generalize nmG (atG M x y) = nM at *
    generalize (atG L x y).isSome = bw at *
    generalize (atG M x y).isSome = bs at *
    obtain ⟨tid, tow, tar, tfr⟩ := t
    obtain ⟨uid, uow, uar, ufr⟩ := u
    simp only at HCHG HF1 HF2
    go_wp2_with fail
    refine (HAT1.out _ (K.out.nth 3 rfl)).mono ?_
    rintro e w6 ⟨rfl, hb⟩
    replace K := Lib.hid (K.out.go hb)
    clear hb HAT1
    go_wp2_with fail
    refine (HAT2.out _ (K.out.nth 0 rfl)).mono ?_
    rintro e w7 ⟨rfl, hb⟩
    replace K := Lib.hid (K.out.go hb)
    clear hb HAT2
    go_wp2_with fail
    refine (HF1.out _ (K.out.nth 3 rfl)).mono ?_
    rintro e w8 ⟨QA, QC, QB, QD, qb, rfl, hb⟩
    replace K := Lib.hid (K.out.go hb)
    clear hb HF1
    simp only
    replace K := Lib.hid (K.out.add ((Below.refl _ _).alloc (Nat.le_refl _) (.cells #[.int .i64 tid, .int .i64 tow, .slice QA tar.length QC, .slice QB tfr.length QD] 40)) (OwAt.new w8 tid tow _ _ _ rfl).fut)
    go_wp2_with fail
    generalize w8.heap.size = gt at *
    refine (HF2.out _ (K.out.nth 1 rfl)).mono ?_
    rintro e w9 ⟨RA, RC, RB, RD, rb, rfl, hb⟩
    replace K := Lib.hid (K.out.go hb)
    clear hb HF2
    simp only
    replace K := Lib.hid (K.out.add ((Below.refl _ _).alloc (Nat.le_refl _) (.cells #[.int .i64 uid, .int .i64 uow, .slice RA uar.length RC, .slice RB ufr.length RD] 40)) (OwAt.new w9 uid uow _ _ _ rfl).fut)
    go_wp2_with fail
    generalize w9.heap.size = gu at *
    refine (HRIG.out _ _ _ (K.out.nth 2 rfl)).mono ?_
    rintro e w10 ⟨rfl, hb⟩
    replace K := Lib.hid (K.out.go hb)
    clear hb HRIG
    by_cases hz : er = 0
    case neg =>
      have HSA := Lib.hid (fun w' (h : LtIn w' B c L) (h2 : LtIn w' B3 c3 M) => msame_any B c B3 c3 L M w' h h2)
      rw [sameB13_yes (HERR.out hz).symm] at HSA
      have g1 : (er != (0 : Int)) = true := by simpa using hz
      have g2 : (er == (0 : Int)) = false := by simpa using hz
      clear HERR HADD HCHG hz HTOT HTM
      go_wp2_with fail
      refine (HSA.out _ (K.out.nth 5 rfl) (K.out.nth 2 rfl)).mono ?_
      rintro e w11 ⟨rfl, hb⟩
      replace K := Lib.hid (K.out.go hb)
      clear hb HSA
      go_wp2_with fail
      go_roundw
      case rel => exact ⟨j + 1, B3, c3, M, by omega, by go_num, rfl, HMA, HMI, Lib.hid ⟨fun P hP => by
          simp only [List.mem_cons, List.not_mem_nil, or_false] at hP
          rcases hP with rfl | rfl
          · exact K.out.1 _ (List.mem_cons_of_mem _ (List.mem_cons_of_mem _ List.mem_cons_self))
          · exact K.out.1 _ (List.mem_cons_of_mem _ (List.mem_cons_of_mem _ (List.mem_cons_of_mem _ (List.mem_cons_of_mem _ (List.mem_cons_of_mem _ (List.mem_cons_of_mem _ List.mem_cons_self)))))), K.out.2⟩⟩
      case measure => simp [intOf]; omega
    subst hz
    by_cases hk : k = 0
    case pos =>
      subst hk
      obtain ⟨h1, h2, h3, h4, h5⟩ := HADD.out rfl rfl
      clear HADD HCHG HERR
      have HOF := Lib.hid (fun w' (h : RIn w' PA PC ar) => gof13_any PA PC ar w' h)
      have HRG := Lib.hid (ofR_regP ar)
      generalize ofR ar = R at *
      obtain ⟨R, rc⟩ := R
      simp only at h1 h2 h3 h4 h5 HRG
      have HHA := Lib.hid (fun A' c' w' (h : RIn w' A' c' R) => ghas_any A' c' R x y w' h)
      have HAR := Lib.hid (fun A' c' w' (h : RIn w' A' c' R) => garea_yes A' c' R w' h HRG.out)
      have HTA := Lib.hid (fun w' (h : LtIn w' B c L) => wtotal_any B c L w' h HLA.out)
      have HTB := Lib.hid (fun w' (h : LtIn w' B3 c3 M) => wtotal_any B3 c3 M w' h HMA.out)
      have hab := And.intro (areaL_bd R).1 (form_grid HRG.out.1)
      have htb := HTOT.out
      generalize hasRg R x y = bi at *
      generalize areaL R = s at *
      generalize totL L = tL at *
      generalize totL M = tM at *
      have hs : -9223372036854775808 ≤ tL + s ∧ tL + s ≤ 9223372036854775807 := by omega
      have H5 := Lib.hid h5
      clear h5 hab htb HTOT HTM
      obtain ⟨y0, y1, y2, y3, y4, y5, y6, yl⟩ := (K.out.nth 3 rfl)
      simp only at y0 y1 y2 y3 y4 y5 y6
      go_wp2_with fail
      refine (HOF.out _ (K.out.nth 4 rfl).ar).mono ?_
      rintro e w11 ⟨A9, c9, rfl, hr9, _, hb⟩
      replace K := Lib.hid (K.out.add hb hr9.fut)
      clear hb hr9 HOF y0 y1 y2 y3 y4 y5 y6 yl
      simp only
      go_wp2_with fail
      refine (HHA.out _ _ _ (K.out.nth 0 rfl)).mono ?_
      rintro e w12 ⟨rfl, hb⟩
      replace K := Lib.hid (K.out.go hb)
      clear hb HHA
      obtain ⟨y0, y1, y2, y3, y4, y5, y6, yl⟩ := (K.out.nth 4 rfl)
      simp only at y0 y1 y2 y3 y4 y5 y6
      cases bw
      · cases bi
        · skip
          simp only [Bool.or_self] at h1
          subst h1
          clear h2 h3 h4
          go_wp2_with fail
          refine (HTB.out _ (K.out.nth 3 rfl)).mono ?_
          rintro e w13 ⟨rfl, hb⟩
          replace K := Lib.hid (K.out.go hb)
          clear hb HTB
          go_wp2_with fail
          refine (HTA.out _ (K.out.nth 6 rfl)).mono ?_
          rintro e w14 ⟨rfl, hb⟩
          replace K := Lib.hid (K.out.go hb)
          clear hb HTA
          go_wp2_with fail
          refine (HAR.out _ _ _ (K.out.nth 0 rfl)).mono ?_
          rintro e w15 ⟨rfl, hb⟩
          replace K := Lib.hid (K.out.go hb)
          clear hb HAR
          have e9 : (tM != tL + s) = false := by rw [H5.out]; simp
          clear y0 y1 y2 y3 y4 y5 y6 yl
          obtain ⟨y0, y1, y2, y3, y4, y5, y6, yl⟩ := (K.out.nth 4 rfl)
          simp only at y0 y1 y2 y3 y4 y5 y6
          go_wp2_with fail
          go_roundw
          case rel => exact ⟨j + 1, B3, c3, M, by omega, by go_num, rfl, HMA, HMI, Lib.hid ⟨fun P hP => by
              simp only [List.mem_cons, List.not_mem_nil, or_false] at hP
              rcases hP with rfl | rfl
              · exact K.out.1 _ (List.mem_cons_of_mem _ (List.mem_cons_of_mem _ (List.mem_cons_of_mem _ List.mem_cons_self)))
              · exact K.out.1 _ (List.mem_cons_of_mem _ (List.mem_cons_of_mem _ (List.mem_cons_of_mem _ (List.mem_cons_of_mem _ (List.mem_cons_of_mem _ (List.mem_cons_of_mem _ (List.mem_cons_of_mem _ List.mem_cons_self))))))), K.out.2⟩⟩
          case measure => simp [intOf]; omega
        · skip
          have e1 := h3 rfl
          simp only [Bool.false_or] at h1
          subst h1
          clear h2 h3 h4
          have e2 : (nM != id) = false := by simpa using e1
          clear e1
          go_wp2_with fail
          refine (HTB.out _ (K.out.nth 3 rfl)).mono ?_
          rintro e w13 ⟨rfl, hb⟩
          replace K := Lib.hid (K.out.go hb)
          clear hb HTB
          go_wp2_with fail
          refine (HTA.out _ (K.out.nth 6 rfl)).mono ?_
          rintro e w14 ⟨rfl, hb⟩
          replace K := Lib.hid (K.out.go hb)
          clear hb HTA
          go_wp2_with fail
          refine (HAR.out _ _ _ (K.out.nth 0 rfl)).mono ?_
          rintro e w15 ⟨rfl, hb⟩
          replace K := Lib.hid (K.out.go hb)
          clear hb HAR
          have e9 : (tM != tL + s) = false := by rw [H5.out]; simp
          clear y0 y1 y2 y3 y4 y5 y6 yl
          obtain ⟨y0, y1, y2, y3, y4, y5, y6, yl⟩ := (K.out.nth 4 rfl)
          simp only at y0 y1 y2 y3 y4 y5 y6
          go_wp2_with fail
          go_roundw
          case rel => exact ⟨j + 1, B3, c3, M, by omega, by go_num, rfl, HMA, HMI, Lib.hid ⟨fun P hP => by
              simp only [List.mem_cons, List.not_mem_nil, or_false] at hP
              rcases hP with rfl | rfl
              · exact K.out.1 _ (List.mem_cons_of_mem _ (List.mem_cons_of_mem _ (List.mem_cons_of_mem _ List.mem_cons_self)))
              · exact K.out.1 _ (List.mem_cons_of_mem _ (List.mem_cons_of_mem _ (List.mem_cons_of_mem _ (List.mem_cons_of_mem _ (List.mem_cons_of_mem _ (List.mem_cons_of_mem _ (List.mem_cons_of_mem _ List.mem_cons_self))))))), K.out.2⟩⟩
          case measure => simp [intOf]; omega
      · have hbi := h2 rfl
        subst hbi
        have e1 := h4 rfl
        simp only [Bool.or_false] at h1
        subst h1
        clear h2 h3 h4
        have e2 : (nM != nL) = false := by simpa using e1
        clear e1
        go_wp2_with fail
        refine (HTB.out _ (K.out.nth 3 rfl)).mono ?_
        rintro e w13 ⟨rfl, hb⟩
        replace K := Lib.hid (K.out.go hb)
        clear hb HTB
        go_wp2_with fail
        refine (HTA.out _ (K.out.nth 6 rfl)).mono ?_
        rintro e w14 ⟨rfl, hb⟩
        replace K := Lib.hid (K.out.go hb)
        clear hb HTA
        go_wp2_with fail
        refine (HAR.out _ _ _ (K.out.nth 0 rfl)).mono ?_
        rintro e w15 ⟨rfl, hb⟩
        replace K := Lib.hid (K.out.go hb)
        clear hb HAR
        have e9 : (tM != tL + s) = false := by rw [H5.out]; simp
        clear y0 y1 y2 y3 y4 y5 y6 yl
        obtain ⟨y0, y1, y2, y3, y4, y5, y6, yl⟩ := (K.out.nth 4 rfl)
        simp only at y0 y1 y2 y3 y4 y5 y6
        go_wp2_with fail
        go_roundw
        case rel => exact ⟨j + 1, B3, c3, M, by omega, by go_num, rfl, HMA, HMI, Lib.hid ⟨fun P hP => by
            simp only [List.mem_cons, List.not_mem_nil, or_false] at hP
            rcases hP with rfl | rfl
            · exact K.out.1 _ (List.mem_cons_of_mem _ (List.mem_cons_of_mem _ (List.mem_cons_of_mem _ List.mem_cons_self)))
            · exact K.out.1 _ (List.mem_cons_of_mem _ (List.mem_cons_of_mem _ (List.mem_cons_of_mem _ (List.mem_cons_of_mem _ (List.mem_cons_of_mem _ (List.mem_cons_of_mem _ (List.mem_cons_of_mem _ List.mem_cons_self))))))), K.out.2⟩⟩
        case measure => simp [intOf]; omega
    obtain ⟨h1, h2, h3⟩ := HCHG.out rfl hk
    clear HADD HCHG HERR
    have g1 : (k == (0 : Int)) = false := by simpa using hk
    have g2 : (k != (0 : Int)) = true := by simpa using hk
    have HTA := Lib.hid (fun w' (h : LtIn w' B c L) => wtotal_any B c L w' h HLA.out)
    have HTB := Lib.hid (fun w' (h : LtIn w' B3 c3 M) => wtotal_any B3 c3 M w' h HMA.out)
    generalize totL L = tL at *
    generalize totL M = tM at *
    clear HTOT HTM hk
    subst h1
    subst h3
    obtain ⟨y0, y1, y2, y3, y4, y5, y6, yl⟩ := (K.out.nth 3 rfl)
    simp only at y0 y1 y2 y3 y4 y5 y6
    obtain ⟨t1, tl⟩ := (K.out.nth 1 rfl)
    obtain ⟨u1, ul⟩ := (K.out.nth 0 rfl)
    by_cases k3 : k = 3
    case neg =>
      have g3 : (k == (3 : Int)) = false := by simpa using k3
      simp only [k3, false_and, if_false] at h2
      clear k3
      cases bs
      · skip
        clear h2
        go_wp2_with fail
        refine (HTA.out _ (K.out.nth 5 rfl)).mono ?_
        rintro e w11 ⟨rfl, hb⟩
        replace K := Lib.hid (K.out.go hb)
        clear hb HTA
        go_wp2_with fail
        refine (HTB.out _ (K.out.nth 2 rfl)).mono ?_
        rintro e w12 ⟨rfl, hb⟩
        replace K := Lib.hid (K.out.go hb)
        clear hb HTB
        have e9 : (tM != tM) = false := by simp
        go_wp2_with fail
        go_roundw
        case rel => exact ⟨j + 1, B3, c3, M, by omega, by go_num, rfl, HMA, HMI, Lib.hid ⟨fun P hP => by
            simp only [List.mem_cons, List.not_mem_nil, or_false] at hP
            rcases hP with rfl | rfl
            · exact K.out.1 _ (List.mem_cons_of_mem _ (List.mem_cons_of_mem _ List.mem_cons_self))
            · exact K.out.1 _ (List.mem_cons_of_mem _ (List.mem_cons_of_mem _ (List.mem_cons_of_mem _ (List.mem_cons_of_mem _ (List.mem_cons_of_mem _ (List.mem_cons_of_mem _ List.mem_cons_self)))))), K.out.2⟩⟩
        case measure => simp [intOf]; omega
      · skip
        have e1 := h2 rfl
        clear h2
        have e2 : (uow != tow) = false := by simpa using e1
        clear e1
        go_wp2_with fail
        refine (HTA.out _ (K.out.nth 5 rfl)).mono ?_
        rintro e w11 ⟨rfl, hb⟩
        replace K := Lib.hid (K.out.go hb)
        clear hb HTA
        go_wp2_with fail
        refine (HTB.out _ (K.out.nth 2 rfl)).mono ?_
        rintro e w12 ⟨rfl, hb⟩
        replace K := Lib.hid (K.out.go hb)
        clear hb HTB
        have e9 : (tM != tM) = false := by simp
        go_wp2_with fail
        go_roundw
        case rel => exact ⟨j + 1, B3, c3, M, by omega, by go_num, rfl, HMA, HMI, Lib.hid ⟨fun P hP => by
            simp only [List.mem_cons, List.not_mem_nil, or_false] at hP
            rcases hP with rfl | rfl
            · exact K.out.1 _ (List.mem_cons_of_mem _ (List.mem_cons_of_mem _ List.mem_cons_self))
            · exact K.out.1 _ (List.mem_cons_of_mem _ (List.mem_cons_of_mem _ (List.mem_cons_of_mem _ (List.mem_cons_of_mem _ (List.mem_cons_of_mem _ (List.mem_cons_of_mem _ List.mem_cons_self)))))), K.out.2⟩⟩
        case measure => simp [intOf]; omega
    subst k3
    simp only [true_and] at h2
    by_cases hn : nL = id
    case neg =>
      have g3 : (nL == id) = false := by simpa using hn
      rw [if_neg hn] at h2
      clear hn
      cases bs
      · skip
        clear h2
        go_wp2_with fail
        refine (HTA.out _ (K.out.nth 5 rfl)).mono ?_
        rintro e w11 ⟨rfl, hb⟩
        replace K := Lib.hid (K.out.go hb)
        clear hb HTA
        go_wp2_with fail
        refine (HTB.out _ (K.out.nth 2 rfl)).mono ?_
        rintro e w12 ⟨rfl, hb⟩
        replace K := Lib.hid (K.out.go hb)
        clear hb HTB
        have e9 : (tM != tM) = false := by simp
        go_wp2_with fail
        go_roundw
        case rel => exact ⟨j + 1, B3, c3, M, by omega, by go_num, rfl, HMA, HMI, Lib.hid ⟨fun P hP => by
            simp only [List.mem_cons, List.not_mem_nil, or_false] at hP
            rcases hP with rfl | rfl
            · exact K.out.1 _ (List.mem_cons_of_mem _ (List.mem_cons_of_mem _ List.mem_cons_self))
            · exact K.out.1 _ (List.mem_cons_of_mem _ (List.mem_cons_of_mem _ (List.mem_cons_of_mem _ (List.mem_cons_of_mem _ (List.mem_cons_of_mem _ (List.mem_cons_of_mem _ List.mem_cons_self)))))), K.out.2⟩⟩
        case measure => simp [intOf]; omega
      · skip
        have e1 := h2 rfl
        clear h2
        have e2 : (uow != tow) = false := by simpa using e1
        clear e1
        go_wp2_with fail
        refine (HTA.out _ (K.out.nth 5 rfl)).mono ?_
        rintro e w11 ⟨rfl, hb⟩
        replace K := Lib.hid (K.out.go hb)
        clear hb HTA
        go_wp2_with fail
        refine (HTB.out _ (K.out.nth 2 rfl)).mono ?_
        rintro e w12 ⟨rfl, hb⟩
        replace K := Lib.hid (K.out.go hb)
        clear hb HTB
        have e9 : (tM != tM) = false := by simp
        go_wp2_with fail
        go_roundw
        case rel => exact ⟨j + 1, B3, c3, M, by omega, by go_num, rfl, HMA, HMI, Lib.hid ⟨fun P hP => by
            simp only [List.mem_cons, List.not_mem_nil, or_false] at hP
            rcases hP with rfl | rfl
            · exact K.out.1 _ (List.mem_cons_of_mem _ (List.mem_cons_of_mem _ List.mem_cons_self))
            · exact K.out.1 _ (List.mem_cons_of_mem _ (List.mem_cons_of_mem _ (List.mem_cons_of_mem _ (List.mem_cons_of_mem _ (List.mem_cons_of_mem _ (List.mem_cons_of_mem _ List.mem_cons_self)))))), K.out.2⟩⟩
        case measure => simp [intOf]; omega
    have g3 : (nL == id) = true := by simpa using hn
    rw [if_pos hn] at h2
    clear hn
    cases bs
    · skip
      clear h2
      go_wp2_with fail
      refine (HTA.out _ (K.out.nth 5 rfl)).mono ?_
      rintro e w11 ⟨rfl, hb⟩
      replace K := Lib.hid (K.out.go hb)
      clear hb HTA
      go_wp2_with fail
      refine (HTB.out _ (K.out.nth 2 rfl)).mono ?_
      rintro e w12 ⟨rfl, hb⟩
      replace K := Lib.hid (K.out.go hb)
      clear hb HTB
      have e9 : (tM != tM) = false := by simp
      go_wp2_with fail
      go_roundw
      case rel => exact ⟨j + 1, B3, c3, M, by omega, by go_num, rfl, HMA, HMI, Lib.hid ⟨fun P hP => by
          simp only [List.mem_cons, List.not_mem_nil, or_false] at hP
          rcases hP with rfl | rfl
          · exact K.out.1 _ (List.mem_cons_of_mem _ (List.mem_cons_of_mem _ List.mem_cons_self))
          · exact K.out.1 _ (List.mem_cons_of_mem _ (List.mem_cons_of_mem _ (List.mem_cons_of_mem _ (List.mem_cons_of_mem _ (List.mem_cons_of_mem _ (List.mem_cons_of_mem _ List.mem_cons_self)))))), K.out.2⟩⟩
      case measure => simp [intOf]; omega
    · skip
      have e1 := h2 rfl
      clear h2
      have e2 : (uow != n9) = false := by simpa using e1
      clear e1
      go_wp2_with fail
      refine (HTA.out _ (K.out.nth 5 rfl)).mono ?_
      rintro e w11 ⟨rfl, hb⟩
      replace K := Lib.hid (K.out.go hb)
      clear hb HTA
      go_wp2_with fail
      refine (HTB.out _ (K.out.nth 2 rfl)).mono ?_
      rintro e w12 ⟨rfl, hb⟩
      replace K := Lib.hid (K.out.go hb)
      clear hb HTB
      have e9 : (tM != tM) = false := by simp
      go_wp2_with fail
      go_roundw
      case rel => exact ⟨j + 1, B3, c3, M, by omega, by go_num, rfl, HMA, HMI, Lib.hid ⟨fun P hP => by
          simp only [List.mem_cons, List.not_mem_nil, or_false] at hP
          rcases hP with rfl | rfl
          · exact K.out.1 _ (List.mem_cons_of_mem _ (List.mem_cons_of_mem _ List.mem_cons_self))
          · exact K.out.1 _ (List.mem_cons_of_mem _ (List.mem_cons_of_mem _ (List.mem_cons_of_mem _ (List.mem_cons_of_mem _ (List.mem_cons_of_mem _ (List.mem_cons_of_mem _ List.mem_cons_self)))))), K.out.2⟩⟩
      case measure => simp [intOf]; omega
end Go.Proofs.YtngddecpfhlilaaGreat
