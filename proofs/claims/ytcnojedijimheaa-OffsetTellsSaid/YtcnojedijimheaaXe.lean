/-
  Contracts of the reference of layer 8 (3): Shrink.
-/
import Derived.Test.YtcnojedijimheaaXd
import Derived.Test.YtcnojedijimheaaIa
import Derived.Test.YtcnojedijimheaaGj
import Derived.Test.YtcnojedijimheaaSr
set_option linter.unusedVariables false
set_option maxRecDepth 100000
namespace Go.Proofs.Ytcnojedijimheaa
open Go.RowKit

theorem comb_not : CombOk 2 andnot := vcombine_sub
/-- the first k of a list put through f. -/
def FirstK (f : Rc → Rc) (l : List Rc) (k : Nat) : List Rc := (l.take k).map f ++ l.drop k
theorem FirstK_len (f : Rc → Rc) (l : List Rc) (k : Nat) (h : k ≤ l.length) : (FirstK f l k).length = l.length := by simp [FirstK]; omega
theorem FirstK_zero (f : Rc → Rc) (l : List Rc) : FirstK f l 0 = l := by simp [FirstK]
theorem FirstK_all (f : Rc → Rc) (l : List Rc) : FirstK f l l.length = l.map f := by simp [FirstK]
theorem FirstK_at (f : Rc → Rc) (l : List Rc) (k : Nat) (h : k < l.length) (h2 : k < (FirstK f l k).length) : (FirstK f l k)[k] = l[k] := by
  simp only [FirstK]
  rw [List.getElem_append_right (by simp; omega)]
  simp [Nat.min_eq_left (Nat.le_of_lt h)]
theorem FirstK_next (f : Rc → Rc) (l : List Rc) (k : Nat) (h : k < l.length) : (FirstK f l k).set k (f l[k]) = FirstK f l (k + 1) := by
  have hk : ((l.take k).map f).length = k := by simp; omega
  simp only [FirstK]
  rw [List.set_append_right _ _ (by omega), hk, Nat.sub_self, List.drop_eq_getElem_cons h, List.set_cons_zero, List.take_succ_eq_append_getElem h, List.map_append, List.append_assoc]
  rfl
/-- the holes, and the shrunk bounds beside them. -/
structure HoW (v : Value) (n : Nat) (L : List Rc) (gs : Nat) (s : Rc) (w wr : World) : Prop where
  own : wr.ownsRow w.heap.size 41 4 v n (rcells L)
  at8 : RcAt wr gs s
  ap : ∀ g, v.ownBlock = some g → g ≠ gs
  bel : Below w.heap.size w wr
theorem HoW.go {v : Value} {n : Nat} {L : List Rc} {gs : Nat} {s : Rc} {w wr w' : World} (h : HoW v n L gs s w wr) (hb : Below wr.heap.size wr w') : HoW v n L gs s w w' := ⟨own_go h.own hb, h.at8.below hb h.at8.lt, h.ap, h.bel.trans (hb.mono h.bel.size)⟩
theorem HoW.put {g c n : Nat} {L : List Rc} {gs : Nat} {s : Rc} {w wr : World} (h : HoW (.slice (some ⟨g, 0, none⟩) n c) n L gs s w wr) (k : Nat) (hk : k < L.length) (r : Rc) :
    HoW (.slice (some ⟨g, 0, none⟩) n c) n (L.set k r) gs s w ((((wr.setCell ⟨g, k * 4, none⟩ (.int .i64 r.X0)).setCell ⟨g, k * 4 + 1, none⟩ (.int .i64 r.Y0)).setCell ⟨g, k * 4 + 2, none⟩ (.int .i64 r.X1)).setCell ⟨g, k * 4 + 3, none⟩ (.int .i64 r.Y1)) := by
  have hne := h.ap g rfl
  have hg := (h.own.lt g rfl).1
  exact ⟨own_put h.own k hk r, (((h.at8.far (Ne.symm hne)).far (Ne.symm hne)).far (Ne.symm hne)).far (Ne.symm hne), h.ap, (((h.bel.setCell hg _).setCell hg _).setCell hg _).setCell hg _⟩
set_option maxHeartbeats 16000000 in
theorem xshrink_yes (A : Option Addr) (cap : Nat) (l : List Rc) (d : Int) (w : World) (hl : RIn w A cap l) (hr : RegP l) (hd : DistP d) (h24 : l.length ≤ 24) :
    Calls Try.prog 20 #[.slice A l.length cap, .int .i64 d] w (ResIs (shrinkM l d) w) := by
  have HV := Lib.hid (xvalid_any A cap l d w hl)
  rw [decide_eq_true (⟨hr, hd⟩ : RegP l ∧ DistP d)] at HV
  have HBO := Lib.hid (fun w' (h : Below w.heap.size w w') => vbounds_any A cap l w' (hl.below h))
  rw [show boundsG l = boundsR l from if_pos hr] at HBO
  rw [show shrinkM l d = capR (eroF l d) from if_pos ⟨hr, hd⟩]
  have hok := form_ok hr.1
  by_cases hne : l = []
  · subst hne
    rw [show boundsR [] = (zR, false) from rfl] at HBO
    rw [show capR (eroF [] d) = ([], 0) from rfl]
    clear hr hd hl hok h24
    go_enter Try.func20, Try.ntmps20
    go_wp2_with fail
    refine HV.out.mono ?_
    rintro e1 w1 ⟨rfl, hb1⟩
    have HB1 := Lib.hid hb1; clear hb1
    go_wp2_with fail
    refine (HBO.out _ HB1.out).mono ?_
    rintro e2 w2 ⟨rfl, hb2⟩
    have HB2 := Lib.hid (HB1.out.trans (hb2.mono HB1.out.size)); clear hb2 HB1
    go_wp2_with fail
    go_ret2
    exact ⟨_, rfl, World.ownsRow_nil _ _ _ _, by have hk := HB2.out; have hs := hk.size; (repeat' first | exact Below.refl _ _ | assumption | (apply below_drewN) | (refine Below.setCell ?_ (by (try simp); (try omega)) _) | (refine Below.alloc ?_ (by (try simp); (try omega)) _) | (refine Below.trans ?_ (Below.mono (Hid.out (by assumption)) (by (try simp); (try omega)))))⟩
  · obtain ⟨hb0, hbo, _⟩ := bounds_all hok hne
    have HE : Hid (eroF l d = if (shrinkR (boundsR l).1 d).2 then formO andnot [(shrinkR (boundsR l).1 d).1] (grownL (formO andnot [(boundsR l).1] l) d) else []) := Lib.hid (by unfold eroF; rw [if_pos hb0]; rfl)
    obtain ⟨B, hB⟩ : ∃ B, B = boundsR l := ⟨_, rfl⟩
    rw [← hB] at HBO HE hb0 hbo
    clear hB
    obtain ⟨B, Bb⟩ := B
    obtain rfl : Bb = true := hb0
    have HSH := Lib.hid (fun w' => ushrink_any B d (InR_of hbo) (by unfold In64; have := hd.1; have := hd.2; omega) w')
    by_cases hs : (shrinkR B d).2 = true
    · have hsok : ROk (shrinkR B d).1 := by
        unfold shrinkR at hs ⊢
        split
        · rename_i h; exact h.2.2
        · rename_i h; rw [if_neg h] at hs; cases hs
      have HE2 : Hid (eroF l d = formO andnot [(shrinkR B d).1] (grownL (formO andnot [B] l) d)) := Lib.hid (by rw [HE.out]; exact if_pos hs)
      clear HE
      obtain ⟨S, hS⟩ : ∃ S, S = shrinkR B d := ⟨_, rfl⟩
      rw [← hS] at HSH HE2 hs hsok
      clear hS
      obtain ⟨S, Sb⟩ := S
      obtain rfl : Sb = true := hs
      have hBs : ∀ r ∈ [B], ROk r := fun r h => by rw [List.mem_singleton] at h; subst h; exact hbo
      have hSs : ∀ r ∈ [S], ROk r := fun r h => by rw [List.mem_singleton] at h; subst h; exact hsok
      have HF1 := Lib.hid (fun (w1 w' : World) (k : Nat) (hk : k = w1.heap.size) (hw : w' = w1.alloc (.cells #[.int .i64 B.X0, .int .i64 B.Y0, .int .i64 B.X1, .int .i64 B.Y1] 41)) (h : Below w.heap.size w w1) =>
        show Calls Try.prog 29 #[.slice (some ⟨k, 0, none⟩) 1 1, .slice A l.length cap, .int .i64 2] w' (RcsIs (formO andnot [B] l) w') from by
          subst hw; subst hk
          exact vForm_any 2 andnot rfl comb_not (some ⟨w1.heap.size, 0, none⟩) 1 A cap [B] l _ (rin_new w1 [B] _ 1 rfl (by simp) rfl).row ((hl.below (h.alloc h.size _)).row) (by simp) (by omega) hBs hok)
      have hHok : ∀ r ∈ formO andnot [B] l, ROk r := form_ok (formO_is (op := andnot) rfl hBs hok).1
      have hHlen : (formO andnot [B] l).length ≤ 625 := by
        have := formO_sq andnot hBs hok
        have h2 : ([B].length + l.length) * ([B].length + l.length) ≤ 25 * 25 := Nat.mul_le_mul (by simp; omega) (by simp; omega)
        omega
      obtain ⟨H, hH⟩ : ∃ H, H = formO andnot [B] l := ⟨_, rfl⟩
      rw [← hH] at HF1 HE2 hHok hHlen
      clear hH
      have HOK := Lib.hid hHok
      have HG := Lib.hid (fun (r : Rc) (hro : ROk r) (w' : World) => show Calls Try.prog 55 #[.agg #[.int .i64 r.X0, .int .i64 r.Y0, .int .i64 r.X1, .int .i64 r.Y1], .int .i64 d] w' (RbIs (grownR r d, true) w') from by
        have := ugrow_any r d (InR_of hro) (by unfold In64; have := hd.1; have := hd.2; omega) w'
        rwa [grow_is hro hd.1] at this)
      have HF2 := Lib.hid (fun (w1 w' : World) (k : Nat) (A2 : Option Addr) (c2 : Nat) (hk : k = w1.heap.size) (hw : w' = w1.alloc (.cells #[.int .i64 S.X0, .int .i64 S.Y0, .int .i64 S.X1, .int .i64 S.Y1] 41)) (h : RRow w1 A2 (grownL H d)) =>
        show Calls Try.prog 29 #[.slice (some ⟨k, 0, none⟩) 1 1, .slice A2 H.length c2, .int .i64 2] w' (RcsIs (eroF l d) w') from by
          subst hw; subst hk
          rw [HE2.out, show H.length = (grownL H d).length by simp [grownL]]
          exact vForm_any 2 andnot rfl comb_not (some ⟨w1.heap.size, 0, none⟩) 1 A2 c2 [S] (grownL H d) _ (rin_new w1 [S] _ 1 rfl (by simp) rfl).row (h.below ((Below.refl _ _).alloc (Nat.le_refl _) _)) (by simp) (by simp [grownL]; omega) hSs (grownL_ok hHok hd.1))
      clear hBs hSs hHok hl hr hd hok hne hbo hsok HE2 h24
      obtain ⟨Q, hQ⟩ : ∃ Q, Q = eroF l d := ⟨_, rfl⟩
      rw [← hQ] at HF2 ⊢
      clear hQ
      go_enter Try.func20, Try.ntmps20
      go_wp2_with fail
      refine HV.out.mono ?_
      rintro e1 w1 ⟨rfl, hb1⟩
      have HB1 := Lib.hid hb1; clear hb1
      go_wp2_with fail
      refine (HBO.out _ HB1.out).mono ?_
      rintro e2 w2 ⟨rfl, hb2⟩
      have HB2 := Lib.hid (HB1.out.trans (hb2.mono HB1.out.size)); clear hb2 HB1
      have K2 : Hid (RcAt (w2.alloc (.cells #[.int .i64 B.X0, .int .i64 B.Y0, .int .i64 B.X1, .int .i64 B.Y1] 41)) w2.heap.size B) := Lib.hid (RcAt.new w2 B _ rfl)
      have HB3 := Lib.hid (HB2.out.alloc HB2.out.size (.cells #[.int .i64 B.X0, .int .i64 B.Y0, .int .i64 B.X1, .int .i64 B.Y1] 41))
      simp only []
      go_wp2_with fail
      generalize w2.heap.size = gb at *
      generalize World.alloc w2 _ = w3 at *
      refine (HSH.out _).mono ?_
      rintro e4 w4 ⟨rfl, hb4⟩
      have K4 := Lib.hid (K2.out.below hb4 K2.out.lt)
      have HB4 := Lib.hid (HB3.out.trans (hb4.mono HB3.out.size)); clear hb4 HB2 HB3 K2
      have K5 := Lib.hid (K4.out.alloc (.cells #[.int .i64 S.X0, .int .i64 S.Y0, .int .i64 S.X1, .int .i64 S.Y1] 41))
      have L5 : Hid (RcAt (w4.alloc (.cells #[.int .i64 S.X0, .int .i64 S.Y0, .int .i64 S.X1, .int .i64 S.Y1] 41)) w4.heap.size S) := Lib.hid (RcAt.new w4 S _ rfl)
      have HB5 := Lib.hid (HB4.out.alloc HB4.out.size (.cells #[.int .i64 S.X0, .int .i64 S.Y0, .int .i64 S.X1, .int .i64 S.Y1] 41))
      have hgs : Hid (w.heap.size ≤ w4.heap.size) := Lib.hid HB4.out.size
      have z0 := K5.out.cell0; have z1 := K5.out.cell1; have z2 := K5.out.cell2; have z3 := K5.out.cell3
      have zl := K5.out.lt
      have HW5 : Hid (w4.heap.size + 1 = (w4.alloc (.cells #[.int .i64 S.X0, .int .i64 S.Y0, .int .i64 S.X1, .int .i64 S.Y1] 41)).heap.size) := Lib.hid (by simp)
      simp only []
      go_wp2_with fail
      generalize World.alloc w4 _ = w5 at *
      generalize w4.heap.size = gs at *
      refine (HF1.out w5 _ _ HW5.out rfl HB5.out).mono ?_
      rintro e6 w6 ⟨v6, rfl, h6, h7⟩
      obtain ⟨A6, c6, rfl, _, _, _, hA6, _⟩ := own_rects h6
      have HA6 := Lib.hid hA6
      have S0 : Hid (HoW (.slice A6 H.length c6) H.length (FirstK (grownR · d) H 0) gs S w w6) := Lib.hid (by
        have hs5 := HB5.out.size
        have hb5 : Below w5.heap.size w5 (w5.alloc (.cells #[.int .i64 B.X0, .int .i64 B.Y0, .int .i64 B.X1, .int .i64 B.Y1] 41)) := (Below.refl _ _).alloc (Nat.le_refl _) _
        have hb6 := hb5.trans (h7.mono hb5.size)
        refine ⟨?_, L5.out.below hb6 L5.out.lt, fun g hg e => ?_, HB5.out.trans (hb6.mono hs5)⟩
        · rw [FirstK_zero]; exact own_base h6 (Nat.le_trans hs5 hb5.size)
        · have h1 := (h6.lt g hg).1
          have h2 := L5.out.lt
          have h3 := hb5.size
          omega)
      clear h6 h7 hA6 z0 z1 z2 z3 zl K4 K5 L5 HB4 HB5 HW5
      go_wp2_with fail
      go_loopw [11] (fun i wr => ∃ k : Nat, k ≤ H.length ∧ i = .int .i64 k ∧ Hid (HoW (.slice A6 H.length c6) H.length (FirstK (grownR · d) H k) gs S w wr)) (fun i _ => H.length - (intOf i).toNat)
      case atStart => exact ⟨0, Nat.zero_le _, rfl, S0⟩
      case round =>
        clear S0
        obtain ⟨k, hk, rfl, HS⟩ := hrel
        by_cases hlt : k < H.length
        · obtain ⟨g, rfl, _, _⟩ := HA6.out (by omega)
          have hml := FirstK_len (grownR · d) H k hk
          have hkl : k < (FirstK (grownR · d) H k).length := by omega
          have NEXT := Lib.hid (FirstK_next (grownR · d) H k hlt)
          have hat := FirstK_at (grownR · d) H k hlt hkl
          obtain ⟨r0, r1, r2, r3⟩ := rcells_at (FirstK (grownR · d) H k) k hkl
          rw [hat] at r0 r1 r2 r3
          have own := HS.out.own
          have y0 := (own.cellAt (k * 4) (by omega)).trans r0
          have y1 := (own.cellAt (k * 4 + 1) (by omega)).trans r1
          have y2 := (own.cellAt (k * 4 + 2) (by omega)).trans r2
          have y3 := (own.cellAt (k * 4 + 3) (by omega)).trans r3
          have gl : g < wr.heap.size := (own.lt g rfl).2
          have i0 : (0 : Int) ≤ (k : Int) := by omega
          have i1 : (k : Int) < (H.length : Int) := by omega
          have HGU := Lib.hid (fun w' => HG.out H[k] (HOK.out _ (List.getElem_mem hlt)) w')
          have R := Lib.hid (show _ ∧ _ ∧ _ ∧ _ from ⟨r0, r1, r2, r3⟩)
          clear hat own r0 r1 r2 r3
          obtain ⟨u, hu⟩ : ∃ u, u = H[k] := ⟨_, rfl⟩
          rw [← hu] at y0 y1 y2 y3 HGU NEXT R
          clear hu
          obtain ⟨L, hL⟩ : ∃ L, L = FirstK (grownR · d) H k := ⟨_, rfl⟩
          rw [← hL] at HS NEXT R hkl
          clear hL hml
          go_wp2_with fail
          refine (HGU.out _).mono ?_
          rintro e8 w8 ⟨rfl, hb8⟩
          have HS2 := Lib.hid (HS.out.go hb8)
          clear hb8 HS y0 y1 y2 y3 gl HGU
          have own := HS2.out.own
          obtain ⟨r0, r1, r2, r3⟩ := R.out
          have y0 := (own.cellAt (k * 4) (by omega)).trans r0
          have y1 := (own.cellAt (k * 4 + 1) (by omega)).trans r1
          have y2 := (own.cellAt (k * 4 + 2) (by omega)).trans r2
          have y3 := (own.cellAt (k * 4 + 3) (by omega)).trans r3
          have f0 := own.frozenAt (k * 4); have f1 := own.frozenAt (k * 4 + 1); have f2 := own.frozenAt (k * 4 + 2); have f3 := own.frozenAt (k * 4 + 3)
          have gl : g < w8.heap.size := (own.lt g rfl).2
          have PUT := Lib.hid (HS2.out.put k hkl (grownR u d))
          rw [NEXT.out] at PUT
          clear own r0 r1 r2 r3 R HS2 NEXT
          generalize grownR u d = z at *
          go_wp2_with fail
          go_roundw
          case rel => exact ⟨k + 1, by omega, by go_num, PUT⟩
          case measure => simp [intOf]; omega
        · obtain rfl : k = H.length := by omega
          rw [FirstK_all] at HS
          have hlen : (grownL H d).length = H.length := by simp [grownL]
          have hown : wr.ownsRow w.heap.size 41 4 (.slice A6 H.length c6) (grownL H d).length (rcells (grownL H d)) := by rw [hlen]; exact HS.out.own
          obtain ⟨A2, c2, e2, hrow, _⟩ := own_rects hown
          have eA : A2 = A6 := by injection e2 with e2 _ _; exact e2.symm
          subst eA
          have HC := Lib.hid (fun k hk => HF2.out wr _ k A2 c6 hk rfl hrow)
          have z0 := HS.out.at8.cell0; have z1 := HS.out.at8.cell1; have z2 := HS.out.at8.cell2; have z3 := HS.out.at8.cell3
          have zl := HS.out.at8.lt
          have HBL := Lib.hid HS.out.bel
          clear e2 hrow hown hlen HS HF2 HA6 HG HOK
          generalize H.length = hn at *
          go_wp2_with fail
          refine (HC.out _ rfl).mono ?_
          rintro e9 w9 ⟨v9, rfl, h9, h10⟩
          have hb5 : Below wr.heap.size wr (wr.alloc (.cells #[.int .i64 S.X0, .int .i64 S.Y0, .int .i64 S.X1, .int .i64 S.Y1] 41)) := (Below.refl _ _).alloc (Nat.le_refl _) _
          have hb6 := hb5.trans (h10.mono hb5.size)
          have HO := Lib.hid (own_base h9 (Nat.le_trans HBL.out.size hb5.size))
          have HB9 := Lib.hid (HBL.out.trans (hb6.mono HBL.out.size))
          obtain ⟨A9, c9, rfl, _⟩ := own_rects h9
          clear h9 h10 hb5 hb6 z0 z1 z2 z3 zl HC HBL
          by_cases h200 : 200 < Q.length
          · have s2 : (200 : Int) < (Q.length : Int) := by omega
            have FIN : Hid (ResIs (capR Q) w (.returned (.tuple #[.slice none 0 0, .int .i64 6])) w9) := Lib.hid (by
              unfold capR; rw [if_neg (by omega)]; exact ⟨_, rfl, World.ownsRow_nil _ _ _ _, HB9.out⟩)
            go_wp2_with fail
            go_ret2
            exact FIN.out
          · have s2 : ¬ (200 : Int) < (Q.length : Int) := by omega
            have FIN : Hid (ResIs (capR Q) w (.returned (.tuple #[.slice A9 Q.length c9, .int .i64 0])) w9) := Lib.hid (by
              unfold capR; rw [if_pos (by omega)]; exact ⟨_, rfl, HO.out, HB9.out⟩)
            go_wp2_with fail
            go_ret2
            exact FIN.out
    · have hsf : (shrinkR B d).2 = false := by simpa using hs
      have HN : Hid (capR (eroF l d) = ([], 0)) := Lib.hid (by rw [HE.out, if_neg hs]; rfl)
      rw [HN.out]
      obtain ⟨S, hS⟩ : ∃ S, S = shrinkR B d := ⟨_, rfl⟩
      rw [← hS] at HSH hsf
      clear hS hs HN HE
      obtain ⟨S, Sb⟩ := S
      obtain rfl : Sb = false := hsf
      clear hl hr hd hok hne hbo h24
      go_enter Try.func20, Try.ntmps20
      go_wp2_with fail
      refine HV.out.mono ?_
      rintro e1 w1 ⟨rfl, hb1⟩
      have HB1 := Lib.hid hb1; clear hb1
      go_wp2_with fail
      refine (HBO.out _ HB1.out).mono ?_
      rintro e2 w2 ⟨rfl, hb2⟩
      have HB2 := Lib.hid (HB1.out.trans (hb2.mono HB1.out.size)); clear hb2 HB1
      have HB3 := Lib.hid (HB2.out.alloc HB2.out.size (.cells #[.int .i64 B.X0, .int .i64 B.Y0, .int .i64 B.X1, .int .i64 B.Y1] 41))
      simp only []
      go_wp2_with fail
      generalize w2.heap.size = gb at *
      generalize World.alloc w2 _ = w3 at *
      refine (HSH.out _).mono ?_
      rintro e4 w4 ⟨rfl, hb4⟩
      have HB4 := Lib.hid (HB3.out.trans (hb4.mono HB3.out.size)); clear hb4 HB2 HB3
      have HB5 := Lib.hid (HB4.out.alloc HB4.out.size (.cells #[.int .i64 S.X0, .int .i64 S.Y0, .int .i64 S.X1, .int .i64 S.Y1] 41))
      simp only []
      go_wp2_with fail
      go_ret2
      exact ⟨_, rfl, World.ownsRow_nil _ _ _ _, HB5.out⟩
theorem xshrink_any (A : Option Addr) (cap : Nat) (l : List Rc) (d : Int) (w : World) (hl : RIn w A cap l) (h24 : l.length ≤ 24) : Calls Try.prog 20 #[.slice A l.length cap, .int .i64 d] w (ResIs (shrinkM l d) w) := by
  by_cases hv : RegP l ∧ DistP d
  · exact xshrink_yes A cap l d w hl hv.1 hv.2 h24
  · have HV := Lib.hid (xvalid_any A cap l d w hl)
    rw [decide_eq_false hv] at HV
    rw [show shrinkM l d = ([], 1) from if_neg hv]
    clear hv hl
    go_enter Try.func20, Try.ntmps20
    go_wp2_with fail
    refine HV.out.mono ?_
    rintro e1 w1 ⟨rfl, hb1⟩
    have HB1 := Lib.hid hb1; clear hb1
    go_wp2_with fail
    go_ret2
    exact ⟨_, rfl, World.ownsRow_nil _ _ _ _, HB1.out⟩
end Go.Proofs.Ytcnojedijimheaa
