/-
  Contracts of the reference of layer 8 (2): Gap, Within.
-/
import Derived.Test.YtcnojedijimheaaXb
import Derived.Test.YtcnojedijimheaaSn
import Derived.Test.YtcnojedijimheaaSq
import Derived.Lib.MinMax
import Derived.Deep.AppendLies
import Derived.Deep.RegionHeld3
set_option linter.unusedVariables false
set_option maxRecDepth 100000
namespace Go.Proofs.Ytcnojedijimheaa
open Go.RowKit

set_option maxHeartbeats 8000000 in
theorem xgap_no (A1 : Option Addr) (c1 : Nat) (A2 : Option Addr) (c2 : Nat) (a b : List Rc) (w : World) (ha : RIn w A1 c1 a) (hb : RIn w A2 c2 b) (hn : ¬ (RegP a ∧ RegP b ∧ a ≠ [] ∧ b ≠ [])) :
    Calls Try.prog 22 #[.slice A1 a.length c1, .slice A2 b.length c2] w (GapIs (gapM a b) w) := by
  rw [gapM_no hn]
  by_cases e1 : a = []
  · subst e1
    clear hn ha hb
    go_enter Try.func22, Try.ntmps22
    go_wp2_with fail
    go_ret2
    exact ⟨rfl, by (repeat' first | exact Below.refl _ _ | assumption | (apply below_drewN) | (refine Below.setCell ?_ (by (try simp); (try omega)) _) | (refine Below.alloc ?_ (by (try simp); (try omega)) _) | (refine Below.trans ?_ (Below.mono (Hid.out (by assumption)) (by (try simp); (try omega)))))⟩
  · have q1 : ((a.length : Int) == 0) = false := beq_eq_false_iff_ne.2 (by have := List.length_pos_iff.2 e1; omega)
    by_cases e2 : b = []
    · subst e2
      clear hn ha hb e1
      go_enter Try.func22, Try.ntmps22
      go_wp2_with fail
      go_ret2
      exact ⟨rfl, by (repeat' first | exact Below.refl _ _ | assumption | (apply below_drewN) | (refine Below.setCell ?_ (by (try simp); (try omega)) _) | (refine Below.alloc ?_ (by (try simp); (try omega)) _) | (refine Below.trans ?_ (Below.mono (Hid.out (by assumption)) (by (try simp); (try omega)))))⟩
    · have q2 : ((b.length : Int) == 0) = false := beq_eq_false_iff_ne.2 (by have := List.length_pos_iff.2 e2; omega)
      have HR1 := Lib.hid (vRight_dec A1 c1 a w ha)
      by_cases ra : RegP a
      · rw [decide_eq_true ra] at HR1
        have HR2 := Lib.hid (fun w' (h : Below w.heap.size w w') => vRight_dec A2 c2 b w' (hb.below h))
        rw [show decide (RegP b) = false from decide_eq_false (fun h => hn ⟨ra, h, e1, e2⟩)] at HR2
        clear hn ha hb e1 e2 ra
        go_enter Try.func22, Try.ntmps22
        go_wp2_with fail
        refine HR1.out.mono ?_
        rintro e1 w1 ⟨rfl, hb1⟩
        have HB1 := Lib.hid hb1; clear hb1
        go_wp2_with fail
        refine (HR2.out _ HB1.out).mono ?_
        rintro e2 w2 ⟨rfl, hb2⟩
        have HB2 := Lib.hid (HB1.out.trans (hb2.mono HB1.out.size)); clear hb2 HB1
        go_wp2_with fail
        go_ret2
        exact ⟨rfl, HB2.out⟩
      · rw [decide_eq_false ra] at HR1
        clear hn ha hb e1 e2 ra
        go_enter Try.func22, Try.ntmps22
        go_wp2_with fail
        refine HR1.out.mono ?_
        rintro e1 w1 ⟨rfl, hb1⟩
        have HB1 := Lib.hid hb1; clear hb1
        go_wp2_with fail
        go_ret2
        exact ⟨rfl, HB1.out⟩
/-- what a round of the inner loop reads. -/
def G8 (b1 p b2 q : Nat) (u v : Rc) (w0 w : World) : Prop := w.cell? ⟨b1, p, none⟩ = some (.int .i64 u.X0) ∧ w.cell? ⟨b1, p + 1, none⟩ = some (.int .i64 u.Y0) ∧ w.cell? ⟨b1, p + 2, none⟩ = some (.int .i64 u.X1) ∧ w.cell? ⟨b1, p + 3, none⟩ = some (.int .i64 u.Y1) ∧
    w.cell? ⟨b2, q, none⟩ = some (.int .i64 v.X0) ∧ w.cell? ⟨b2, q + 1, none⟩ = some (.int .i64 v.Y0) ∧ w.cell? ⟨b2, q + 2, none⟩ = some (.int .i64 v.X1) ∧ w.cell? ⟨b2, q + 3, none⟩ = some (.int .i64 v.Y1) ∧ b1 < w.heap.size ∧ b2 < w.heap.size ∧ Hid (Below w0.heap.size w0 w)
theorem G8.go {b1 p b2 q : Nat} {u v : Rc} {w0 w w' : World} (h : G8 b1 p b2 q u v w0 w) (hb : Below w.heap.size w w') : G8 b1 p b2 q u v w0 w' := by
  obtain ⟨x0, x1, x2, x3, y0, y1, y2, y3, l1, l2, hB⟩ := h
  have c := fun b o (hb2 : b < w.heap.size) => hb.cell (p := ⟨b, o, none⟩) hb2
  exact ⟨(c _ _ l1).trans x0, (c _ _ l1).trans x1, (c _ _ l1).trans x2, (c _ _ l1).trans x3, (c _ _ l2).trans y0, (c _ _ l2).trans y1, (c _ _ l2).trans y2, (c _ _ l2).trans y3, Nat.lt_of_lt_of_le l1 hb.size, Nat.lt_of_lt_of_le l2 hb.size, Lib.hid (hB.out.trans (hb.mono hB.out.size))⟩
theorem G8.drewN {b1 p b2 q : Nat} {u v : Rc} {w0 w : World} (h : G8 b1 p b2 q u v w0 w) (n : Nat) : G8 b1 p b2 q u v w0 (w.drewN n) := h.go (below_drewN (Below.refl _ _) n)
set_option maxHeartbeats 16000000 in
theorem xgap_yes (A1 : Option Addr) (c1 : Nat) (A2 : Option Addr) (c2 : Nat) (a b : List Rc) (w : World) (ha : RIn w A1 c1 a) (hb : RIn w A2 c2 b) (hra : RegP a) (hrb : RegP b) (hna : a ≠ []) (hnb : b ≠ []) :
    Calls Try.prog 22 #[.slice A1 a.length c1, .slice A2 b.length c2] w (GapIs (gapM a b) w) := by
  rw [show gapM a b = (gapL a b 1048576, true) from if_pos ⟨hra, hrb, hna, hnb⟩]
  have HR1 := Lib.hid (vRight_dec A1 c1 a w ha)
  have HR2 := Lib.hid (fun w' (h : Below w.heap.size w w') => vRight_dec A2 c2 b w' (hb.below h))
  rw [decide_eq_true hra] at HR1
  rw [decide_eq_true hrb] at HR2
  have HA := Lib.hid ha; have HBb := Lib.hid hb
  have HOA := Lib.hid (form_ok hra.1)
  have HOB := Lib.hid (form_ok hrb.1)
  have e0 : ((a.length : Int) == 0) = false := by have := List.length_pos_iff.2 hna; simp; omega
  have e1 : ((b.length : Int) == 0) = false := by have := List.length_pos_iff.2 hnb; simp; omega
  have hal := hra.2; have hbl := hrb.2
  clear ha hb hra hrb hna hnb
  go_enter Try.func22, Try.ntmps22
  go_wp2_with fail
  refine HR1.out.mono ?_
  rintro e1 w1 ⟨rfl, hb1⟩
  have HB1 := Lib.hid hb1; clear hb1
  go_wp2_with fail
  refine (HR2.out _ HB1.out).mono ?_
  rintro e2 w2 ⟨rfl, hb2⟩
  have HB2 := Lib.hid (HB1.out.trans (hb2.mono HB1.out.size)); clear hb2 HB1
  go_wp2_with fail
  go_loopw [6, 7, 8] (fun m i _ wr => ∃ k : Nat, k ≤ a.length ∧ i = .int .i64 k ∧ m = .int .i64 (gapL (a.take k) b 1048576) ∧ Hid (Below w.heap.size w wr)) (fun _ i _ _ => a.length - (intOf i).toNat)
  case atStart => exact ⟨0, Nat.zero_le _, rfl, rfl, HB2⟩
  case round =>
    clear HB2
    obtain ⟨k, hk, rfl, rfl, HB⟩ := hrel
    by_cases hlt : k < a.length
    · obtain ⟨b1, o1, rfl, hb1, hv1⟩ := HA.out.row (by omega)
      obtain ⟨x0, x1, x2, x3⟩ := hv1 k hlt
      have HU := Lib.hid (show b1 < w.heap.size from hb1)
      have i0 : (0 : Int) ≤ (k : Int) := by omega
      have i1 : (k : Int) < (a.length : Int) := by omega
      have HN := Lib.hid (gapL_next a b 1048576 k hlt)
      have HOU := Lib.hid (HOA.out _ (List.getElem_mem hlt))
      obtain ⟨u, hu⟩ : ∃ u, u = a[k] := ⟨_, rfl⟩
      rw [← hu] at x0 x1 x2 x3 HN HOU
      have X0 := Lib.hid x0; have X1 := Lib.hid x1; have X2 := Lib.hid x2; have X3 := Lib.hid x3
      clear hu hv1 hb1 x0 x1 x2 x3
      obtain ⟨m0, hm0⟩ : ∃ m0, m0 = gapL (a.take k) b 1048576 := ⟨_, rfl⟩
      rw [← hm0] at HN ⊢
      clear hm0
      go_wp2_with fail
      go_loopw [6, 8] (fun m i w3 => ∃ j : Nat, j ≤ b.length ∧ i = .int .i64 j ∧ m = .int .i64 (gapRow u (b.take j) m0) ∧ Hid (Below w.heap.size w w3)) (fun _ i _ => b.length - (intOf i).toNat)
      case atStart => exact ⟨0, Nat.zero_le _, rfl, rfl, HB⟩
      case round =>
        clear HB
        obtain ⟨j, hj, rfl, rfl, HB⟩ := hrel
        by_cases hjt : j < b.length
        · obtain ⟨b2, o2, rfl, hb2, hv2⟩ := HBb.out.row (by omega)
          obtain ⟨y0, y1, y2, y3⟩ := hv2 j hjt
          have wc := fun o => HB.out.cell (p := ⟨b2, o, none⟩) hb2
          have y0 := (wc _).trans y0; have y1 := (wc _).trans y1; have y2 := (wc _).trans y2; have y3 := (wc _).trans y3
          have wd := fun o => HB.out.cell (p := ⟨b1, o, none⟩) HU.out
          have x0 := (wd _).trans X0.out; have x1 := (wd _).trans X1.out; have x2 := (wd _).trans X2.out; have x3 := (wd _).trans X3.out
          clear hv2 wc wd
          have j0 : (0 : Int) ≤ (j : Int) := by omega
          have j1 : (j : Int) < (b.length : Int) := by omega
          have HN2 := Lib.hid (gapRow_next u b m0 j hjt)
          have HOV := Lib.hid (HOB.out _ (List.getElem_mem hjt))
          obtain ⟨v, hv⟩ : ∃ v, v = b[j] := ⟨_, rfl⟩
          rw [← hv] at y0 y1 y2 y3 HN2 HOV
          clear hv
          obtain ⟨m1, hm1⟩ : ∃ m1, m1 = gapRow u (b.take j) m0 := ⟨_, rfl⟩
          rw [← hm1] at HN2 ⊢
          clear hm1
          have E1 : Hid (G8 b1 (o1 + k * 4) b2 (o2 + j * 4) u v w wr) := Lib.hid ⟨x0, x1, x2, x3, y0, y1, y2, y3, Nat.lt_of_lt_of_le HU.out HB.out.size, Nat.lt_of_lt_of_le hb2 HB.out.size, HB⟩
          have HGP := Lib.hid (fun w' => ugap_any u v (InR_of HOU.out) (InR_of HOV.out) w')
          clear x0 x1 x2 x3 y0 y1 y2 y3 HB hb2
          go_wp2_with fail
          go_region_held3 (fun w' => w'.cell? ⟨b1, o1 + k * 4, none⟩ = some (.int .i64 u.X0) ∧ w'.cell? ⟨b1, o1 + k * 4 + 1, none⟩ = some (.int .i64 u.Y0) ∧ w'.cell? ⟨b1, o1 + k * 4 + 2, none⟩ = some (.int .i64 u.X1) ∧ w'.cell? ⟨b1, o1 + k * 4 + 3, none⟩ = some (.int .i64 u.Y1) ∧
              w'.cell? ⟨b2, o2 + j * 4, none⟩ = some (.int .i64 v.X0) ∧ w'.cell? ⟨b2, o2 + j * 4 + 1, none⟩ = some (.int .i64 v.Y0) ∧ w'.cell? ⟨b2, o2 + j * 4 + 2, none⟩ = some (.int .i64 v.X1) ∧ w'.cell? ⟨b2, o2 + j * 4 + 3, none⟩ = some (.int .i64 v.Y1) ∧ b1 < w'.heap.size ∧ b2 < w'.heap.size ∧ Hid (Below w.heap.size w w'))
            (first | exact E1.out | exact G8.drewN E1.out 1 | exact G8.go ‹_› ‹_› | assumption)
            (first | (go_at_call 62; refine (HGP.out _).mono ?_; rintro e w' ⟨rfl, hb⟩) | fail)
          have E2 : G8 b1 (o1 + k * 4) b2 (o2 + j * 4) u v w w' := by assumption
          have HB := Lib.hid E2.2.2.2.2.2.2.2.2.2.2.out
          clear E1
          go_wp2_with fail
          go_roundw
          case rel => exact ⟨j + 1, by omega, by go_num, by rw [HN2.out], HB⟩
          case measure => simp [intOf]; omega
        · obtain rfl : j = b.length := by omega
          have e : gapRow u (b.take b.length) m0 = gapL (a.take (k + 1)) b 1048576 := by rw [List.take_length, HN.out]
          rw [e]
          clear HN e
          obtain ⟨m2, hm2⟩ : ∃ m2, m2 = gapL (a.take (k + 1)) b 1048576 := ⟨_, rfl⟩
          have HM2 := Lib.hid hm2
          rw [← hm2]
          clear hm2
          go_wp2_with fail
          go_roundw
          case rel => exact ⟨k + 1, by omega, by go_num, by rw [HM2.out], HB⟩
          case measure => simp [intOf]; omega
    · obtain rfl : k = a.length := by omega
      rw [List.take_length]
      go_wp2_with fail
      go_ret2
      exact ⟨rfl, HB.out⟩
theorem xgap_any (A1 : Option Addr) (c1 : Nat) (A2 : Option Addr) (c2 : Nat) (a b : List Rc) (w : World) (ha : RIn w A1 c1 a) (hb : RIn w A2 c2 b) :
    Calls Try.prog 22 #[.slice A1 a.length c1, .slice A2 b.length c2] w (GapIs (gapM a b) w) := by
  by_cases h : RegP a ∧ RegP b ∧ a ≠ [] ∧ b ≠ []
  · exact xgap_yes A1 c1 A2 c2 a b w ha hb h.1 h.2.1 h.2.2.1 h.2.2.2
  · exact xgap_no A1 c1 A2 c2 a b w ha hb h
set_option maxHeartbeats 16000000 in
theorem xwithin_any (A1 : Option Addr) (c1 : Nat) (A2 : Option Addr) (c2 : Nat) (a : List Rc) (LL : List (List Rc)) (d : Int) (w : World) (ha : RIn w A1 c1 a) (hL : LIn w A2 LL) (hlen : LL.length ≤ 1073741824) :
    Calls Try.prog 25 #[.slice A1 a.length c1, .slice A2 LL.length c2, .int .i64 d] w (WinIs (winK a d LL LL.length) w) := by
  obtain ⟨i0, hi9, hz0, hz1, hz2⟩ := info_parts infoInt
  have HA := Lib.hid ha; have HL := Lib.hid hL
  clear ha hL
  have K0 : Hid (OwnI (.slice none 0 0) (winK a d LL 0) w w) := Lib.hid ⟨World.ownsRow_nil _ _ _ _, Below.refl _ _⟩
  go_enter Try.func25, Try.ntmps25
  go_wp2
  go_loopw [7, 8, 9, 10] (fun v i _ _ wr => ∃ (k : Nat) (v0 : Value), k ≤ LL.length ∧ i = .int .i64 k ∧ v0 = v ∧ Hid (OwnI v0 (winK a d LL k) w wr)) (fun _ i _ _ _ => LL.length - (intOf i).toNat)
  case atStart => exact ⟨0, _, Nat.zero_le _, rfl, rfl, K0⟩
  case round =>
    clear K0
    obtain ⟨k, v0, hk, rfl, rfl, HO⟩ := hrel
    by_cases hlt : k < LL.length
    · obtain ⟨b1, o1, rfl, hb1, hv1⟩ := HL.out (by omega)
      obtain ⟨Aj, cj, x0, hrow⟩ := hv1 k hlt
      have x0 := (HO.out.bel.cell (p := ⟨b1, o1 + k, none⟩) hb1).trans x0
      have j0 : (0 : Int) ≤ (k : Int) := by omega
      have j1 : (k : Int) < (LL.length : Int) := by omega
      have HN := Lib.hid (winK_next a d LL k hlt)
      have hln := winK_len a d LL k
      have HROW := Lib.hid hrow
      clear hv1 hrow
      obtain ⟨b, hb⟩ : ∃ b, b = LL[k] := ⟨_, rfl⟩
      rw [← hb] at x0 HN HROW
      clear hb
      have HNP : Hid (NearP a d b ↔ (gapM a b).2 = true ∧ (gapM a b).1 ≤ d) := Lib.hid Iff.rfl
      obtain ⟨X, hX⟩ : ∃ X, X = winK a d LL k := ⟨_, rfl⟩
      rw [← hX] at HO HN hln
      clear hX
      have HG := Lib.hid (xgap_any A1 c1 Aj cj a b wr (HA.out.below HO.out.bel) (HROW.out.below HO.out.bel))
      generalize gapM a b = gm at *
      obtain ⟨gn, gb⟩ := gm
      simp only [] at HNP
      go_wp2_with fail
      refine HG.out.mono ?_
      rintro e4 w4 ⟨rfl, hb4⟩
      have HO2 := Lib.hid (own_step HO.out hb4)
      have hbs := HO2.out.bel.size
      clear hb4 HO HG x0 HROW
      simp only []
      cases gb with
      | false =>
        rw [if_neg (fun h => by have := (HNP.out.1 h).1; cases this), List.append_nil] at HN
        have HO3 : Hid (OwnI v0 (winK a d LL (k + 1)) w w4) := Lib.hid (by rw [HN.out]; exact HO2.out)
        clear HN HO2 HNP
        go_wp2_with fail
        go_roundw
        case rel => exact ⟨k + 1, v0, by omega, by go_num, rfl, HO3⟩
        case measure => simp [intOf]; omega
      | true =>
        by_cases c : gn ≤ d
        · rw [if_pos (HNP.out.2 ⟨rfl, c⟩)] at HN
          have HOWN := Lib.hid HO2.out.own
          clear HNP
          go_wp2_with (at_builtin; refine wpList_append_own _ rfl _ _ 35 rfl w.heap.size 3 i0 (.int .i64 0) 1 8 Try.underlying35 hi9 hz0 hz1 hz2 rfl (by decide) _ _ _ rfl (HOWN.out.alloc _) ⟨w4.heap.size, 0, none⟩ 1 1 [.int .i64 (k : Int)] rfl rfl ?c1 ?c2 ?c3 ?c4 ?c5 ?_)
          case c1 =>
            intro t z ht
            match t, ht with
            | 0, ht => simp at ht; subst ht; simp [Addr.add]
          case c2 => intro z hz; simp at hz; subst hz; rfl
          case c3 => unfold maxLen; omega
          case c4 => omega
          case c5 => simp; omega
          intro v4 w5 hown4 hgr4 _
          have HO4 : Hid (OwnI v4 (winK a d LL (k + 1)) w w5) := Lib.hid (by
            rw [HN.out]
            refine own_grow (own_step HO2.out ((Below.refl _ _).alloc (Nat.le_refl _) (.cells #[.int .i64 (k : Int)] 3))) ?_ hgr4
            rw [icells_snoc1, List.length_append]; exact hown4)
          clear hown4 hgr4 HOWN HO2 HN
          go_wp2_with fail
          go_roundw
          case rel => exact ⟨k + 1, v4, by omega, by go_num, rfl, HO4⟩
          case measure => simp [intOf]; omega
        · rw [if_neg (fun h => c (HNP.out.1 h).2), List.append_nil] at HN
          have HO3 : Hid (OwnI v0 (winK a d LL (k + 1)) w w4) := Lib.hid (by rw [HN.out]; exact HO2.out)
          clear HN HO2 HNP
          go_wp2_with fail
          go_roundw
          case rel => exact ⟨k + 1, v0, by omega, by go_num, rfl, HO3⟩
          case measure => simp [intOf]; omega
    · obtain rfl : k = LL.length := by omega
      obtain ⟨A3, c3, rfl, hrow⟩ := IRow.of_own HO.out.own
      have HROW := Lib.hid hrow; have HB := Lib.hid HO.out.bel
      clear hrow HO
      generalize winK a d LL LL.length = G at *
      go_wp2_with fail
      go_ret
      exact ⟨_, _, rfl, HROW.out, HB.out⟩
end Go.Proofs.Ytcnojedijimheaa
