/-
  Contracts of the program's layer 8 (8): Gap, Within.
-/
import Derived.Test.YtcnojedijimheaaHr
import Derived.Test.YtcnojedijimheaaSd
import Derived.Test.YtcnojedijimheaaSf
import Derived.Lib.MinMax
import Derived.Deep.AppendLies
set_option linter.unusedVariables false
set_option maxRecDepth 100000
namespace Go.Proofs.Ytcnojedijimheaa
open Go.RowKit

noncomputable def gapM (a b : List Rc) : Int × Bool := if RegP a ∧ RegP b ∧ a ≠ [] ∧ b ≠ [] then (gapL a b 1048576, true) else (0, false)
def GapIs (x : Int × Bool) (w : World) (e : Ending) (w' : World) : Prop := e = .returned (.tuple #[.int .i64 x.1, .bool x.2]) ∧ Below w.heap.size w w'
theorem gapM_no {a b : List Rc} (h : ¬ (RegP a ∧ RegP b ∧ a ≠ [] ∧ b ≠ [])) : gapM a b = (0, false) := if_neg h
theorem gapL_next (a b : List Rc) (m : Int) (k : Nat) (h : k < a.length) : gapL (a.take (k + 1)) b m = gapRow a[k] b (gapL (a.take k) b m) := by rw [List.take_succ_eq_append_getElem h, gapL_snoc]
theorem gapRow_next (r : Rc) (b : List Rc) (m : Int) (k : Nat) (h : k < b.length) : gapRow r (b.take (k + 1)) m = min (gapRow r (b.take k) m) (gapR r b[k]) := by rw [List.take_succ_eq_append_getElem h, gapRow_snoc]
set_option maxHeartbeats 8000000 in
theorem ygap_no (A1 : Option Addr) (c1 : Nat) (A2 : Option Addr) (c2 : Nat) (a b : List Rc) (w : World) (ha : RIn w A1 c1 a) (hb : RIn w A2 c2 b) (hn : ¬ (RegP a ∧ RegP b ∧ a ≠ [] ∧ b ≠ [])) :
    Calls Try.prog 21 #[.slice A1 a.length c1, .slice A2 b.length c2] w (GapIs (gapM a b) w) := by
  rw [gapM_no hn]
  by_cases hra : RegP a
  · have HR1 := Lib.hid (gright_yes A1 c1 a w ha.row ha.len ha.room ha.room2 hra)
    by_cases hrb : RegP b
    · have HR2 := Lib.hid (fun w' (h : Below w.heap.size w w') => gright_yes A2 c2 b w' (hb.below h).row hb.len hb.room hb.room2 hrb)
      have he : a = [] ∨ (0 < a.length ∧ b = []) := by
        by_cases e1 : a = []
        · exact Or.inl e1
        · refine Or.inr ⟨List.length_pos_iff.2 e1, Classical.byContradiction fun e2 => hn ⟨hra, hrb, e1, e2⟩⟩
      clear hra hrb hn ha hb
      rcases he with rfl | ⟨h0, rfl⟩
      · go_enter Try.func21, Try.ntmps21
        go_wp2_with fail
        refine HR1.out.mono ?_
        rintro e1 w1 ⟨rfl, hb1⟩
        have HB1 := Lib.hid hb1; clear hb1
        go_wp2_with fail
        refine (HR2.out _ HB1.out).mono ?_
        rintro e2 w2 ⟨rfl, hb2⟩
        have HB2 := Lib.hid (HB1.out.trans (hb2.mono HB1.out.size)); clear hb2 HB1
        go_wp2_with fail
        go_ret2
        exact ⟨rfl, HB2.out⟩
      · have e0 : ((a.length : Int) == 0) = false := beq_eq_false_iff_ne.2 (by omega)
        go_enter Try.func21, Try.ntmps21
        go_wp2_with fail
        refine HR1.out.mono ?_
        rintro e1 w1 ⟨rfl, hb1⟩
        have HB1 := Lib.hid hb1; clear hb1
        go_wp2_with fail
        refine (HR2.out _ HB1.out).mono ?_
        rintro e2 w2 ⟨rfl, hb2⟩
        have HB2 := Lib.hid (HB1.out.trans (hb2.mono HB1.out.size)); clear hb2 HB1
        go_wp2_with fail
        go_ret2
        exact ⟨rfl, HB2.out⟩
    · have HR2 := Lib.hid (fun w' (h : Below w.heap.size w w') => gright_no A2 c2 b w' (hb.below h).row hb.len hb.room hb.room2 hrb)
      clear hra hrb hn ha hb
      go_enter Try.func21, Try.ntmps21
      go_wp2_with fail
      refine HR1.out.mono ?_
      rintro e1 w1 ⟨rfl, hb1⟩
      have HB1 := Lib.hid hb1; clear hb1
      go_wp2_with fail
      refine (HR2.out _ HB1.out).mono ?_
      rintro e2 w2 ⟨rfl, hb2⟩
      have HB2 := Lib.hid (HB1.out.trans (hb2.mono HB1.out.size)); clear hb2 HB1
      go_wp2_with fail
      go_ret2
      exact ⟨rfl, HB2.out⟩
  · have HR1 := Lib.hid (gright_no A1 c1 a w ha.row ha.len ha.room ha.room2 hra)
    clear hra hn ha hb
    go_enter Try.func21, Try.ntmps21
    go_wp2_with fail
    refine HR1.out.mono ?_
    rintro e1 w1 ⟨rfl, hb1⟩
    have HB1 := Lib.hid hb1; clear hb1
    go_wp2_with fail
    go_ret2
    exact ⟨rfl, HB1.out⟩
set_option maxHeartbeats 16000000 in
theorem ygap_yes (A1 : Option Addr) (c1 : Nat) (A2 : Option Addr) (c2 : Nat) (a b : List Rc) (w : World) (ha : RIn w A1 c1 a) (hb : RIn w A2 c2 b) (hra : RegP a) (hrb : RegP b) (hna : a ≠ []) (hnb : b ≠ []) :
    Calls Try.prog 21 #[.slice A1 a.length c1, .slice A2 b.length c2] w (GapIs (gapM a b) w) := by
  rw [show gapM a b = (gapL a b 1048576, true) from if_pos ⟨hra, hrb, hna, hnb⟩]
  have HR1 := Lib.hid (gright_yes A1 c1 a w ha.row ha.len ha.room ha.room2 hra)
  have HR2 := Lib.hid (fun w' (h : Below w.heap.size w w') => gright_yes A2 c2 b w' (hb.below h).row hb.len hb.room hb.room2 hrb)
  have HA := Lib.hid ha; have HBb := Lib.hid hb
  have e0 : ((a.length : Int) == 0) = false := by have := List.length_pos_iff.2 hna; simp; omega
  have e1 : ((b.length : Int) == 0) = false := by have := List.length_pos_iff.2 hnb; simp; omega
  have hal := hra.2; have hbl := hrb.2
  clear ha hb hra hrb hna hnb
  go_enter Try.func21, Try.ntmps21
  go_wp2_with fail
  refine HR1.out.mono ?_
  rintro e1 w1 ⟨rfl, hb1⟩
  have HB1 := Lib.hid hb1; clear hb1
  go_wp2_with fail
  refine (HR2.out _ HB1.out).mono ?_
  rintro e2 w2 ⟨rfl, hb2⟩
  have HB2 := Lib.hid (HB1.out.trans (hb2.mono HB1.out.size)); clear hb2 HB1
  go_wp2_with fail
  go_loopw [6, 31] (fun m i wr => ∃ k : Nat, k ≤ a.length ∧ i = .int .i64 k ∧ m = .int .i64 (gapL (a.take k) b 1048576) ∧ Hid (Below w.heap.size w wr)) (fun _ i _ => a.length - (intOf i).toNat)
  case atStart => exact ⟨0, Nat.zero_le _, rfl, rfl, HB2⟩
  case round =>
    clear HB2
    obtain ⟨k, hk, rfl, rfl, HB⟩ := hrel
    by_cases hlt : k < a.length
    · obtain ⟨b1, o1, rfl, hb1, hv1⟩ := HA.out.row (by omega)
      obtain ⟨x0, x1, x2, x3⟩ := hv1 k hlt
      have wc := fun o => HB.out.cell (p := ⟨b1, o, none⟩) hb1
      have x0 := (wc _).trans x0; have x1 := (wc _).trans x1; have x2 := (wc _).trans x2; have x3 := (wc _).trans x3
      clear hv1 wc
      have i0 : (0 : Int) ≤ (k : Int) := by omega
      have i1 : (k : Int) < (a.length : Int) := by omega
      have HN := Lib.hid (gapL_next a b 1048576 k hlt)
      obtain ⟨u, hu⟩ : ∃ u, u = a[k] := ⟨_, rfl⟩
      rw [← hu] at x0 x1 x2 x3 HN
      clear hu
      obtain ⟨m0, hm0⟩ : ∃ m0, m0 = gapL (a.take k) b 1048576 := ⟨_, rfl⟩
      rw [← hm0] at HN ⊢
      clear hm0
      have K0 : Hid (RcAt (wr.alloc (.cells #[.int .i64 u.X0, .int .i64 u.Y0, .int .i64 u.X1, .int .i64 u.Y1] 41)) wr.heap.size u ∧ Below w.heap.size w (wr.alloc (.cells #[.int .i64 u.X0, .int .i64 u.Y0, .int .i64 u.X1, .int .i64 u.Y1] 41))) := Lib.hid ⟨RcAt.new wr u _ rfl, HB.out.alloc HB.out.size _⟩
      have hbs := HB.out.size
      obtain ⟨wo, rfl⟩ : ∃ wo : World, wo = wr := ⟨_, rfl⟩
      clear HB
      go_wp2_with fail
      clear x0 x1 x2 x3
      go_loopw [6, 37] (fun m i w3 => ∃ j : Nat, j ≤ b.length ∧ i = .int .i64 j ∧ m = .int .i64 (gapRow u (b.take j) m0) ∧ Hid (RcAt w3 wo.heap.size u ∧ Below w.heap.size w w3)) (fun _ i _ => b.length - (intOf i).toNat)
      case atStart => exact ⟨0, Nat.zero_le _, rfl, rfl, K0⟩
      case round =>
        clear K0
        obtain ⟨j, hj, rfl, rfl, HK⟩ := hrel
        by_cases hjt : j < b.length
        · obtain ⟨b2, o2, rfl, hb2, hv2⟩ := HBb.out.row (by omega)
          obtain ⟨y0, y1, y2, y3⟩ := hv2 j hjt
          have wc := fun o => HK.out.2.cell (p := ⟨b2, o, none⟩) hb2
          have y0 := (wc _).trans y0; have y1 := (wc _).trans y1; have y2 := (wc _).trans y2; have y3 := (wc _).trans y3
          clear hv2 wc
          have j0 : (0 : Int) ≤ (j : Int) := by omega
          have j1 : (j : Int) < (b.length : Int) := by omega
          have HN2 := Lib.hid (gapRow_next u b m0 j hjt)
          obtain ⟨v, hv⟩ : ∃ v, v = b[j] := ⟨_, rfl⟩
          rw [← hv] at y0 y1 y2 y3 HN2
          clear hv
          obtain ⟨m1, hm1⟩ : ∃ m1, m1 = gapRow u (b.take j) m0 := ⟨_, rfl⟩
          rw [← hm1] at HN2 ⊢
          clear hm1
          have z0 := HK.out.1.cell0; have z1 := HK.out.1.cell1; have z2 := HK.out.1.cell2; have z3 := HK.out.1.cell3
          have zl := HK.out.1.lt
          have hbs2 := HK.out.2.size
          have K1 : Hid (RcAt (wr.alloc (.cells #[.int .i64 v.X0, .int .i64 v.Y0, .int .i64 v.X1, .int .i64 v.Y1] 41)) wo.heap.size u ∧ Below w.heap.size w (wr.alloc (.cells #[.int .i64 v.X0, .int .i64 v.Y0, .int .i64 v.X1, .int .i64 v.Y1] 41))) := Lib.hid ⟨HK.out.1.alloc _, HK.out.2.alloc hbs2 _⟩
          clear HK
          go_wp2_with fail
          refine (tgap_any u v _).mono ?_
          rintro e3 w3 ⟨rfl, hb3⟩
          have K2 : Hid (RcAt w3 wo.heap.size u ∧ Below w.heap.size w w3) := Lib.hid ⟨K1.out.1.below hb3 K1.out.1.lt, K1.out.2.trans (hb3.mono K1.out.2.size)⟩
          clear hb3 K1 y0 y1 y2 y3 z0 z1 z2 z3
          go_wp2_with fail
          go_roundw
          case rel => exact ⟨j + 1, by omega, by go_num, by rw [HN2.out], K2⟩
          case measure => simp [intOf]; omega
        · obtain rfl : j = b.length := by omega
          have e : gapRow u (b.take b.length) m0 = gapL (a.take (k + 1)) b 1048576 := by rw [List.take_length, HN.out]
          rw [e]
          have HKB := Lib.hid HK.out.2
          clear HK HN e
          obtain ⟨m2, hm2⟩ : ∃ m2, m2 = gapL (a.take (k + 1)) b 1048576 := ⟨_, rfl⟩
          have HM2 := Lib.hid hm2
          rw [← hm2]
          clear hm2
          go_wp2_with fail
          go_roundw
          case rel => exact ⟨k + 1, by omega, by go_num, by rw [HM2.out], HKB⟩
          case measure => simp [intOf]; omega
    · obtain rfl : k = a.length := by omega
      rw [List.take_length]
      go_wp2_with fail
      go_ret2
      exact ⟨rfl, HB.out⟩
theorem ygap_any (A1 : Option Addr) (c1 : Nat) (A2 : Option Addr) (c2 : Nat) (a b : List Rc) (w : World) (ha : RIn w A1 c1 a) (hb : RIn w A2 c2 b) :
    Calls Try.prog 21 #[.slice A1 a.length c1, .slice A2 b.length c2] w (GapIs (gapM a b) w) := by
  by_cases h : RegP a ∧ RegP b ∧ a ≠ [] ∧ b ≠ []
  · exact ygap_yes A1 c1 A2 c2 a b w ha hb h.1 h.2.1 h.2.2.1 h.2.2.2
  · exact ygap_no A1 c1 A2 c2 a b w ha hb h
end Go.Proofs.Ytcnojedijimheaa
