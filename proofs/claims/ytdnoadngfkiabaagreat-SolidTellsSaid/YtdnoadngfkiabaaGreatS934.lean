/-
  Contracts of the program's layer 9, 8: both, Union, Common, Minus.
-/
import Derived.Test.YtdnoadngfkiabaaGreatS933
set_option linter.unusedVariables false
set_option maxRecDepth 100000
namespace Go.Proofs.YtdnoadngfkiabaaGreat
open Go.RowKit

theorem eg_bbc : ∀ args w, (callFunc 74 args).run Tryz.prog w = .ok (.enter 74 args) w := enters_of Tryz.func74 (by kernel_rfl) rfl
def htL (LL : List (List Sl)) : List Int := LL.flatMap htS
theorem htL_next (LL : List (List Sl)) (k : Nat) (h : k < LL.length) : htL (LL.take (k + 1)) = htL (LL.take k) ++ htS LL[k] := by
  unfold htL; rw [List.take_succ_eq_append_getElem h, List.flatMap_append]; simp
set_option maxHeartbeats 40000000 in
theorem bboth_any (K : Nat) (eg : ∀ args w, (callFunc K args).run Tryz.prog w = .ok (.enter K args) w) (op : Bool → Bool → Bool) (h0 : op false false = false) (hop : OpOk K op) (A1 : Option Addr) (c1 : Nat) (A2 : Option Addr) (c2 : Nat) (a b : List Sl) (w : World)
    (ha : SIn w A1 c1 a) (hb : SIn w A2 c2 b) : Calls Tryz.prog 45 #[.slice A1 a.length c1, .slice A2 b.length c2, .func (.func K) #[] #[]] w (SolRes (opS op a b) w) := by
  obtain ⟨W, hW⟩ : ∃ W, W = ((w.alloc (.cells #[.slice A1 a.length c1] 22)).alloc (.cells #[.slice A2 b.length c2] 22)).alloc (.cells #[.func (.func K) #[] #[]] 63) := ⟨_, rfl⟩
  have hwW : Below w.heap.size w W := by rw [hW]; exact (((Below.refl _ _).alloc (Nat.le_refl _) _).alloc (by simp) _).alloc (by simp; omega) _
  have g0 : W.heap[w.heap.size]? = some (.cells #[.slice A1 a.length c1] 22 (0, 0)) := by
    have e1 := heap_alloc_new w (.cells #[.slice A1 a.length c1] 22)
    have hb1 : Below (w.heap.size + 1) (w.alloc (.cells #[.slice A1 a.length c1] 22)) W := by rw [hW]; exact ((Below.refl _ _).alloc (by simp) _).alloc (by simp) _
    exact (hb1.block _ (by omega)).trans e1
  have g1 : W.heap[w.heap.size + 1]? = some (.cells #[.slice A2 b.length c2] 22 (0, 0)) := by
    have e1 := heap_alloc_new (w.alloc (.cells #[.slice A1 a.length c1] 22)) (.cells #[.slice A2 b.length c2] 22)
    rw [show (w.alloc (.cells #[.slice A1 a.length c1] 22)).heap.size = w.heap.size + 1 by simp] at e1
    have hb1 : Below (w.heap.size + 2) ((w.alloc (.cells #[.slice A1 a.length c1] 22)).alloc (.cells #[.slice A2 b.length c2] 22)) W := by rw [hW]; exact (Below.refl _ _).alloc (by simp) _
    exact (hb1.block _ (by omega)).trans e1
  have g2 : W.heap[w.heap.size + 2]? = some (.cells #[.func (.func K) #[] #[]] 63 (0, 0)) := by
    have e1 := heap_alloc_new ((w.alloc (.cells #[.slice A1 a.length c1] 22)).alloc (.cells #[.slice A2 b.length c2] 22)) (.cells #[.func (.func K) #[] #[]] 63)
    rw [show ((w.alloc (.cells #[.slice A1 a.length c1] 22)).alloc (.cells #[.slice A2 b.length c2] 22)).heap.size = w.heap.size + 2 by simp] at e1
    rw [hW]; exact e1
  have hlt2 : w.heap.size + 2 < W.heap.size := (Array.getElem?_eq_some_iff.1 g2).1
  have hzx : Zx (w.heap.size + 2) w.heap.size (w.heap.size + 1) K A1 a.length c1 A2 b.length c2 W W := ⟨by rw [Lib.cell_of_heap g2]; rfl, by rw [Lib.cell_of_heap g0]; rfl, by rw [Lib.cell_of_heap g1]; rfl, hlt2, by omega, by omega, Lib.hid (Below.refl _ _)⟩
  have HZX : Hid (∀ w', Below W.heap.size W w' → Zx (w.heap.size + 2) w.heap.size (w.heap.size + 1) K A1 a.length c1 A2 b.length c2 W w') := Lib.hid (fun w' hb => hzx.go hb)
  have HA := Lib.hid (ha.below hwW); have HB := Lib.hid (hb.below hwW); have HWW := Lib.hid hwW
  obtain ⟨y2, y0, y1, yl2, yl0, yl1, _⟩ := hzx
  obtain ⟨i0, hi9, hz0, hz1, hz2⟩ := info_parts infoInt
  have FALSE : Hid (∀ w', Below W.heap.size W w' → ¬ (SolP a ∧ SolP b) → SolRes (opS op a b) w (.returned (.tuple #[.slice none 0 0, .int .i64 1])) w') := Lib.hid (fun w' hb hn => by
    rw [opS_arg hn]
    exact ⟨none, 0, rfl, SIn.nil _, HWW.out.trans (hb.mono HWW.out.size)⟩)
  clear ha hb hwW g0 g1 g2
  by_cases pa : SolP a
  · have HRA := Lib.hid (bright_yes HA.out pa)
    by_cases pb : SolP b
    · have HRB := Lib.hid (fun w' (h : Below W.heap.size W w') => bright_yes (HB.out.below h) pb)
      have HPA := Lib.hid pa; have HPB := Lib.hid pb
      have hal := pa.len; have hbl := pb.len
      clear pa pb FALSE
      go_enter Tryz.func45, Tryz.ntmps45
      go_wp2_with fail
      rw [← hW]
      clear hW
      refine HRA.out.mono ?_
      rintro e w1 ⟨rfl, hb1⟩
      obtain ⟨y2, y0, y1, yl2, yl0, yl1, _⟩ := HZX.out w1 hb1
      have HRB1 := Lib.hid (HRB.out w1 hb1)
      have HB1 := Lib.hid hb1
      clear hb1 HRA HRB
      go_wp2_with fail
      refine HRB1.out.mono ?_
      rintro e w2 ⟨rfl, hb2⟩
      have HB2 := Lib.hid (HB1.out.trans (hb2.mono HB1.out.size))
      clear hb2 HRB1 HB1 y0 y1 y2 yl0 yl1 yl2
      obtain ⟨y2, y0, y1, yl2, yl0, yl1, _⟩ := HZX.out w2 HB2.out
      obtain ⟨WL, hWL⟩ : ∃ WL, WL = w2.alloc (.cells #[.slice A1 a.length c1, .slice A2 b.length c2] 22) := ⟨_, rfl⟩
      have HBL : Hid (Below W.heap.size W WL) := Lib.hid (by rw [hWL]; exact HB2.out.alloc HB2.out.size _)
      have gl : WL.heap[w2.heap.size]? = some (.cells #[.slice A1 a.length c1, .slice A2 b.length c2] 22 (0, 0)) := by rw [hWL]; exact heap_alloc_new w2 _
      have hltL : w2.heap.size < WL.heap.size := (Array.getElem?_eq_some_iff.1 gl).1
      have HLL : Hid (∀ k (h : k < [a, b].length), ∃ A c, (∀ wr, Below WL.heap.size WL wr → wr.cell? ⟨w2.heap.size, k, none⟩ = some (.slice A ([a, b][k]).length c)) ∧ SIn WL A c [a, b][k] ∧ ([a, b][k]).length ≤ 80) := Lib.hid (by
        intro k hk
        have hk2 : k = 0 ∨ k = 1 := by simp at hk; omega
        rcases hk2 with rfl | rfl
        · exact ⟨A1, c1, fun wr hb => (hb.cell (p := ⟨w2.heap.size, 0, none⟩) hltL).trans (by rw [Lib.cell_of_heap gl]; rfl), HA.out.below HBL.out, hal⟩
        · exact ⟨A2, c2, fun wr hb => (hb.cell (p := ⟨w2.heap.size, 1, none⟩) hltL).trans (by rw [Lib.cell_of_heap gl]; rfl), HB.out.below HBL.out, hbl⟩)
      have I0 : Hid (IW (.slice none 0 0) (htL ([a, b].take 0)) WL WL) := Lib.hid ⟨World.ownsRow_nil _ _ _ _, Below.refl _ _⟩
      have hl2 : ([a, b] : List (List Sl)).length = 2 := rfl
      clear gl
      go_wp2_with fail
      rw [← hWL]
      clear hWL y0 y1 y2 yl0 yl1 yl2
      obtain ⟨LL, hLLe⟩ : ∃ LL, LL = [a, b] := ⟨_, rfl⟩
      rw [← hLLe] at HLL I0 hl2
      have HLE := Lib.hid hLLe
      clear hLLe
      go_loopw [8, 25] (fun v i wr => ∃ (k : Nat) (v0 : Value), k ≤ 2 ∧ i = .int .i64 k ∧ v0 = v ∧ Hid (IW v0 (htL (LL.take k)) WL wr) ∧ (htL (LL.take k)).length ≤ 160 * k) (fun _ i _ => 2 - (intOf i).toNat)
      case atStart => exact ⟨0, _, by omega, rfl, rfl, I0, by simp [htL]⟩
      case round =>
        clear I0
        obtain ⟨k, v, hk, rfl, rfl, HI, hIl⟩ := hrel
        by_cases hlt : k < 2
        · obtain ⟨A', c', hcell, hin, hSl⟩ := HLL.out k (by omega)
          have x0 := hcell wr HI.out.bel
          have HNL := Lib.hid (htL_next LL k (by omega))
          obtain ⟨S, hS⟩ : ∃ S, S = LL[k]'(by omega) := ⟨_, rfl⟩
          rw [← hS] at x0 hin hSl HNL
          clear hS hcell
          have HIN := Lib.hid hin
          have j0 : (0 : Int) ≤ (k : Int) := by omega
          have j1 : (k : Int) < 2 := by omega
          have hwz := HI.out.bel.size
          have hgl : w2.heap.size < wr.heap.size := Nat.lt_of_lt_of_le hltL hwz
          generalize htL (LL.take k) = P at *
          have B1 : Hid (IW v (P ++ htS (S.take 0)) WL wr) := Lib.hid (by rw [show htS (S.take 0) = [] from rfl, List.append_nil]; exact HI.out)
          clear HI hin
          go_wp2_with fail
          go_loopw [8, 31] (fun v i w2 => ∃ (j : Nat) (v0 : Value), j ≤ S.length ∧ i = .int .i64 j ∧ v0 = v ∧ Hid (IW v0 (P ++ htS (S.take j)) WL w2)) (fun _ i _ => S.length - (intOf i).toNat)
          case atStart => exact ⟨0, _, Nat.zero_le _, rfl, rfl, B1⟩
          case round =>
            clear B1 x0 hgl
            obtain ⟨j, v, hj, rfl, rfl, HI⟩ := hrel
            by_cases hjt : j < S.length
            · obtain ⟨b1, o1, rfl, hb1, hv1⟩ := HIN.out.row (by omega)
              obtain ⟨x0, x1, Aj, cj, x2, _⟩ := hv1 j hjt
              have wc := fun o => HI.out.bel.cell (p := ⟨b1, o, none⟩) hb1
              have x0 := (wc _).trans x0; have x1 := (wc _).trans x1; have x2 := (wc _).trans x2
              have hbs := HI.out.bel.size
              have hbw : b1 < wr.heap.size := Nat.lt_of_lt_of_le hb1 hbs
              have n0 : (0 : Int) ≤ (j : Int) := by omega
              have n1 : (j : Int) < (S.length : Int) := by omega
              have HN := Lib.hid (htS_next S j hjt)
              have htl : (P ++ htS (S.take j)).length ≤ 480 := by rw [List.length_append, htS_len, List.length_take]; omega
              obtain ⟨u, hu⟩ : ∃ u, u = S[j] := ⟨_, rfl⟩
              rw [← hu] at x0 x1 x2 HN
              clear hu hv1 wc
              obtain ⟨F, hF⟩ : ∃ F, F = P ++ htS (S.take j) := ⟨_, rfl⟩
              have HN2 : Hid (P ++ htS (S.take (j + 1)) = F ++ [u.z0, u.z1]) := Lib.hid (by rw [HN.out, hF, List.append_assoc])
              rw [← hF] at HI htl
              clear hF HN
              have HO := Lib.hid HI.out.own
              go_wp2_with (at_builtin; refine wpList_append_own _ rfl _ _ 51 rfl WL.heap.size 3 i0 (.int .i64 0) 1 8 Tryz.underlying51 hi9 hz0 hz1 hz2 rfl (by decide) _ _ _ rfl ((HO.out.alloc _).alloc _) ⟨wr.heap.size + 1, 0, none⟩ 2 2 [.int .i64 u.z0, .int .i64 u.z1] rfl rfl ?c1 ?c2 ?c3 ?c4 ?c5 ?_)
              case c1 =>
                intro t u ht
                match t, ht with
                | 0, ht => simp at ht; subst ht; simp [Addr.add]
                | 1, ht => simp at ht; subst ht; simp [Addr.add]
              case c2 => intro u hu; simp at hu; rcases hu with rfl | rfl <;> rfl
              case c3 => unfold maxLen; omega
              case c4 => omega
              case c5 => simp; omega
              intro v3 w4 hown3 hgr3 _
              have HX : Hid (IW v3 (P ++ htS (S.take (j + 1))) WL w4) := Lib.hid ⟨by rw [HN2.out, List.length_append, icells_append]; exact hown3, Below.grown ((HI.out.bel.alloc hbs _).alloc (by simp; omega) _) hgr3 (by simp; omega) (fun k hk => (HO.out.lt k hk).1)⟩
              clear hown3 hgr3 HO HI HN2 x0 x1 x2
              go_wp2_with fail
              go_roundw
              case rel => exact ⟨j + 1, _, by omega, by go_num, rfl, HX⟩
              case measure => simp [intOf]; omega
            · obtain rfl : j = S.length := by omega
              have HX : Hid (IW v (htL (LL.take (k + 1))) WL wr) := Lib.hid (by
                have := HI.out
                rw [List.take_length] at this
                rw [HNL.out]; exact this)
              have hX2 : (htL (LL.take (k + 1))).length ≤ 160 * (k + 1) := by rw [HNL.out, List.length_append, htS_len]; omega
              clear HI HNL
              go_wp2_with fail
              go_roundw
              case rel => exact ⟨k + 1, _, by omega, by go_num, rfl, HX, hX2⟩
              case measure => simp [intOf]; omega
        · obtain rfl : k = 2 := by omega
          have hI := HI.out
          have hLL2 : htL (LL.take 2) = htS a ++ htS b := by rw [HLE.out]; simp [htL]
          rw [hLL2] at hI
          obtain ⟨A3, c3, rfl, _⟩ := own_parts hI.own
          have hn4 : (htS a ++ htS b).length ≤ 320 := by rw [List.length_append, htS_len, htS_len]; omega
          have EQ : Hid (opS op a b = capS (solO op a b)) := Lib.hid (opS_cap HPA.out HPB.out)
          have HFORM : Hid (Calls Tryz.prog 35 #[.slice A3 (htS a ++ htS b).length c3, .func (.func 74) #[] #[.pointer (some ⟨w.heap.size + 2, 0, none⟩), .pointer (some ⟨w.heap.size, 0, none⟩), .pointer (some ⟨w.heap.size + 1, 0, none⟩)]] wr (SolRes (opS op a b) w)) := Lib.hid (by
            have := bform_any WL 74 #[.pointer (some ⟨w.heap.size + 2, 0, none⟩), .pointer (some ⟨w.heap.size, 0, none⟩), .pointer (some ⟨w.heap.size + 1, 0, none⟩)] eg_bbc (secO op a b) (htS a ++ htS b) (.slice A3 (htS a ++ htS b).length c3) wr (secO_form h0 HPA.out.form HPB.out.form) (fun x hx => by
              rcases List.mem_append.1 hx with h | h
              · exact htS_in HPA.out.form x h
              · exact htS_in HPB.out.form x h) (chgO h0 HPA.out.form HPB.out.form) (fun z w' hb => by
              show Calls Tryz.prog 74 #[.int .i64 z, .pointer (some ⟨w.heap.size + 2, 0, none⟩), .pointer (some ⟨w.heap.size, 0, none⟩), .pointer (some ⟨w.heap.size + 1, 0, none⟩)] w' _
              have hbw := HBL.out.trans (hb.mono HBL.out.size)
              obtain ⟨k0, k1, k2, k3, k4, k5, _⟩ := HZX.out w' hbw
              exact bbothC_any K eg op hop _ _ _ A1 c1 A2 c2 a b z w' ⟨k0, k1, k2, k3, k4, k5, Lib.hid (Below.refl _ _)⟩ (HA.out.below hbw) (HB.out.below hbw) HPA.out HPB.out) hI.own hI.bel (by omega)
            rw [EQ.out]
            exact this.mono fun e w' h => h.base (HWW.out.trans (HBL.out.mono HWW.out.size)))
          have HPT : Hid (∀ e w', SolRes (opS op a b) w e w' → ∃ A4 c4, e = .returned (.tuple #[.slice A4 (opS op a b).1.length c4, .int .i64 (opS op a b).2]) ∧ Hid (SolRes (opS op a b) w (.returned (.tuple #[.slice A4 (opS op a b).1.length c4, .int .i64 (opS op a b).2])) w')) := Lib.hid (fun e w' h => by
            obtain ⟨A4, c4, rfl, h2⟩ := h
            exact ⟨A4, c4, rfl, Lib.hid ⟨A4, c4, rfl, h2⟩⟩)
          clear hI HI EQ hLL2 hIl HLL HLE
          generalize (htS a ++ htS b).length = nh at *
          generalize opS op a b = R at *
          obtain ⟨n2, hn2⟩ : ∃ n2, n2 = R.1.length := ⟨_, rfl⟩
          obtain ⟨r2, hr2⟩ : ∃ r2, r2 = R.2 := ⟨_, rfl⟩
          rw [← hn2, ← hr2] at HPT
          clear hn2 hr2
          go_wp2_with fail
          refine HFORM.out.mono ?_
          intro e w3 hres
          obtain ⟨A4, c4, rfl, HF4⟩ := HPT.out e w3 hres
          clear hres HPT HFORM
          go_wp2_with fail
          go_ret2
          exact HF4.out
    · have HRB := Lib.hid (fun w' (h : Below W.heap.size W w') => bright_no (HB.out.below h) pb)
      have NO : Hid (¬ (SolP a ∧ SolP b)) := Lib.hid (fun h => pb h.2)
      clear pa pb
      go_enter Tryz.func45, Tryz.ntmps45
      go_wp2_with fail
      rw [← hW]
      clear hW
      refine HRA.out.mono ?_
      rintro e w1 ⟨rfl, hb1⟩
      obtain ⟨y2, y0, y1, yl2, yl0, yl1, _⟩ := HZX.out w1 hb1
      have HRB1 := Lib.hid (HRB.out w1 hb1)
      have HB1 := Lib.hid hb1
      clear hb1 HRA HRB
      go_wp2_with fail
      refine HRB1.out.mono ?_
      rintro e w2 ⟨rfl, hb2⟩
      have HB2 := Lib.hid (HB1.out.trans (hb2.mono HB1.out.size))
      clear hb2 HRB1 HB1
      go_wp2_with fail
      go_ret2
      exact FALSE.out _ HB2.out NO.out
  · have HRA := Lib.hid (bright_no HA.out pa)
    have NO : Hid (¬ (SolP a ∧ SolP b)) := Lib.hid (fun h => pa h.1)
    clear pa
    go_enter Tryz.func45, Tryz.ntmps45
    go_wp2_with fail
    rw [← hW]
    clear hW
    refine HRA.out.mono ?_
    rintro e w1 ⟨rfl, hb1⟩
    have HB1 := Lib.hid hb1
    clear hb1 HRA
    go_wp2_with fail
    go_ret2
    exact FALSE.out _ HB1.out NO.out
theorem eg_gu : ∀ args w, (callFunc 57 args).run Tryz.prog w = .ok (.enter 57 args) w := enters_of Tryz.func57 (by kernel_rfl) rfl
theorem eg_gc : ∀ args w, (callFunc 59 args).run Tryz.prog w = .ok (.enter 59 args) w := enters_of Tryz.func59 (by kernel_rfl) rfl
theorem eg_gm : ∀ args w, (callFunc 46 args).run Tryz.prog w = .ok (.enter 46 args) w := enters_of Tryz.func46 (by kernel_rfl) rfl
theorem op_u : OpOk 57 or := fun A1 c1 A2 c2 a b w h1 h2 => gunion_any A1 c1 A2 c2 a b w h1 h2
theorem op_c : OpOk 59 and := fun A1 c1 A2 c2 a b w h1 h2 => gcommon_any A1 c1 A2 c2 a b w h1 h2
theorem op_m : OpOk 46 andnot := fun A1 c1 A2 c2 a b w h1 h2 => gminus_any A1 c1 A2 c2 a b w h1 h2
set_option maxHeartbeats 4000000 in
theorem bunion_any (A1 : Option Addr) (c1 : Nat) (A2 : Option Addr) (c2 : Nat) (a b : List Sl) (w : World) (ha : SIn w A1 c1 a) (hb : SIn w A2 c2 b) : Calls Tryz.prog 20 #[.slice A1 a.length c1, .slice A2 b.length c2] w (SolRes (opS or a b) w) := by
  have HC := Lib.hid (bboth_any 57 eg_gu or rfl op_u A1 c1 A2 c2 a b w ha hb)
  clear ha hb
  go_enter Tryz.func20, Tryz.ntmps20
  go_wp2_with fail
  refine HC.out.mono ?_
  rintro e w3 ⟨A4, c4, rfl, h2⟩
  have HR : Hid (SolRes (opS or a b) w (.returned (.tuple #[.slice A4 (opS or a b).1.length c4, .int .i64 (opS or a b).2])) w3) := Lib.hid ⟨A4, c4, rfl, h2⟩
  clear h2 HC
  generalize (opS or a b).1.length = n2 at *
  generalize (opS or a b).2 = e2 at *
  go_wp2_with fail
  go_ret2
  exact HR.out
set_option maxHeartbeats 4000000 in
theorem bcommon_any (A1 : Option Addr) (c1 : Nat) (A2 : Option Addr) (c2 : Nat) (a b : List Sl) (w : World) (ha : SIn w A1 c1 a) (hb : SIn w A2 c2 b) : Calls Tryz.prog 22 #[.slice A1 a.length c1, .slice A2 b.length c2] w (SolRes (opS and a b) w) := by
  have HC := Lib.hid (bboth_any 59 eg_gc and rfl op_c A1 c1 A2 c2 a b w ha hb)
  clear ha hb
  go_enter Tryz.func22, Tryz.ntmps22
  go_wp2_with fail
  refine HC.out.mono ?_
  rintro e w3 ⟨A4, c4, rfl, h2⟩
  have HR : Hid (SolRes (opS and a b) w (.returned (.tuple #[.slice A4 (opS and a b).1.length c4, .int .i64 (opS and a b).2])) w3) := Lib.hid ⟨A4, c4, rfl, h2⟩
  clear h2 HC
  generalize (opS and a b).1.length = n2 at *
  generalize (opS and a b).2 = e2 at *
  go_wp2_with fail
  go_ret2
  exact HR.out
set_option maxHeartbeats 4000000 in
theorem bminus_any (A1 : Option Addr) (c1 : Nat) (A2 : Option Addr) (c2 : Nat) (a b : List Sl) (w : World) (ha : SIn w A1 c1 a) (hb : SIn w A2 c2 b) : Calls Tryz.prog 11 #[.slice A1 a.length c1, .slice A2 b.length c2] w (SolRes (opS andnot a b) w) := by
  have HC := Lib.hid (bboth_any 46 eg_gm andnot rfl op_m A1 c1 A2 c2 a b w ha hb)
  clear ha hb
  go_enter Tryz.func11, Tryz.ntmps11
  go_wp2_with fail
  refine HC.out.mono ?_
  rintro e w3 ⟨A4, c4, rfl, h2⟩
  have HR : Hid (SolRes (opS andnot a b) w (.returned (.tuple #[.slice A4 (opS andnot a b).1.length c4, .int .i64 (opS andnot a b).2])) w3) := Lib.hid ⟨A4, c4, rfl, h2⟩
  clear h2 HC
  generalize (opS andnot a b).1.length = n2 at *
  generalize (opS andnot a b).2 = e2 at *
  go_wp2_with fail
  go_ret2
  exact HR.out
end Go.Proofs.YtdnoadngfkiabaaGreat
