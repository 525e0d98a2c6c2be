/-
  Contracts of the program's layer 9, 9: Section, Boxes, Same.
-/
import Derived.Test.YtdnoadngfkiabaaGreatS924
import Derived.Test.YtdnoadngfkiabaaGreatS934
set_option linter.unusedVariables false
set_option maxRecDepth 100000
namespace Go.Proofs.YtdnoadngfkiabaaGreat
open Go.RowKit

theorem zero_own (w : World) : (w.alloc (.cells #[] 33)).ownsRow w.heap.size 33 4 (.slice (some ⟨w.heap.size, 0, none⟩) 0 0) 0 [] :=
  ⟨rfl, Or.inr ⟨w.heap.size, 0, #[], rfl, Nat.le_refl _, heap_alloc_new w _, Nat.le_refl _, by unfold maxLen; omega, rfl, rfl⟩⟩
set_option maxHeartbeats 4000000 in
theorem bclone_any (A : Option Addr) (cap : Nat) (l : List Rc) (w : World) (h : RIn w A cap l) (hl : l.length ≤ 1000000) (hn : l ≠ [] ∨ (A = none ∧ cap = 0)) : Calls Tryz.prog 53 #[.slice A l.length cap] w (RcRes l w) := by
  obtain ⟨i0, hi9, hz0, hz1, hz2⟩ := info_parts infoRect
  by_cases h0 : l = []
  · subst h0
    obtain ⟨rfl, rfl⟩ : A = none ∧ cap = 0 := by
      rcases hn with h | h
      · exact absurd rfl h
      · exact h
    simp only [List.length_nil]
    have EQN : ∀ w, Sem.run Tryz.prog (binOp BinOp.eql 37 (.slice none 0 0) (.slice none 0 0)) w = .ok (.bool true) w := fun w => by first | rfl | kernel_rfl
    clear h hl hn
    go_enter Tryz.func53, Tryz.ntmps53
    go_wp2_with fail
    go_ret
    exact ⟨_, rfl, World.ownsRow_nil _ _ _ _, Below.refl _ _⟩
  · have hpos := List.length_pos_iff.2 h0
    obtain ⟨b, o, rfl, hb, hc⟩ := h.row hpos
    have HSRC : Hid (Src (w.alloc (.cells #[] 33)) (.slice (some ⟨b, o, none⟩) l.length cap) l.length (rcells l)) := Lib.hid (src_of (h.below ((Below.refl _ _).alloc (Nat.le_refl _) _)) (fun e => by cases e))
    have HOWN := Lib.hid (zero_own w)
    have EQN : ∀ w, Sem.run Tryz.prog (binOp BinOp.eql 37 (.slice (some ⟨b, o, none⟩) l.length cap) (.slice none 0 0)) w = .ok (.bool false) w := fun w => by first | rfl | kernel_rfl
    clear h hc hn h0
    go_enter Tryz.func53, Tryz.ntmps53
    go_wp2_with (at_builtin; refine wpList_append_src rfl _ _ 37 rfl w.heap.size 33 i0 (.agg #[.int .i64 0, .int .i64 0, .int .i64 0, .int .i64 0]) 32 Tryz.underlying37 hi9 hz0 hz1 hz2 rfl _ 0 [] rfl HOWN.out _ l.length (rcells l) rfl HSRC.out ?c3 ?c4 ?c5 ?_)
    case c3 => unfold maxLen; omega
    case c4 => omega
    case c5 => simp
    intro v' w4 hown' hgr
    have FIN : Hid (RcRes l w (.returned v') w4) := Lib.hid ⟨v', rfl, by simpa using hown', Below.grown ((Below.refl _ _).alloc (Nat.le_refl _) _) hgr (by simp) (fun k hk => (HOWN.out.lt k hk).1)⟩
    clear hown' hgr
    go_wp2_with fail
    go_ret
    exact FIN.out
noncomputable def secG (S : List Sl) (z : Int) : List Rc := @ite _ (SolP S) (Classical.propDecidable _) (secS S z) []
set_option maxHeartbeats 4000000 in
theorem bsection_yes {A : Option Addr} {cap : Nat} {S : List Sl} {w : World} (h : SIn w A cap S) (hs : SolP S) (z : Int) : Calls Tryz.prog 16 #[.slice A S.length cap, .int .i64 z] w (RcRes (secS S z) w) := by
  have HR := Lib.hid (bright_yes h hs)
  have HA := Lib.hid (fun w' (hb : Below w.heap.size w w') => barea_z A cap S z w' (h.below hb))
  have HNE : Hid (∀ s ∈ S, s.ar ≠ []) := Lib.hid (fun s hm => (hs.form.each s hm).ne)
  have hlen := (sol_reg hs z).2
  have HC := Lib.hid (fun A' c' w' (hr : RIn w' A' c' (secS S z)) hn => bclone_any A' c' (secS S z) w' hr (by omega) hn)
  clear h hs hlen
  go_enter Tryz.func16, Tryz.ntmps16
  go_wp2_with fail
  refine HR.out.mono ?_
  rintro e1 w1 ⟨rfl, hb1⟩
  have HB1 := Lib.hid hb1; clear hb1
  go_wp2_with fail
  refine (HA.out _ HB1.out).mono ?_
  rintro e2 w2 ⟨A2, c2, rfl, hr2, hb2, hn2⟩
  have HB2 := Lib.hid (HB1.out.trans (hb2.mono HB1.out.size))
  have HCC := Lib.hid (HC.out _ _ _ hr2 (hn2 HNE.out))
  clear hb2 hr2 hn2 HA HC HR HNE
  generalize secS S z = F at *
  obtain ⟨nn, hnn⟩ : ∃ nn, nn = F.length := ⟨_, rfl⟩
  rw [← hnn] at HCC ⊢
  clear hnn
  go_wp2_with fail
  refine HCC.out.mono ?_
  rintro e3 w3 ⟨v3, rfl, ho3, hb3⟩
  have FIN : Hid (RcRes F w (.returned v3) w3) := Lib.hid ⟨v3, rfl, own_base ho3 HB2.out.size, HB2.out.trans (hb3.mono HB2.out.size)⟩
  clear ho3 hb3 HCC
  go_wp2_with fail
  go_ret
  exact FIN.out
theorem bsection_no {A : Option Addr} {cap : Nat} {S : List Sl} {w : World} (h : SIn w A cap S) (hs : ¬ SolP S) (z : Int) : Calls Tryz.prog 16 #[.slice A S.length cap, .int .i64 z] w (RcRes [] w) := by
  have HR := Lib.hid (bright_no h hs)
  clear h hs
  go_enter Tryz.func16, Tryz.ntmps16
  go_wp2_with fail
  refine HR.out.mono ?_
  rintro e1 w1 ⟨rfl, hb1⟩
  have HB1 := Lib.hid hb1; clear hb1 HR
  go_wp2_with fail
  go_ret
  exact ⟨_, rfl, World.ownsRow_nil _ _ _ _, HB1.out⟩
/-! ### Boxes -/
set_option maxHeartbeats 40000000 in
theorem bboxes_yes {A : Option Addr} {cap : Nat} {S : List Sl} {w : World} (h : SIn w A cap S) (hs : SolP S) : Calls Tryz.prog 17 #[.slice A S.length cap] w (BxRes (boxesS S) w) := by
  have HR := Lib.hid (bright_yes h hs)
  have H1 := Lib.hid h.row
  have HS := Lib.hid hs
  have hlen := hs.len
  obtain ⟨i0, hi9, hz0, hz1, hz2⟩ := info_parts infoBox
  clear h hs
  go_enter Tryz.func17, Tryz.ntmps17
  go_wp2_with fail
  refine HR.out.mono ?_
  rintro e1 w1 ⟨rfl, hb1⟩
  have I0 : Hid (QW (.slice none 0 0) (boxesS (S.take 0)) w w1) := Lib.hid ⟨World.ownsRow_nil _ _ _ _, hb1⟩
  clear hb1 HR
  go_wp2_with fail
  go_loopw [3, 13] (fun v i wr => ∃ (k : Nat) (v0 : Value), k ≤ S.length ∧ i = .int .i64 k ∧ v0 = v ∧ Hid (QW v0 (boxesS (S.take k)) w wr)) (fun _ i _ => S.length - (intOf i).toNat)
  case atStart => exact ⟨0, _, Nat.zero_le _, rfl, rfl, I0⟩
  case round =>
    clear I0
    obtain ⟨k, v, hk, rfl, rfl, HI⟩ := hrel
    by_cases hlt : k < S.length
    · obtain ⟨b1, o1, rfl, hb1, hv1⟩ := H1.out (by omega)
      obtain ⟨x0, x1, Aj, cj, x2, hr⟩ := hv1 k hlt
      have wc := fun o => HI.out.bel.cell (p := ⟨b1, o, none⟩) hb1
      have x0 := (wc _).trans x0; have x1 := (wc _).trans x1; have x2 := (wc _).trans x2
      have hbs := HI.out.bel.size
      have hbw : b1 < wr.heap.size := Nat.lt_of_lt_of_le hb1 hbs
      have n0 : (0 : Int) ≤ (k : Int) := by omega
      have n1 : (k : Int) < (S.length : Int) := by omega
      have HN := Lib.hid (boxesS_next S k hlt)
      have hPl : (boxesS (S.take k)).length ≤ 80 * 200 := by
        have := boxesS_len (S := S.take k) (fun s hm => HS.out.rects s (List.mem_of_mem_take hm))
        rw [List.length_take] at this; omega
      have hul := HS.out.rects _ (List.getElem_mem hlt)
      obtain ⟨u, hu⟩ : ∃ u, u = S[k] := ⟨_, rfl⟩
      rw [← hu] at x0 x1 x2 HN hr hul
      have HRR := Lib.hid hr
      clear hu hv1 wc hr
      generalize boxesS (S.take k) = P at *
      obtain ⟨wq, rfl⟩ : ∃ wq : World, wq = wr := ⟨_, rfl⟩
      obtain ⟨wo, hwo⟩ : ∃ wo : World, wo = wq.alloc (.cells #[.int .i64 u.z0, .int .i64 u.z1, .slice Aj u.ar.length cj] 40) := ⟨_, rfl⟩
      have HSA : Hid (SlAt wo wq.heap.size u Aj cj) := Lib.hid (by rw [hwo]; exact SlAt.new wq u Aj cj _ rfl)
      have hwr2 : wq.heap.size < wo.heap.size := HSA.out.lt
      have B1 : Hid (QW v (P ++ (boxL u).take 0) w wo) := Lib.hid (by rw [List.take_zero, List.append_nil, hwo]; exact ⟨HI.out.own.alloc _, HI.out.bel.alloc hbs _⟩)
      have hbl : (boxL u).length = u.ar.length := by simp [boxL]
      have HOB : Hid (Below wo.heap.size wo wo) := Lib.hid (Below.refl _ _)
      clear HI
      go_wp2_with fail
      rw [← hwo]
      clear hwo
      go_loopw [3, 20] (fun v i w2 => ∃ (j : Nat) (v0 : Value), j ≤ u.ar.length ∧ i = .int .i64 j ∧ v0 = v ∧ Hid (QW v0 (P ++ (boxL u).take j) w w2) ∧ Hid (SlAt w2 wq.heap.size u Aj cj)) (fun _ i _ => u.ar.length - (intOf i).toNat)
      case atStart => exact ⟨0, _, Nat.zero_le _, rfl, rfl, B1, HSA⟩
      case round =>
        clear B1 HSA x0 x1 x2
        obtain ⟨j, v, hj, rfl, rfl, HI, HSA⟩ := hrel
        by_cases hjt : j < u.ar.length
        · obtain ⟨b2, o2, rfl, hb2, hv2⟩ := HRR.out.row (by omega)
          obtain ⟨q0, q1, q2, q3⟩ := hv2 j hjt
          have wc := fun o => HI.out.bel.cell (p := ⟨b2, o, none⟩) hb2
          have q0 := (wc _).trans q0; have q1 := (wc _).trans q1; have q2 := (wc _).trans q2; have q3 := (wc _).trans q3
          have hbs2 := HI.out.bel.size
          have hbwr : b2 < wr.heap.size := Nat.lt_of_lt_of_le hb2 hbs2
          have y0 := HSA.out.c0; have y1 := HSA.out.c1; have y2 := HSA.out.c2; have yl := HSA.out.lt
          have j0 : (0 : Int) ≤ (j : Int) := by omega
          have j1 : (j : Int) < (u.ar.length : Int) := by omega
          have HNJ : Hid ((boxL u).take (j + 1) = (boxL u).take j ++ [⟨u.ar[j], u.z0, u.z1⟩]) := Lib.hid (by rw [List.take_succ_eq_append_getElem (by omega)]; simp [boxL])
          obtain ⟨r, hr⟩ : ∃ r, r = u.ar[j] := ⟨_, rfl⟩
          rw [← hr] at q0 q1 q2 q3 HNJ
          clear hr hv2 wc
          have hFl : (P ++ (boxL u).take j).length ≤ 17000 := by rw [List.length_append, List.length_take]; omega
          obtain ⟨F, hF⟩ : ∃ F, F = P ++ (boxL u).take j := ⟨_, rfl⟩
          have HN2 : Hid (P ++ (boxL u).take (j + 1) = F ++ [⟨r, u.z0, u.z1⟩]) := Lib.hid (by rw [HNJ.out, hF, List.append_assoc])
          rw [← hF] at HI hFl
          clear hF HNJ
          have HO := Lib.hid HI.out.own
          go_wp2_with (at_builtin; refine wpList_append_own _ rfl _ _ 26 rfl w.heap.size 35 i0 (.agg #[.int .i64 0, .int .i64 0, .int .i64 0, .int .i64 0, .int .i64 0, .int .i64 0]) 6 48 Tryz.underlying26 hi9 hz0 hz1 hz2 rfl (by decide) _ _ _ rfl ((HO.out.alloc _).alloc _) ⟨wr.heap.size + 1, 0, none⟩ 1 1 [.int .i64 r.X0, .int .i64 r.Y0, .int .i64 r.X1, .int .i64 r.Y1, .int .i64 u.z0, .int .i64 u.z1] rfl rfl ?c1 ?c2 ?c3 ?c4 ?c5 ?_)
          case c1 =>
            intro t u ht
            match t, ht with
            | 0, ht => simp at ht; subst ht; simp [Addr.add]
            | 1, ht => simp at ht; subst ht; simp [Addr.add]
            | 2, ht => simp at ht; subst ht; simp [Addr.add]
            | 3, ht => simp at ht; subst ht; simp [Addr.add]
            | 4, ht => simp at ht; subst ht; simp [Addr.add]
            | 5, ht => simp at ht; subst ht; simp [Addr.add]
          case c2 => intro u hu; simp only [List.mem_cons, List.not_mem_nil, or_false] at hu; rcases hu with rfl | rfl | rfl | rfl | rfl | rfl <;> rfl
          case c3 => unfold maxLen; omega
          case c4 => omega
          case c5 => simp; omega
          intro v' w4 hown' hgr _
          have HX : Hid (QW v' (P ++ (boxL u).take (j + 1)) w w4) := Lib.hid ⟨by rw [HN2.out, bxcells_append, List.length_append]; exact hown', Below.grown ((HI.out.bel.alloc hbs2 _).alloc (by simp; omega) _) hgr (by simp; omega) (fun k hk => (HO.out.lt k hk).1)⟩
          have HS4 : Hid (SlAt w4 wq.heap.size u (some ⟨b2, o2, none⟩) cj) := Lib.hid (by
            have h2 : SlAt ((wr.alloc (.cells #[.int .i64 r.X0, .int .i64 r.Y0, .int .i64 r.X1, .int .i64 r.Y1] 33)).alloc (.cells #[.int .i64 r.X0, .int .i64 r.Y0, .int .i64 r.X1, .int .i64 r.Y1, .int .i64 u.z0, .int .i64 u.z1] 35)) wq.heap.size u (some ⟨b2, o2, none⟩) cj := HSA.out.below (((Below.refl _ _).alloc (Nat.le_refl _) _).alloc (by simp) _)
            refine (hgr.block _ h2.lt (fun e => ?_)).trans h2
            obtain ⟨g', e', hc'⟩ := own_block_type ((HO.out.alloc (.cells #[.int .i64 r.X0, .int .i64 r.Y0, .int .i64 r.X1, .int .i64 r.Y1] 33)).alloc (.cells #[.int .i64 r.X0, .int .i64 r.Y0, .int .i64 r.X1, .int .i64 r.Y1, .int .i64 u.z0, .int .i64 u.z1] 35)) e.symm
            have h3 : _ = _ := h2
            rw [hc'] at h3
            injection h3 with h3
            injection h3 with _ h5
            exact absurd h5 (by decide))
          clear hown' hgr HO HI HSA q0 q1 q2 q3 y0 y1 y2 yl
          go_wp2_with fail
          go_roundw
          case rel => exact ⟨j + 1, _, by omega, by go_num, rfl, HX, HS4⟩
          case measure => simp [intOf]; omega
        · obtain rfl : j = u.ar.length := by omega
          have HX : Hid (QW v (boxesS (S.take (k + 1))) w wr) := Lib.hid (by
            have := HI.out
            rw [List.take_of_length_le (by omega)] at this
            rw [HN.out]; exact this)
          clear HI HN
          go_wp2_with fail
          go_roundw
          case rel => exact ⟨k + 1, _, by omega, by go_num, rfl, HX⟩
          case measure => simp [intOf]; omega
    · obtain rfl : k = S.length := by omega
      have FIN : Hid (BxRes (boxesS S) w (.returned v) wr) := Lib.hid (by
        have := HI.out
        rw [List.take_length] at this
        exact ⟨v, rfl, this.own, this.bel⟩)
      clear HI
      go_wp2_with fail
      go_ret
      exact FIN.out
theorem bboxes_no {A : Option Addr} {cap : Nat} {S : List Sl} {w : World} (h : SIn w A cap S) (hs : ¬ SolP S) : Calls Tryz.prog 17 #[.slice A S.length cap] w (BxRes [] w) := by
  have HR := Lib.hid (bright_no h hs)
  clear h hs
  go_enter Tryz.func17, Tryz.ntmps17
  go_wp2_with fail
  refine HR.out.mono ?_
  rintro e1 w1 ⟨rfl, hb1⟩
  have HB1 := Lib.hid hb1; clear hb1 HR
  go_wp2_with fail
  go_ret
  exact ⟨_, rfl, World.ownsRow_nil _ _ _ _, HB1.out⟩
/-! ### Same -/
def SameIs (S T : List Sl) (w : World) (e : Ending) (w' : World) : Prop := ∃ b : Bool, (b = true ↔ S = T) ∧ BlIs b w e w'
set_option maxHeartbeats 4000000 in
theorem bsameC_any (a0 a1 b0 b1 : Int) (A1 : Option Addr) (c1 : Nat) (A2 : Option Addr) (c2 : Nat) (l m : List Rc) (w : World) (h1 : RRow w A1 l) (h2 : RRow w A2 m) (hl : l.length ≤ 1099511627776) (hm : m.length ≤ 1099511627776) :
    Calls Tryz.prog 48 #[.agg #[.int .i64 a0, .int .i64 a1, .slice A1 l.length c1], .agg #[.int .i64 b0, .int .i64 b1, .slice A2 m.length c2]] w (BlIs (decide (a0 = b0 ∧ a1 = b1 ∧ l = m)) w) := by
  by_cases e0 : a0 = b0
  · have d0 : (a0 == b0) = true := by simp [e0]
    by_cases e : a1 = b1
    · have HS := Lib.hid (fun w' (hb : Below w.heap.size w w') => gsame_any A1 c1 A2 c2 l m w' (h1.below hb) (h2.below hb) hl hm)
      have E : Hid (decide (a0 = b0 ∧ a1 = b1 ∧ l = m) = decide (l = m)) := Lib.hid (by simp [e, e0])
      have d : (a1 == b1) = true := by simp [e]
      clear h1 h2 e e0
      rw [E.out]
      generalize decide (l = m) = r at *
      go_enter Tryz.func48, Tryz.ntmps48
      go_wp2_with fail
      refine (HS.out _ (by (repeat' first | exact Below.refl _ _ | assumption | (apply below_drewN) | (refine Below.setCell ?_ (by (try simp); (try omega)) _) | (refine Below.alloc ?_ (by (try simp); (try omega)) _) | (refine Below.trans ?_ (Below.mono (Hid.out (by assumption)) (by (try simp); (try omega))))))).mono ?_
      rintro e1 w1 ⟨rfl, hb1⟩
      have HB : Hid (Below w.heap.size w w1) := Lib.hid ((show Below w.heap.size w _ from by (repeat' first | exact Below.refl _ _ | assumption | (apply below_drewN) | (refine Below.setCell ?_ (by (try simp); (try omega)) _) | (refine Below.alloc ?_ (by (try simp); (try omega)) _) | (refine Below.trans ?_ (Below.mono (Hid.out (by assumption)) (by (try simp); (try omega)))))).trans (hb1.mono (by simp; try omega)))
      clear hb1 HS
      go_wp2_with fail
      go_ret
      exact ⟨rfl, HB.out⟩
    · have d : (a1 == b1) = false := by simp [e]
      rw [show decide (a0 = b0 ∧ a1 = b1 ∧ l = m) = false from decide_eq_false (fun h => e h.2.1)]
      clear h1 h2 e e0
      go_enter Tryz.func48, Tryz.ntmps48
      go_wp2_with fail
      go_ret
      exact ⟨rfl, by (repeat' first | exact Below.refl _ _ | assumption | (apply below_drewN) | (refine Below.setCell ?_ (by (try simp); (try omega)) _) | (refine Below.alloc ?_ (by (try simp); (try omega)) _) | (refine Below.trans ?_ (Below.mono (Hid.out (by assumption)) (by (try simp); (try omega)))))⟩
  · have d : (a0 == b0) = false := by simp [e0]
    rw [show decide (a0 = b0 ∧ a1 = b1 ∧ l = m) = false from decide_eq_false (fun h => e0 h.1)]
    clear h1 h2 e0
    go_enter Tryz.func48, Tryz.ntmps48
    go_wp2_with fail
    go_ret
    exact ⟨rfl, by (repeat' first | exact Below.refl _ _ | assumption | (apply below_drewN) | (refine Below.setCell ?_ (by (try simp); (try omega)) _) | (refine Below.alloc ?_ (by (try simp); (try omega)) _) | (refine Below.trans ?_ (Below.mono (Hid.out (by assumption)) (by (try simp); (try omega)))))⟩
theorem sl_eq_step {S T : List Sl} {k : Nat} (h1 : k < S.length) (h2 : k < T.length) (h : S.take k = T.take k) (e : S[k] = T[k]) : S.take (k + 1) = T.take (k + 1) := by
  rw [List.take_succ_eq_append_getElem h1, List.take_succ_eq_append_getElem h2, h, e]
set_option maxHeartbeats 16000000 in
theorem beqf_any (A1 : Option Addr) (c1 : Nat) (A2 : Option Addr) (c2 : Nat) (S T : List Sl) (w : World) (h1 : SIn w A1 c1 S) (h2 : SIn w A2 c2 T) :
    Calls Tryz.prog 47 #[.slice A1 S.length c1, .slice A2 T.length c2, .func (.func 48) #[] #[]] w (SameIs S T w) := by
  have hl1 := h1.len; have hl2 := h2.len
  have H1 := Lib.hid h1.row; have H2 := Lib.hid h2.row
  clear h1 h2
  by_cases hlen : S.length = T.length
  · have hll : ((S.length : Int) != (T.length : Int)) = false := by simp [hlen]
    have HB0 := Lib.hid (Below.refl w.heap.size w)
    have HLEN := Lib.hid hlen
    clear hlen
    go_enter Tryz.func47, Tryz.ntmps47
    go_wp2_with fail
    go_loopw [17] (fun i wr => ∃ (k : Nat), k ≤ S.length ∧ i = .int .i64 k ∧ Hid (Below w.heap.size w wr) ∧ Hid (S.take k = T.take k)) (fun i _ => S.length - (intOf i).toNat)
    case atStart => exact ⟨0, Nat.zero_le _, rfl, HB0, Lib.hid rfl⟩
    case round =>
      clear HB0
      obtain ⟨k, hk, rfl, HB, HT⟩ := hrel
      by_cases hlt : k < S.length
      · obtain ⟨b1, o1, rfl, hb1, hv1⟩ := H1.out (by omega)
        obtain ⟨b2, o2, rfl, hb2, hv2⟩ := H2.out (by have := HLEN.out; omega)
        have hk2 : k < T.length := by have := HLEN.out; omega
        obtain ⟨x0, x1, Aj, cj, x2, hrx⟩ := hv1 k hlt
        obtain ⟨y0, y1, Aq, cq, y2, hry⟩ := hv2 k hk2
        have wc := fun o => HB.out.cell (p := ⟨b1, o, none⟩) hb1
        have wd := fun o => HB.out.cell (p := ⟨b2, o, none⟩) hb2
        have x0 := (wc _).trans x0; have x1 := (wc _).trans x1; have x2 := (wc _).trans x2
        have y0 := (wd _).trans y0; have y1 := (wd _).trans y1; have y2 := (wd _).trans y2
        have hbs := HB.out.size
        have hbw : b1 < wr.heap.size := Nat.lt_of_lt_of_le hb1 hbs
        have hbw2 : b2 < wr.heap.size := Nat.lt_of_lt_of_le hb2 hbs
        have n0 : (0 : Int) ≤ (k : Int) := by omega
        have n1 : (k : Int) < (S.length : Int) := by omega
        have n2 : (k : Int) < (T.length : Int) := by omega
        have HST := Lib.hid (fun e => sl_eq_step hlt hk2 HT.out e)
        have HNE : Hid (S[k] ≠ T[k] → S ≠ T) := Lib.hid (fun h e => h (by subst e; rfl))
        have HCA := Lib.hid (fun w' (hb : Below w.heap.size w w') => bsameC_any S[k].z0 S[k].z1 T[k].z0 T[k].z1 Aj cj Aq cq S[k].ar T[k].ar w' (hrx.below hb).row (hry.below hb).row hrx.len hry.len)
        clear hv1 hv2 wc wd hrx hry HT
        generalize S[k] = u at *
        generalize T[k] = v at *
        have HBA := Lib.hid ((HB.out.alloc hbs (.cells #[.int .i64 u.z0, .int .i64 u.z1, .slice Aj u.ar.length cj] 40)).alloc (by simp; omega) (.cells #[.int .i64 v.z0, .int .i64 v.z1, .slice Aq v.ar.length cq] 40))
        by_cases e : u.z0 = v.z0 ∧ u.z1 = v.z1 ∧ u.ar = v.ar
        · have d : decide (u.z0 = v.z0 ∧ u.z1 = v.z1 ∧ u.ar = v.ar) = true := decide_eq_true e
          rw [d] at HCA
          have HS2 := Lib.hid (HST.out (Sl.eq e.1 e.2.1 e.2.2))
          clear e d HST HNE
          go_wp2_with fail
          refine (HCA.out _ HBA.out).mono ?_
          rintro e w1 ⟨rfl, hb⟩
          have HB1 := Lib.hid (HBA.out.trans (hb.mono HBA.out.size))
          clear hb HCA HBA
          go_wp2_with fail
          go_roundw
          case rel => exact ⟨k + 1, by omega, by go_num, HB1, HS2⟩
          case measure => simp [intOf]; omega
        · have d : decide (u.z0 = v.z0 ∧ u.z1 = v.z1 ∧ u.ar = v.ar) = false := decide_eq_false e
          rw [d] at HCA
          have HN := Lib.hid (HNE.out (fun h => e (by subst h; exact ⟨rfl, rfl, rfl⟩)))
          clear e d HST HNE
          go_wp2_with fail
          refine (HCA.out _ HBA.out).mono ?_
          rintro e w1 ⟨rfl, hb⟩
          have HB1 := Lib.hid (HBA.out.trans (hb.mono HBA.out.size))
          clear hb HCA HBA
          go_wp2_with fail
          go_ret
          exact ⟨false, ⟨fun h => (by cases h), fun h => absurd h HN.out⟩, rfl, HB1.out⟩
      · obtain rfl : k = S.length := by omega
        have HE : Hid (S = T) := Lib.hid (by
          have := HT.out
          rw [List.take_length] at this
          rw [this, HLEN.out, List.take_length])
        clear HT
        go_wp2_with fail
        go_ret
        exact ⟨true, ⟨fun _ => HE.out, fun _ => rfl⟩, rfl, HB.out⟩
  · have hll : ((S.length : Int) != (T.length : Int)) = true := by simp; omega
    have HN : Hid (S ≠ T) := Lib.hid (fun e => hlen (by rw [e]))
    go_enter Tryz.func47, Tryz.ntmps47
    go_wp2_with fail
    go_ret
    exact ⟨false, ⟨fun h => (by cases h), fun h => absurd h HN.out⟩, rfl, Below.refl _ _⟩
theorem bsame_any (A1 : Option Addr) (c1 : Nat) (A2 : Option Addr) (c2 : Nat) (S T : List Sl) (w : World) (h1 : SIn w A1 c1 S) (h2 : SIn w A2 c2 T) :
    Calls Tryz.prog 13 #[.slice A1 S.length c1, .slice A2 T.length c2] w (SameIs S T w) := by
  have HE := Lib.hid (beqf_any A1 c1 A2 c2 S T w h1 h2)
  clear h1 h2
  go_enter Tryz.func13, Tryz.ntmps13
  go_wp2_with fail
  refine HE.out.mono ?_
  rintro e w1 ⟨b, hb, rfl, hb1⟩
  have HF : Hid (SameIs S T w (.returned (.bool b)) w1) := Lib.hid ⟨b, hb, rfl, hb1⟩
  clear hb hb1 HE
  go_wp2_with fail
  go_ret
  exact HF.out
/-! ### the reference's Same -/
/-- a slab in each of two rows. -/
def Sx (p i b o : Nat) (u v : Sl) (A1 : Option Addr) (c1 : Nat) (A2 : Option Addr) (c2 : Nat) (w0 w : World) : Prop := w.cell? ⟨p, i, none⟩ = some (.int .i64 u.z0) ∧ w.cell? ⟨p, i + 1, none⟩ = some (.int .i64 u.z1) ∧ w.cell? ⟨p, i + 2, none⟩ = some (.slice A1 u.ar.length c1) ∧ w.cell? ⟨b, o, none⟩ = some (.int .i64 v.z0) ∧ w.cell? ⟨b, o + 1, none⟩ = some (.int .i64 v.z1) ∧ w.cell? ⟨b, o + 2, none⟩ = some (.slice A2 v.ar.length c2) ∧ p < w.heap.size ∧ b < w.heap.size ∧ Hid (Below w0.heap.size w0 w)
theorem Sx.go {p i b o : Nat} {u v : Sl} {A1 : Option Addr} {c1 : Nat} {A2 : Option Addr} {c2 : Nat} {w0 w w' : World} (h : Sx p i b o u v A1 c1 A2 c2 w0 w) (hb : Below w.heap.size w w') : Sx p i b o u v A1 c1 A2 c2 w0 w' := by
  obtain ⟨h0, h1, h2, h3, h4, h5, h6, h7, h8⟩ := h
  have cp := fun j => hb.cell (p := ⟨p, j, none⟩) h6
  have cb := fun j => hb.cell (p := ⟨b, j, none⟩) h7
  exact ⟨(cp _).trans h0, (cp _).trans h1, (cp _).trans h2, (cb _).trans h3, (cb _).trans h4, (cb _).trans h5, Nat.lt_of_lt_of_le h6 hb.size, Nat.lt_of_lt_of_le h7 hb.size, Lib.hid (h8.out.trans (hb.mono h8.out.size))⟩
theorem Sx.drewN {p i b o : Nat} {u v : Sl} {A1 : Option Addr} {c1 : Nat} {A2 : Option Addr} {c2 : Nat} {w0 w : World} (h : Sx p i b o u v A1 c1 A2 c2 w0 w) (n : Nat) : Sx p i b o u v A1 c1 A2 c2 w0 (w.drewN n) := h.go (below_drewN (Below.refl _ _) n)
set_option maxHeartbeats 16000000 in
theorem dsame_any (A1 : Option Addr) (c1 : Nat) (A2 : Option Addr) (c2 : Nat) (S T : List Sl) (w : World) (h1 : SIn w A1 c1 S) (h2 : SIn w A2 c2 T) :
    Calls Tryz.prog 10 #[.slice A1 S.length c1, .slice A2 T.length c2] w (SameIs S T w) := by
  have hl1 := h1.len; have hl2 := h2.len
  have H1 := Lib.hid h1.row; have H2 := Lib.hid h2.row
  clear h1 h2
  by_cases hlen : S.length = T.length
  · have hll : ((S.length : Int) != (T.length : Int)) = false := by simp [hlen]
    have HB0 := Lib.hid (Below.refl w.heap.size w)
    have HLEN := Lib.hid hlen
    clear hlen
    go_enter Tryz.func10, Tryz.ntmps10
    go_wp2_with fail
    go_loopw [5] (fun i wr => ∃ (k : Nat), k ≤ S.length ∧ i = .int .i64 k ∧ Hid (Below w.heap.size w wr) ∧ Hid (S.take k = T.take k)) (fun i _ => S.length - (intOf i).toNat)
    case atStart => exact ⟨0, Nat.zero_le _, rfl, HB0, Lib.hid rfl⟩
    case round =>
      clear HB0
      obtain ⟨k, hk, rfl, HB, HT⟩ := hrel
      by_cases hlt : k < S.length
      · obtain ⟨b1, o1, rfl, hb1, hv1⟩ := H1.out (by omega)
        obtain ⟨b2, o2, rfl, hb2, hv2⟩ := H2.out (by have := HLEN.out; omega)
        have hk2 : k < T.length := by have := HLEN.out; omega
        obtain ⟨x0, x1, Aj, cj, x2, hrx⟩ := hv1 k hlt
        obtain ⟨y0, y1, Aq, cq, y2, hry⟩ := hv2 k hk2
        have wc := fun o => HB.out.cell (p := ⟨b1, o, none⟩) hb1
        have wd := fun o => HB.out.cell (p := ⟨b2, o, none⟩) hb2
        have x0 := (wc _).trans x0; have x1 := (wc _).trans x1; have x2 := (wc _).trans x2
        have y0 := (wd _).trans y0; have y1 := (wd _).trans y1; have y2 := (wd _).trans y2
        have hbs := HB.out.size
        have hbw : b1 < wr.heap.size := Nat.lt_of_lt_of_le hb1 hbs
        have hbw2 : b2 < wr.heap.size := Nat.lt_of_lt_of_le hb2 hbs
        have n0 : (0 : Int) ≤ (k : Int) := by omega
        have n1 : (k : Int) < (S.length : Int) := by omega
        have n2 : (k : Int) < (T.length : Int) := by omega
        have HST := Lib.hid (fun e => sl_eq_step hlt hk2 HT.out e)
        have HNE : Hid (S[k] ≠ T[k] → S ≠ T) := Lib.hid (fun h e => h (by subst e; rfl))
        have HCA := Lib.hid (fun w' (hb : Below w.heap.size w w') => vsame_any Aj cj Aq cq S[k].ar T[k].ar w' (hrx.below hb).row (hry.below hb).row hrx.len hry.len)
        clear hv1 hv2 wc wd hrx hry HT
        generalize S[k] = u at *
        generalize T[k] = v at *
        by_cases e0 : u.z0 = v.z0
        · have d0 : (u.z0 != v.z0) = false := by simp [e0]
          by_cases e1 : u.z1 = v.z1
          · have d1 : (u.z1 != v.z1) = false := by simp [e1]
            have EJ : Hid (Sx b1 (o1 + k * 3) b2 (o2 + k * 3) u v Aj cj Aq cq w wr) := Lib.hid ⟨x0, x1, x2, y0, y1, y2, hbw, hbw2, HB⟩
            by_cases e2 : u.ar = v.ar
            · rw [decide_eq_true e2] at HCA
              have HS2 := Lib.hid (HST.out (Sl.eq e0 e1 e2))
              clear e0 e1 e2 HST HNE
              go_wp2_with fail
              go_region_held3 (fun w' => w'.cell? ⟨b1, o1 + k * 3, none⟩ = some (.int .i64 u.z0) ∧ w'.cell? ⟨b1, o1 + k * 3 + 1, none⟩ = some (.int .i64 u.z1) ∧ w'.cell? ⟨b1, o1 + k * 3 + 2, none⟩ = some (.slice Aj u.ar.length cj) ∧ w'.cell? ⟨b2, o2 + k * 3, none⟩ = some (.int .i64 v.z0) ∧ w'.cell? ⟨b2, o2 + k * 3 + 1, none⟩ = some (.int .i64 v.z1) ∧ w'.cell? ⟨b2, o2 + k * 3 + 2, none⟩ = some (.slice Aq v.ar.length cq) ∧ b1 < w'.heap.size ∧ b2 < w'.heap.size ∧ Hid (Below w.heap.size w w'))
                (first | exact EJ.out | exact Sx.drewN EJ.out 1 | exact Sx.go ‹_› ‹_› | assumption)
                (first | (go_at_call 44; refine (HCA.out _ ?_).mono ?_; (exact HB.out.drew); rintro e w' ⟨rfl, hb⟩) | fail)
              have E2 : Sx b1 (o1 + k * 3) b2 (o2 + k * 3) u v Aj cj Aq cq w w' := by assumption
              have HB3 := E2.2.2.2.2.2.2.2.2
              clear EJ E2
              go_wp2_with fail
              go_roundw
              case rel => exact ⟨k + 1, by omega, by go_num, HB3, HS2⟩
              case measure => simp [intOf]; omega
            · rw [decide_eq_false e2] at HCA
              have HN := Lib.hid (HNE.out (fun h => e2 (by subst h; rfl)))
              clear e0 e1 e2 HST HNE
              go_wp2_with fail
              go_region_held3 (fun w' => w'.cell? ⟨b1, o1 + k * 3, none⟩ = some (.int .i64 u.z0) ∧ w'.cell? ⟨b1, o1 + k * 3 + 1, none⟩ = some (.int .i64 u.z1) ∧ w'.cell? ⟨b1, o1 + k * 3 + 2, none⟩ = some (.slice Aj u.ar.length cj) ∧ w'.cell? ⟨b2, o2 + k * 3, none⟩ = some (.int .i64 v.z0) ∧ w'.cell? ⟨b2, o2 + k * 3 + 1, none⟩ = some (.int .i64 v.z1) ∧ w'.cell? ⟨b2, o2 + k * 3 + 2, none⟩ = some (.slice Aq v.ar.length cq) ∧ b1 < w'.heap.size ∧ b2 < w'.heap.size ∧ Hid (Below w.heap.size w w'))
                (first | exact EJ.out | exact Sx.drewN EJ.out 1 | exact Sx.go ‹_› ‹_› | assumption)
                (first | (go_at_call 44; refine (HCA.out _ ?_).mono ?_; (exact HB.out.drew); rintro e w' ⟨rfl, hb⟩) | fail)
              have E2 : Sx b1 (o1 + k * 3) b2 (o2 + k * 3) u v Aj cj Aq cq w w' := by assumption
              have HB3 := E2.2.2.2.2.2.2.2.2
              clear EJ E2
              go_wp2_with fail
              go_ret
              exact ⟨false, ⟨fun h => (by cases h), fun h => absurd h HN.out⟩, rfl, HB3.out⟩
          · have d1 : (u.z1 != v.z1) = true := by simp [e1]
            have HN := Lib.hid (HNE.out (fun h => e1 (by subst h; rfl)))
            clear e0 e1 HST HNE HCA
            go_wp2_with fail
            go_quiet (fail)
            go_wp2_with fail
            go_ret
            exact ⟨false, ⟨fun h => (by cases h), fun h => absurd h HN.out⟩, rfl, below_drewN HB.out _⟩
        · have d0 : (u.z0 != v.z0) = true := by simp [e0]
          have HN := Lib.hid (HNE.out (fun h => e0 (by subst h; rfl)))
          clear e0 HST HNE HCA
          go_wp2_with fail
          go_quiet (fail)
          go_wp2_with fail
          go_ret
          exact ⟨false, ⟨fun h => (by cases h), fun h => absurd h HN.out⟩, rfl, below_drewN HB.out _⟩
      · obtain rfl : k = S.length := by omega
        have HE : Hid (S = T) := Lib.hid (by
          have := HT.out
          rw [List.take_length] at this
          rw [this, HLEN.out, List.take_length])
        clear HT
        go_wp2_with fail
        go_ret
        exact ⟨true, ⟨fun _ => HE.out, fun _ => rfl⟩, rfl, HB.out⟩
  · have hll : ((S.length : Int) != (T.length : Int)) = true := by simp; omega
    have HN : Hid (S ≠ T) := Lib.hid (fun e => hlen (by rw [e]))
    go_enter Tryz.func10, Tryz.ntmps10
    go_wp2_with fail
    go_ret
    exact ⟨false, ⟨fun h => (by cases h), fun h => absurd h HN.out⟩, rfl, Below.refl _ _⟩
end Go.Proofs.YtdnoadngfkiabaaGreat
