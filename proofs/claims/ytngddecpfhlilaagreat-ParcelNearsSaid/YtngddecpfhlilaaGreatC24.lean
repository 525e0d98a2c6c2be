/-
  Contracts of the program's layer 9, 7: Of.
-/
import Derived.Test.YtngddecpfhlilaaGreatC23
set_option linter.unusedVariables false
set_option maxRecDepth 100000
namespace Go.Proofs.YtngddecpfhlilaaGreat
open Go.RowKit
def BxAt (w : World) (p : Nat) (u : Bx) : Prop := w.heap[p]? = some (.cells #[.int .i64 u.r.X0, .int .i64 u.r.Y0, .int .i64 u.r.X1, .int .i64 u.r.Y1, .int .i64 u.z0, .int .i64 u.z1] 70 (0, 0))
theorem BxAt.lt {w : World} {p : Nat} {u : Bx} (h : BxAt w p u) : p < w.heap.size := (Array.getElem?_eq_some_iff.1 h).1
theorem BxAt.c4 {w : World} {p : Nat} {u : Bx} (h : BxAt w p u) : w.cell? ⟨p, 4, none⟩ = some (.int .i64 u.z0) := by rw [Lib.cell_of_heap h]; rfl
theorem BxAt.c5 {w : World} {p : Nat} {u : Bx} (h : BxAt w p u) : w.cell? ⟨p, 5, none⟩ = some (.int .i64 u.z1) := by rw [Lib.cell_of_heap h]; rfl
theorem BxAt.below {w w' : World} {p : Nat} {u : Bx} (h : BxAt w p u) (hb : Below w.heap.size w w') : BxAt w' p u := (hb.block p h.lt).trans h
theorem BxAt.new (w : World) (u : Bx) : BxAt (w.alloc (.cells #[.int .i64 u.r.X0, .int .i64 u.r.Y0, .int .i64 u.r.X1, .int .i64 u.r.Y1, .int .i64 u.z0, .int .i64 u.z1] 70)) w.heap.size u := heap_alloc_new w _
theorem eg_bof : ∀ args w, (callFunc 88 args).run Tryz.prog w = .ok (.enter 88 args) w := enters_of Tryz.func88 (by kernel_rfl) rfl
structure IW (v : Value) (l : List Int) (w wr : World) : Prop where
 own : wr.ownsRow w.heap.size 3 1 v l.length (icells l)
 bel : Below w.heap.size w wr
set_option maxHeartbeats 40000000 in
theorem bof_any (A : Option Addr) (cap : Nat) (l : List Bx) (w : World) (h : BxRow w A l) (hl : l.length ≤ 1099511627776) : Calls Tryz.prog 36 #[.slice A l.length cap] w (SolRes (ofS l) w) := by
 obtain ⟨W, hW⟩ : ∃ W, W = w.alloc (.cells #[.slice A l.length cap] 71) := ⟨_, rfl⟩
 have hwW : Below w.heap.size w W := by rw [hW]; exact (Below.refl _ _).alloc (Nat.le_refl _) _
 have H1 := Lib.hid (h.below hwW)
 have HWW := Lib.hid hwW
 have hcell : ∀ wr, Below W.heap.size W wr → wr.cell? ⟨w.heap.size, 0, none⟩ = some (.slice A l.length cap) := fun wr hb => by
  have h0 : W.heap[w.heap.size]? = some (.cells #[.slice A l.length cap] 71 (0, 0)) := by rw [hW]; exact heap_alloc_new w _
  have hlt := (Array.getElem?_eq_some_iff.1 h0).1
  exact (hb.cell (p := ⟨w.heap.size, 0, none⟩) hlt).trans (by rw [Lib.cell_of_heap h0]; rfl)
 have hltW : w.heap.size < W.heap.size := by rw [hW]; simp
 have HCE := Lib.hid hcell
 have HB0 := Lib.hid (Below.refl W.heap.size W)
 obtain ⟨i0, hi9, hz0, hz1, hz2⟩ := info_parts infoInt
 have y0 := hcell W (Below.refl _ _)
 clear h hwW hcell
 go_enter Tryz.func36, Tryz.ntmps36
 go_wp2_with fail
 rw [← hW]
 clear y0 hW
 go_loopw [11] (fun i wr => ∃ (k : Nat), k ≤ l.length ∧ i = .int .i64 k ∧ Hid (Below W.heap.size W wr) ∧ Hid (∀ j (h : j < l.length), j < k → BOk l[j])) (fun i _ => l.length - (intOf i).toNat)
 case atStart => exact ⟨0, Nat.zero_le _, rfl, HB0, Lib.hid (fun j h hj => absurd hj (Nat.not_lt_zero _))⟩
 case round =>
  clear HB0
  obtain ⟨k, hk, rfl, HB, HT⟩ := hrel
  by_cases hlt : k < l.length
  ·obtain ⟨b1, o1, rfl, hb1, hv1⟩ := H1.out (by omega)
   obtain ⟨x0, x1, x2, x3, x4, x5⟩ := hv1 k hlt
   have wc := fun o => HB.out.cell (p := ⟨b1, o, none⟩) hb1
   have x0 := (wc _).trans x0; have x1 := (wc _).trans x1; have x2 := (wc _).trans x2; have x3 := (wc _).trans x3; have x4 := (wc _).trans x4; have x5 := (wc _).trans x5
   have hbs := HB.out.size
   have hbw : b1 < wr.heap.size := Nat.lt_of_lt_of_le hb1 hbs
   have n0 : (0 : Int) ≤ (k : Int) := by omega
   have n1 : (k : Int) < (l.length : Int) := by omega
   obtain ⟨u, hu⟩ : ∃ u, u = l[k] := ⟨_, rfl⟩
   rw [← hu] at x0 x1 x2 x3 x4 x5
   have HU := Lib.hid hu; clear hu hv1 wc
   have HAL := Lib.hid (HB.out.alloc hbs (.cells #[.int .i64 u.r.X0, .int .i64 u.r.Y0, .int .i64 u.r.X1, .int .i64 u.r.Y1, .int .i64 u.z0, .int .i64 u.z1] 70))
   have HBX := Lib.hid (BxAt.new wr u)
   have FALSE : Hid (∀ w', Below W.heap.size W w' → ¬ BOk u → SolRes (ofS l) w (.returned (.tuple #[.slice none 0 0, .int .i64 1])) w') := Lib.hid (fun w' hb hn => by
    rw [show ofS l = ([], 1) from if_neg (fun h => hn (by rw [HU.out]; exact h _ (List.getElem_mem hlt)))]
    exact ⟨none, 0, rfl, SIn.nil _, HWW.out.trans (hb.mono HWW.out.size)⟩)
   have HTR := Lib.hid (fun w' => tright_nd u.r.X0 u.r.Y0 u.r.X1 u.r.Y1 w')
   have HIS := Lib.hid (fun w' => bisr_any u.z0 u.z1 w')
   by_cases ca : ROk u.r
   ·rw [show rokB ⟨u.r.X0, u.r.Y0, u.r.X1, u.r.Y1⟩ = true from (rokB_iff u.r).2 ca] at HTR
    by_cases cb : HOk u.z0 u.z1
    ·rw [decide_eq_true cb] at HIS
     have HT2 : Hid (∀ j (h : j < l.length), j < k + 1 → BOk l[j]) := Lib.hid (fun j h hj => by
      by_cases e : j < k
      ·exact HT.out j h e
      ·obtain rfl : j = k := by omega
       rw [← HU.out]; exact ⟨ca, cb⟩)
     clear ca cb HT HU FALSE
     go_wp2_with fail
     refine (HTR.out _).mono ?_
     rintro e w1 ⟨rfl, hb⟩
     have HB1 := Lib.hid (HAL.out.trans (hb.mono HAL.out.size))
     have hs2 := HBX.out.below hb
     have y4 := hs2.c4; have y5 := hs2.c5; have yl := hs2.lt
     clear hs2 hb
     go_wp2_with fail
     refine (HIS.out _).mono ?_
     rintro e w2 ⟨rfl, hb⟩
     have HB2 := Lib.hid (HB1.out.trans (hb.mono HB1.out.size))
     clear hb y4 y5 yl x0 x1 x2 x3 x4 x5
     go_wp2_with fail
     go_roundw
     case rel => exact ⟨k + 1, by omega, by go_num, HB2, HT2⟩
     case measure => simp [intOf]; omega
    ·rw [decide_eq_false cb] at HIS
     have NO : Hid (¬ BOk u) := Lib.hid (fun h => cb h.2)
     clear ca cb HT HU
     go_wp2_with fail
     refine (HTR.out _).mono ?_
     rintro e w1 ⟨rfl, hb⟩
     have HB1 := Lib.hid (HAL.out.trans (hb.mono HAL.out.size))
     have hs2 := HBX.out.below hb
     have y4 := hs2.c4; have y5 := hs2.c5; have yl := hs2.lt
     clear hs2 hb
     go_wp2_with fail
     refine (HIS.out _).mono ?_
     rintro e w2 ⟨rfl, hb⟩
     have HB2 := Lib.hid (HB1.out.trans (hb.mono HB1.out.size))
     clear hb
     go_wp2_with fail
     go_ret2
     exact FALSE.out _ HB2.out NO.out
   ·rw [show rokB ⟨u.r.X0, u.r.Y0, u.r.X1, u.r.Y1⟩ = false from (rokB_no u.r).2 ca] at HTR
    have NO : Hid (¬ BOk u) := Lib.hid (fun h => ca h.1)
    clear ca HT HU
    go_wp2_with fail
    refine (HTR.out _).mono ?_
    rintro e w1 ⟨rfl, hb⟩
    have HB1 := Lib.hid (HAL.out.trans (hb.mono HAL.out.size))
    clear hb
    go_wp2_with fail
    go_ret2
    exact FALSE.out _ HB1.out NO.out
  ·obtain rfl : k = l.length := by omega
   have HALL : Hid (∀ b ∈ l, BOk b) := Lib.hid (fun r hr => by
    obtain ⟨j, hj, rfl⟩ := List.mem_iff_getElem.1 hr
    exact HT.out j hj hj)
   have y0 := HCE.out wr HB.out
   have yl : w.heap.size < wr.heap.size := Nat.lt_of_lt_of_le hltW HB.out.size
   clear HT
   by_cases hbig : 200 < l.length
   ·have s1 : (200 : Int) < (l.length : Int) := by omega
    have FIN : Hid (SolRes (ofS l) w (.returned (.tuple #[.slice none 0 0, .int .i64 6])) wr) := Lib.hid (by
     rw [show ofS l = ([], 6) from by unfold ofS; rw [if_pos HALL.out, if_neg (by omega)]]
     exact ⟨none, 0, rfl, SIn.nil _, HWW.out.trans (HB.out.mono HWW.out.size)⟩)
    clear hbig
    go_wp2_with fail
    go_ret2
    exact FIN.out
   ·have s1 : ¬ (200 : Int) < (l.length : Int) := by omega
    have hl2 : l.length ≤ 200 := by omega
    have EQ : Hid (ofS l = capS (solB l)) := Lib.hid (by unfold ofS; rw [if_pos HALL.out, if_pos hl2])
    have I0 : Hid (IW (.slice none 0 0) (htB (l.take 0)) W wr) := Lib.hid ⟨World.ownsRow_nil _ _ _ _, HB.out⟩
    have HEI := Lib.hid (HB.out.size)
    clear hbig HB
    go_wp2_with fail
    go_loopw [6, 33] (fun v i w2 => ∃ (k : Nat) (v0 : Value), k ≤ l.length ∧ i = .int .i64 k ∧ v0 = v ∧ Hid (IW v0 (htB (l.take k)) W w2)) (fun _ i _ => l.length - (intOf i).toNat)
    case atStart => exact ⟨0, _, Nat.zero_le _, rfl, rfl, I0⟩
    case round =>
     clear I0 y0 yl
     obtain ⟨k, v, hk, rfl, rfl, HI⟩ := hrel
     by_cases hlt2 : k < l.length
     ·obtain ⟨b1, o1, rfl, hb1, hv1⟩ := H1.out (by omega)
      obtain ⟨_, _, _, _, x4, x5⟩ := hv1 k hlt2
      obtain ⟨x0, x1, x2, x3, _, _⟩ := hv1 k hlt2
      have wc := fun o => HI.out.bel.cell (p := ⟨b1, o, none⟩) hb1
      have x0 := (wc _).trans x0; have x1 := (wc _).trans x1; have x2 := (wc _).trans x2; have x3 := (wc _).trans x3; have x4 := (wc _).trans x4; have x5 := (wc _).trans x5
      have hbs := HI.out.bel.size
      have hbw : b1 < wr.heap.size := Nat.lt_of_lt_of_le hb1 hbs
      have n0 : (0 : Int) ≤ (k : Int) := by omega
      have n1 : (k : Int) < (l.length : Int) := by omega
      have HN := Lib.hid (htB_next l k hlt2)
      have htl : (htB (l.take k)).length ≤ 400 := by rw [htB_len, List.length_take]; omega
      obtain ⟨u, hu⟩ : ∃ u, u = l[k] := ⟨_, rfl⟩
      rw [← hu] at x0 x1 x2 x3 x4 x5 HN
      clear hu hv1 wc
      generalize htB (l.take k) = F at *
      have HO := Lib.hid HI.out.own
      go_wp2_with (at_builtin; refine wpList_append_own _ rfl _ _ 31 rfl W.heap.size 3 i0 (.int .i64 0) 1 8 Tryz.underlying31 hi9 hz0 hz1 hz2 rfl (by decide) _ _ _ rfl ((HO.out.alloc _).alloc _) ⟨wr.heap.size + 1, 0, none⟩ 2 2 [.int .i64 u.z0, .int .i64 u.z1] rfl rfl ?c1 ?c2 ?c3 ?c4 ?c5 ?_)
      case c1 =>
       intro t u ht
       match t, ht with
       | 0, ht => simp at ht; subst ht; simp [Addr.add]
       | 1, ht => simp at ht; subst ht; simp [Addr.add]
      case c2 => intro u hu; simp at hu; rcases hu with rfl | rfl <;> rfl
      case c3 => unfold maxLen; omega
      case c4 => omega
      case c5 => simp; omega
      intro v3 w4 hown3 hgr3 _
      have HX : Hid (IW v3 (htB (l.take (k + 1))) W w4) := Lib.hid ⟨by rw [HN.out, List.length_append, icells_append]; exact hown3, Below.grown ((HI.out.bel.alloc hbs _).alloc (by simp; omega) _) hgr3 (by simp; omega) (fun k hk => (HO.out.lt k hk).1)⟩
      clear hown3 hgr3 HO HI x0 x1 x2 x3 x4 x5
      go_wp2_with fail
      go_roundw
      case rel => exact ⟨k + 1, _, by omega, by go_num, rfl, HX⟩
      case measure => simp [intOf]; omega
     ·obtain rfl : k = l.length := by omega
      have hI := HI.out
      rw [List.take_length] at hI
      obtain ⟨A3, c3, rfl, _⟩ := own_parts hI.own
      have HFORM : Hid (Calls Tryz.prog 87 #[.slice A3 (htB l).length c3, .func (.func 88) #[] #[.pointer (some ⟨w.heap.size, 0, none⟩)]] wr (SolRes (ofS l) w)) := Lib.hid (by
       have := bform_any W 88 #[.pointer (some ⟨w.heap.size, 0, none⟩)] eg_bof (secB l) (htB l) (.slice A3 (htB l).length c3) wr (secB_form HALL.out) (htB_in HALL.out) (chgB l) (fun z w' hb => by
        show Calls Tryz.prog 88 #[.int .i64 z, .pointer (some ⟨w.heap.size, 0, none⟩)] w' _
        exact bofC_any w.heap.size A cap l z w' (HCE.out w' hb) (Nat.lt_of_lt_of_le hltW hb.size) (H1.out.below hb) HALL.out hl2) hI.own hI.bel (by rw [htB_len]; omega)
       rw [EQ.out]
       exact this.mono fun e w' h => h.base HWW.out)
      have HPT : Hid (∀ e w', SolRes (ofS l) w e w' → ∃ A4 c4, e = .returned (.tuple #[.slice A4 (ofS l).1.length c4, .int .i64 (ofS l).2]) ∧ Hid (SolRes (ofS l) w (.returned (.tuple #[.slice A4 (ofS l).1.length c4, .int .i64 (ofS l).2])) w')) := Lib.hid (fun e w' h => by
       obtain ⟨A4, c4, rfl, h2⟩ := h
       exact ⟨A4, c4, rfl, Lib.hid ⟨A4, c4, rfl, h2⟩⟩)
      clear hI HI EQ HALL HCE H1
      generalize (htB l).length = nh at *
      generalize ofS l = R at *
      obtain ⟨n2, hn2⟩ : ∃ n2, n2 = R.1.length := ⟨_, rfl⟩
      obtain ⟨r2, hr2⟩ : ∃ r2, r2 = R.2 := ⟨_, rfl⟩
      rw [← hn2, ← hr2] at HPT
      clear hn2 hr2
      go_wp2_with fail
      refine HFORM.out.mono ?_
      intro e w3 hres
      obtain ⟨A4, c4, rfl, HF4⟩ := HPT.out e w3 hres
      clear hres HPT HFORM
      go_wp2_with fail
      go_ret2
      exact HF4.out
end Go.Proofs.YtngddecpfhlilaaGreat
