/-
  Contracts of the program's layer 6 (14): Parts of two rectangles that don't touch, and of what is no region.
-/
import Derived.Test.YtcnojedijimheaaHt
set_option linter.unusedVariables false
set_option maxRecDepth 100000
namespace Go.Proofs.Ytcnojedijimheaa
open Go.RowKit

theorem mkB2 (w : World) : Sem.run Try.prog (Instr.makeSlice 69 (.int .i64 2) (.int .i64 2)) w = .ok (.slice (some ⟨w.heap.size, 0, none⟩) 2 2) (w.alloc (.cells #[.bool false, .bool false] 4)) := by first | rfl | kernel_rfl
theorem gparts_no (A : Option Addr) (cap : Nat) (l : List Rc) (w : World) (h : RIn w A cap l) (hr : ¬ RegP l) : Calls Try.prog 31 #[.slice A l.length cap] w fun e w' => e = .returned (.slice none 0 0) ∧ Below w.heap.size w w' := by
  have RA := Lib.hid (gright_no A cap l w h.row h.len h.room h.room2 hr)
  clear h hr
  go_enter Try.func31, Try.ntmps31
  go_wp2_with fail
  refine RA.out.mono ?_
  rintro e1 w1 ⟨rfl, hb1⟩
  have HB1 := Lib.hid hb1; clear hb1 RA
  go_wp2_with fail
  go_ret
  exact ⟨rfl, HB1.out⟩
def flg (k : Nat) : List Bool := [decide (0 < k), decide (1 < k)]
structure PW (vp : Value) (Vs : List Value) (k rb : Nat) (w wr : World) : Prop where
  own : wr.ownsRow w.heap.size 22 1 vp k Vs
  flags : wr.ownsRow rb 4 1 (.slice (some ⟨rb, 0, none⟩) 2 2) 2 (bcells (flg k))
  bel : Below w.heap.size w wr
def LenIs (n : Nat) (w : World) (e : Ending) (w' : World) : Prop := ∃ A cap, e = .returned (.slice A n cap) ∧ Below w.heap.size w w'
theorem own_val {w : World} {B e n : Nat} {v : Value} {xs : List Value} (h : w.ownsRow B e 1 v n xs) : ∃ A cap, v = .slice A n cap := by
  obtain ⟨A, cap, rfl, _⟩ := own_parts h
  exact ⟨A, cap, rfl⟩
set_option maxHeartbeats 16000000 in
theorem gparts_two (A : Option Addr) (cap : Nat) (r0 r1 : Rc) (w : World) (h : RIn w A cap [r0, r1]) (hr : RegP [r0, r1]) (ht : ¬ TouchR r0 r1 ∧ ¬ TouchR r1 r0) : Calls Try.prog 31 #[.slice A 2 cap] w (LenIs 2 w) := by
  have RA := Lib.hid (gright_yes A cap [r0, r1] w h.row h.len h.room h.room2 hr)
  obtain ⟨b1, o1, rfl, hb1, _⟩ := h.row (by simp)
  have HROW := Lib.hid h.row
  have HT : Hid (∀ i (hi : i < [r0, r1].length), ∀ j (hj : j < [r0, r1].length), j ≠ i → ¬ TouchR [r0, r1][i] [r0, r1][j]) := Lib.hid (fun i hi j hj hne => by
    match i, j, hi, hj with
    | 0, 0, _, _ => exact absurd rfl hne
    | 0, 1, _, _ => exact ht.1
    | 1, 0, _, _ => exact ht.2
    | 1, 1, _, _ => exact absurd rfl hne)
  clear h hr ht
  have RA2 : Hid (Calls Try.prog 33 #[.slice (some ⟨b1, o1, none⟩) 2 cap] w (BlIs true w)) := RA
  clear RA
  have hmk := mkB2
  obtain ⟨i0, hi9, hz0, hz1, hz2⟩ := info_parts infoRects
  go_enter Try.func31, Try.ntmps31
  go_wp2_with fail
  refine RA2.out.mono ?_
  rintro e1 w1 ⟨rfl, hb⟩
  have HB1 := Lib.hid hb; clear hb RA2
  have P0 : Hid (PW (.slice none 0 0) [] 0 w1.heap.size w (w1.alloc (.cells #[.bool false, .bool false] 4))) := Lib.hid ⟨World.ownsRow_nil _ _ _ _, ⟨rfl, Or.inr ⟨w1.heap.size, 2, #[.bool false, .bool false], rfl, Nat.le_refl _, heap_alloc_new w1 _, Nat.le_refl _, by unfold maxLen; omega, rfl, rfl⟩⟩, HB1.out.alloc HB1.out.size _⟩
  go_wp2_with fail
  clear hmk
  go_loopw [3, 16] (fun p i wr => ∃ (k : Nat) (vp : Value) (Vs : List Value), k ≤ 2 ∧ i = .int .i64 k ∧ vp = p ∧ Hid (PW vp Vs k w1.heap.size w wr)) (fun _ i _ => 2 - (intOf i).toNat)
  case atStart => exact ⟨0, _, [], by omega, rfl, rfl, P0⟩
  case round =>
    clear P0
    obtain ⟨k, vp, Vs, hk, rfl, rfl, HP⟩ := hrel
    by_cases hlt : k < 2
    · have hb1w : b1 < w1.heap.size := Nat.lt_of_lt_of_le hb1 HB1.out.size
      have hkl : k < [r0, r1].length := hlt
      have hfl := HP.out.flags.cellAt k (by omega)
      have hf2 : (bcells (flg k))[k]? = some (.bool false) := by
        match k, hlt with
        | 0, _ => rfl
        | 1, _ => rfl
      have hflag := hfl.trans hf2
      have HC := Lib.hid (gconn_iso b1 o1 cap w1.heap.size [r0, r1] (flg k) k wr (HROW.out.below HP.out.bel) hkl (by simp) hb1w HP.out.flags (fun j hj hne => HT.out k hkl j hj hne))
      have HSET : Hid ((flg k).set k true = flg (k + 1)) := Lib.hid (by
        match k, hlt with
        | 0, _ => rfl
        | 1, _ => rfl)
      obtain ⟨u, hu⟩ : ∃ u, u = [r0, r1][k] := ⟨_, rfl⟩
      rw [← hu] at HC
      have HU := Lib.hid hu
      clear hfl hf2 hu
      have j0 : (0 : Int) ≤ (k : Int) := by omega
      have j1 : (k : Int) < 2 := by omega
      go_wp2_with fail
      refine HC.out.mono ?_
      rintro e w2 ⟨pb, rfl, hco⟩
      have HCO := Lib.hid hco; clear hco hflag
      have hpr : RRow w2 (some ⟨pb, 0, none⟩) [u] := fun _ => ⟨pb, 0, rfl, HCO.out.part.lt, fun j hj => by
        obtain rfl : j = 0 := by simp at hj; omega
        exact ⟨HCO.out.part.cell0, HCO.out.part.cell1, HCO.out.part.cell2, HCO.out.part.cell3⟩⟩
      have HOF := Lib.hid (gof_any (some ⟨pb, 0, none⟩) 1 [u] w2 hpr (by simp))
      clear hpr HC
      go_wp2_with fail
      refine HOF.out.mono ?_
      rintro e w3 hf
      obtain ⟨A3, c3, rfl, _, hb3⟩ := hf.parts
      have HB3 := Lib.hid hb3
      clear hf hb3 HOF
      generalize (ofR [u]).1.length = n3 at *
      generalize (ofR [u]).2 = e3 at *
      have hown2 : w2.ownsRow w.heap.size 22 1 vp k Vs := own_stays HP.out.own (fun g hg => HCO.out.grown.block g (HP.out.own.lt g hg).2 (fun e => by
        exact own_apart HP.out.own HP.out.flags (by decide) g hg (by rw [e]; rfl)))
      have hown3 := own_go hown2 HB3.out
      have hfl3 := own_go HCO.out.flags HB3.out
      have hbel2 : Below w.heap.size w w2 := ⟨HCO.out.grown.os.trans HP.out.bel.os, HCO.out.grown.tape.trans HP.out.bel.tape, HCO.out.grown.output.trans HP.out.bel.output, Nat.le_trans HP.out.bel.size HCO.out.grown.size, fun i hi => (HCO.out.grown.block i (Nat.lt_of_lt_of_le hi HP.out.bel.size) (fun e => by
        injection e with e; have := HB1.out.size; omega)).trans (HP.out.bel.block i hi)⟩
      have HBEL3 := Lib.hid (hbel2.trans (HB3.out.mono hbel2.size))
      have HO3 := Lib.hid hown3; have HF3 := Lib.hid hfl3
      have hsz3 := HBEL3.out.size
      clear hown2 hown3 hfl3 hbel2 HB3 HCO HP
      go_wp2_with (at_builtin; refine wpList_append_own _ rfl _ _ 29 rfl w.heap.size 22 i0 (.slice none 0 0) 1 24 Try.underlying29 hi9 hz0 hz1 hz2 rfl (by decide) _ _ _ rfl (HO3.out.alloc _) ⟨w3.heap.size, 0, none⟩ 1 1 [.slice A3 n3 c3] rfl rfl ?c1 ?c2 ?c3 ?c4 ?c5 ?_)
      case c1 =>
        intro t u ht
        match t, ht with
        | 0, ht => simp at ht; subst ht; simp [Addr.add]
      case c2 => intro u hu; simp at hu; subst hu; rfl
      case c3 => unfold maxLen; omega
      case c4 => omega
      case c5 => simp; omega
      intro v' w4 hown' hgr _
      have HP4 : Hid (PW v' (Vs ++ [.slice A3 n3 c3]) (k + 1) w1.heap.size w w4) := Lib.hid (by
        have hfa := own_go HF3.out ((Below.refl w3.heap.size w3).alloc (Nat.le_refl _) (.cells #[.slice A3 n3 c3] 22))
        rw [HSET.out] at hfa
        exact ⟨hown', own_kept (HO3.out.alloc _) hfa (by decide) hgr, Below.grown (w := w3.alloc (.cells #[.slice A3 n3 c3] 22)) (HBEL3.out.alloc hsz3 _) hgr (by simp; omega) (fun k hk => (HO3.out.lt k hk).1)⟩)
      clear hown' hgr HO3 HF3 HBEL3
      go_wp2_with fail
      go_roundw
      case rel => exact ⟨k + 1, _, _, by omega, by go_num, rfl, HP4⟩
      case measure => simp [intOf]; omega
    · obtain rfl : k = 2 := by omega
      obtain ⟨A9, c9, rfl⟩ := own_val HP.out.own
      go_wp2_with fail
      go_ret
      exact ⟨A9, c9, rfl, HP.out.bel⟩
end Go.Proofs.Ytcnojedijimheaa
