/-
  Layer 14: the law LexWords: a word or a number is a token that stands alone.
-/
import Derived.Test.YtfmocnbhahcgoaaDoorN1
set_option linter.unusedVariables false
set_option maxRecDepth 100000
namespace Go.Proofs.YtfmocnbhahcgoaaDoor
open Go.RowKit

theorem wordB_parts {t : List UInt8} (h : wordB t = true) : hdB ltr t = true ∧ t.all aln = true ∧ t.length ≤ 20 := by
  unfold wordB at h
  simp only [Bool.and_eq_true, decide_eq_true_eq] at h
  exact ⟨h.1.1, h.1.2, h.2⟩
theorem ltr_blk {b : UInt8} (h : ltr b = true) : blk b = false := by
  rw [ltr_iff] at h
  unfold blk
  simp only [Bool.or_eq_false_iff, beq_eq_false_iff_ne, ne_eq, ← UInt8.toNat_inj]
  simp only [UInt8.reduceToNat]
  omega
theorem dgt_blk {b : UInt8} (h : dgt b = true) : blk b = false ∧ ltr b = false := by
  rw [dgt_iff] at h
  refine ⟨?_, ?_⟩
  · unfold blk
    simp only [Bool.or_eq_false_iff, beq_eq_false_iff_ne, ne_eq, ← UInt8.toNat_inj]
    simp only [UInt8.reduceToNat]
    omega
  · rw [Bool.eq_false_iff]; intro h2; rw [ltr_iff] at h2; omega
theorem word_alone {t : List UInt8} (h : wordB t = true) : OkT ⟨0, t, 0, 0⟩ := by
  obtain ⟨h1, h2, h3⟩ := wordB_parts h
  refine ⟨?_, ?_⟩
  · show firstT t = ⟨0, 0, t, 0⟩
    unfold firstT
    rw [if_pos h1, take_of_all h2]
    unfold wordT
    rw [if_pos h]
  · show hdB blk t = false
    cases t with
    | nil => rfl
    | cons b r => exact ltr_blk h1
theorem num_alone {t : List UInt8} (h : numB t = true) : OkT ⟨1, t, valD t, 0⟩ := by
  obtain ⟨h1, h2, h3, h4⟩ := numB_parts h
  cases t with
  | nil => exact absurd rfl h1
  | cons b r =>
    have hb : dgt b = true := by rw [List.all_cons, Bool.and_eq_true] at h2; exact h2.1
    obtain ⟨g1, g2⟩ := dgt_blk hb
    refine ⟨?_, g1⟩
    show firstT (b :: r) = ⟨0, 1, b :: r, valD (b :: r)⟩
    unfold firstT
    rw [if_neg (by show ¬ ltr b = true; rw [g2]; decide), if_pos (show hdB dgt (b :: r) = true from hb), take_of_all h2]
    unfold numT
    rw [if_pos h]
theorem words_none {t : List UInt8} (h : ¬ ((lexG 0 t).e = 0 ∧ (lexG 0 t).l.length = 2)) : wordB t = false ∧ numB t = false := by
  refine ⟨?_, ?_⟩
  · rw [Bool.eq_false_iff]; intro hw
    have := lex_alone (word_alone hw) 0
    simp only at this
    rw [this] at h
    exact h ⟨rfl, rfl⟩
  · rw [Bool.eq_false_iff]; intro hw
    have := lex_alone (num_alone hw) 0
    simp only at this
    rw [this] at h
    exact h ⟨rfl, rfl⟩
theorem words_two {t : List UInt8} (h0 : (lexG 0 t).e = 0) (h2 : (lexG 0 t).l.length = 2) : ∃ x a, (lexG 0 t).l = [x, endT a] ∧ wordB t = (decide (x.t = t) && decide (x.k = 0)) ∧ numB t = (decide (x.t = t) && decide (x.k = 1)) ∧ (numB t = true → x.n = valD t) := by
  obtain ⟨_, L, hL, hn, hx⟩ := (lex_ok t 0).1 h0
  match L, hL, hx with
  | [], hL, _ => rw [hL] at h2; exact absurd h2 (by simp)
  | _ :: _ :: _, hL, _ => rw [hL] at h2; simp at h2
  | [x], hL, hx =>
    have hok := hx x (by simp)
    have e : (firstT x.t).e = 0 := by rw [hok.1]
    have ok := first_ok e
    have k0 : x.k = 0 → wordB x.t = true := fun h => by
      have := ok.k0 (by rw [hok.1]; exact h)
      rw [hok.1] at this; exact this
    have k1 : x.k = 1 → numB x.t = true ∧ x.n = valD x.t := fun h => by
      have := ok.k1 (by rw [hok.1]; exact h)
      rw [hok.1] at this; exact this
    have wa : wordB t = true → x.t = t ∧ x.k = 0 := fun hw => by
      have := lex_alone (word_alone hw) 0
      simp only at this
      rw [this] at hL
      simp only [List.cons_append, List.nil_append, List.cons.injEq] at hL
      exact ⟨by rw [← hL.1], by rw [← hL.1]⟩
    have na : numB t = true → x.t = t ∧ x.k = 1 := fun hw => by
      have := lex_alone (num_alone hw) 0
      simp only at this
      rw [this] at hL
      simp only [List.cons_append, List.nil_append, List.cons.injEq] at hL
      exact ⟨by rw [← hL.1], by rw [← hL.1]⟩
    refine ⟨x, 0 + t.length, hL, ?_, ?_, ?_⟩
    · rw [Bool.eq_iff_iff, Bool.and_eq_true, decide_eq_true_eq, decide_eq_true_eq]
      exact ⟨wa, fun h => by rw [← h.1]; exact k0 h.2⟩
    · rw [Bool.eq_iff_iff, Bool.and_eq_true, decide_eq_true_eq, decide_eq_true_eq]
      exact ⟨na, fun h => by rw [← h.1]; exact (k1 h.2).1⟩
    · intro h
      obtain ⟨h1, h2⟩ := na h
      rw [← h1]; exact (k1 h2).2
set_option maxHeartbeats 16000000 in
theorem lwords_any (s : ByteArray) (w : World) (hs : s.size ≤ 9223372036854775807) (hg : Glb w) : Calls Tryd.prog 8 #[.string s] w (BlIs true w) := by
  have H1 := Lib.hid small_any
  have H2 := Lib.hid (fun w' => cut_any s w' hs); clear hs
  have H3 := Lib.hid lex_any
  have H4 := Lib.hid xnumber_any
  have H5 := Lib.hid xword_any
  have HG := Lib.hid hg; clear hg
  go_enter Tryd.func8, Tryd.ntmps8
  go_wp2_with fail
  refine (H1.out w HG.out).mono ?_
  rintro e w1 ⟨rfl, hb1⟩
  have HB1 := Lib.hid hb1; clear hb1
  go_wp2_with fail
  refine (H2.out w1).mono ?_
  rintro e w2 ⟨⟨t, rfl, ht, _⟩, rfl⟩
  have htl : t.data.toList.length ≤ 3000 := by rw [ht]; exact cut_len _
  have hts := size_list t
  have HP := Lib.hid (lexP_small (t := t.data.toList) (by omega))
  have HW0 := Lib.hid (words_none (t := t.data.toList))
  have HW2 := Lib.hid (words_two (t := t.data.toList))
  have HTW := Lib.hid (fun h => (wordB_parts (t := t.data.toList) h).2.2)
  have HTN := Lib.hid (fun h => (numB_parts (l := t.data.toList) h).2.2.2)
  have HTL := Lib.hid hts
  clear ht
  go_wp2_with fail
  refine (H3.out t w2 (by omega) (HG.out.below HB1.out)).mono ?_
  rintro e w3 ⟨v, rfl, ho⟩
  rw [HP.out] at ho ⊢
  have HB3 := Lib.hid (HB1.out.trans (ho.bel.mono HB1.out.size))
  generalize lexG 0 t.data.toList = y at *
  obtain ⟨A1, c1, rfl, hr1⟩ := own_tk ho.own
  have HR1 := Lib.hid hr1; clear hr1 ho
  go_wp2_with fail
  refine (H4.out t w3 (by omega) (HG.out.below HB3.out)).mono ?_
  rintro e w4 ⟨rfl, hb4⟩
  have HB4 := Lib.hid (HB3.out.trans (hb4.mono HB3.out.size))
  have HR4 := Lib.hid (HR1.out.below hb4)
  clear hb4 HR1
  go_wp2_with fail
  refine (H5.out t w4 (by omega)).mono ?_
  rintro e w5 ⟨rfl, hb5⟩
  have HB5 := Lib.hid (HB4.out.trans (hb5.mono HB4.out.size))
  have HR5 := Lib.hid (HR4.out.below hb5)
  clear hb5 HR4 HP
  by_cases hc : y.e = 0 ∧ y.l.length = 2
  · obtain ⟨he, h2⟩ := hc
    have hee : (y.e == 0) = true := by rw [beq_iff_eq]; exact he
    have hek : (y.e != 0) = false := by rw [bne_eq_false_iff_eq]; exact he
    obtain ⟨x, a, hl, hwb, hnb, hnv⟩ := HW2.out he h2
    have hr5 := HR5.out
    rw [hl] at hr5
    obtain ⟨b, o, rfl, hb, hcell⟩ := hr5 (by simp)
    obtain ⟨x0, x1, x2, x3⟩ := hcell 0 (by simp)
    simp only [Nat.zero_mul, Nat.add_zero, List.getElem_cons_zero] at x0 x1 x2 x3
    have hst : ((⟨x.t.toArray⟩ : ByteArray).toList == t.toList) = decide (x.t = t.data.toList) := str_eq _ _
    rw [h2]
    clear HR5 HW0 HW2 hcell x3 hl
    generalize (⟨x.t.toArray⟩ : ByteArray) = u at *
    by_cases c0 : x.t = t.data.toList
    · rw [decide_eq_true c0] at hst hwb hnb
      rw [Bool.true_and] at hwb hnb
      by_cases k0 : x.k = 0
      · rw [decide_eq_true k0] at hwb
        have k1 : ¬ x.k = 1 := by omega
        rw [decide_eq_false k1] at hnb
        have e0 : (x.k == 0) = true := by rw [beq_iff_eq]; exact k0
        have e1 : (x.k == 1) = false := by rw [beq_eq_false_iff_ne]; exact k1
        have hlen : t.size ≤ 20 := by have := HTW.out hwb; omega
        have hnv0 : numV t.data.toList = 0 := by unfold numV; rw [hnb]; rfl
        rw [hwb, hnb, hnv0]
        clear hwb hnb hnv c0
        go_wp2_with fail
        go_ret
        exact ⟨rfl, HB5.out⟩
      · rw [decide_eq_false k0] at hwb
        have e0 : (x.k == 0) = false := by rw [beq_eq_false_iff_ne]; exact k0
        by_cases k1 : x.k = 1
        · rw [decide_eq_true k1] at hnb
          have e1 : (x.k == 1) = true := by rw [beq_iff_eq]; exact k1
          have hn := hnv hnb
          have hnx := HTN.out hnb
          have hnv0 : numV t.data.toList = x.n := by unfold numV; rw [hnb, if_pos rfl, hn]
          have n0 : 0 ≤ x.n := by omega
          have n1 : x.n ≤ 1099511627776 := by omega
          have n2 : (x.n == x.n) = true := by simp
          rw [hwb, hnb, hnv0]
          clear hwb hnb hnv c0 hn hnx
          go_wp2_with fail
          go_ret
          exact ⟨rfl, HB5.out⟩
        · rw [decide_eq_false k1] at hnb
          have e1 : (x.k == 1) = false := by rw [beq_eq_false_iff_ne]; exact k1
          have hnv0 : numV t.data.toList = 0 := by unfold numV; rw [hnb]; rfl
          rw [hwb, hnb, hnv0]
          clear hwb hnb hnv c0
          go_wp2_with fail
          go_ret
          exact ⟨rfl, HB5.out⟩
    · rw [decide_eq_false c0] at hst hwb hnb
      rw [Bool.false_and] at hwb hnb
      have hnv0 : numV t.data.toList = 0 := by unfold numV; rw [hnb]; rfl
      rw [hwb, hnb, hnv0]
      clear hwb hnb hnv c0
      go_wp2_with fail
      go_ret
      exact ⟨rfl, HB5.out⟩
  · obtain ⟨hwb, hnb⟩ := HW0.out hc
    have hnv0 : numV t.data.toList = 0 := by unfold numV; rw [hnb]; rfl
    rw [hwb, hnb, hnv0]
    clear HW0 HW2 hwb hnb HR5
    by_cases he : y.e = 0
    · have hee : (y.e == 0) = true := by rw [beq_iff_eq]; exact he
      have hek : (y.e != 0) = false := by rw [bne_eq_false_iff_eq]; exact he
      have hl2 : ((y.l.length : Int) == 2) = false := by rw [beq_eq_false_iff_ne]; intro h; exact hc ⟨he, by omega⟩
      have hl3 : ((y.l.length : Int) != 2) = true := by rw [bne_iff_ne]; intro h; exact hc ⟨he, by omega⟩
      clear hc
      generalize y.l.length = n at *
      go_wp2_with fail
      go_ret
      exact ⟨rfl, HB5.out⟩
    · have hee : (y.e == 0) = false := by rw [beq_eq_false_iff_ne]; exact he
      have hek : (y.e != 0) = true := by rw [bne_iff_ne]; exact he
      clear hc
      go_wp2_with fail
      go_ret
      exact ⟨rfl, HB5.out⟩
end Go.Proofs.YtfmocnbhahcgoaaDoor
