/-
  Layer 14: the law LexErrors: where the first error is.
-/
import Derived.Test.YtfmocnbhahcgoaaDoorN1
set_option linter.unusedVariables false
set_option maxRecDepth 100000
namespace Go.Proofs.YtfmocnbhahcgoaaDoor
open Go.RowKit

theorem blanks_all (n : Nat) : (List.replicate n (32 : UInt8)).all blk = true := by
  rw [List.all_eq_true]
  intro b hb
  rw [(List.mem_replicate.1 hb).2]; rfl
theorem lex_fill (t : List UInt8) (k : Nat) : (lexG 0 (t ++ List.replicate k 32)).e = (lexG 0 t).e ∧ (lexG 0 (t ++ List.replicate k 32)).l.length = (lexG 0 t).l.length := by
  cases k with
  | zero => rw [List.replicate_zero, List.append_nil]; exact ⟨rfl, rfl⟩
  | succ k =>
    rw [List.replicate_succ, lex_app (c := 32) rfl, lex_blanks _ _ (blanks_all k)]
    by_cases h : (lexG 0 t).e = 0
    · rw [if_pos h, pre_yes rfl]
      refine ⟨h.symm, ?_⟩
      obtain ⟨_, L, hL, _⟩ := (lex_ok t 0).1 h
      rw [hL, List.dropLast_append_of_ne_nil (by simp)]
      simp
    · rw [if_neg h]; exact ⟨rfl, rfl⟩
theorem fill_ok (t : List UInt8) (k : Nat) (h : t.length + k = 8000) : (lexP (t ++ List.replicate k 32)).e = (lexG 0 t).e ∧ (lexP (t ++ List.replicate k 32)).l.length = (lexG 0 t).l.length := by
  rw [lexP_small (by simp; omega)]; exact lex_fill t k
theorem fill_full (t : List UInt8) (k : Nat) (h : t.length + k = 8001) : lexP (t ++ List.replicate k 32) = ⟨6, 0, []⟩ := by
  unfold lexP; rw [if_pos (by simp; omega)]
theorem two_j {j : Nat} (hj : j ≤ 10) : 10 * 2 ^ j ≤ 10240 ∧ (10 * 2 ^ j < 8000 → j ≤ 9) ∧ (¬ 10 * 2 ^ j < 8000 → 10 * 2 ^ j = 10240) := by
  rcases (by omega : j = 0 ∨ j = 1 ∨ j = 2 ∨ j = 3 ∨ j = 4 ∨ j = 5 ∨ j = 6 ∨ j = 7 ∨ j = 8 ∨ j = 9 ∨ j = 10) with rfl | rfl | rfl | rfl | rfl | rfl | rfl | rfl | rfl | rfl | rfl <;> refine ⟨by decide, ?_, ?_⟩ <;> intro h <;> revert h <;> decide
theorem app_list (s t : ByteArray) : (s ++ t).data.toList = s.data.toList ++ t.data.toList := by simp
theorem app_size (s t : ByteArray) : (s ++ t).size = s.size + t.size := by simp
set_option maxHeartbeats 16000000 in
theorem lerrors_any (s : ByteArray) (w : World) (hs : s.size ≤ 9223372036854775807) (hg : Glb w) : Calls Tryd.prog 7 #[.string s] w (BlIs true w) := by
  have H1 := Lib.hid small_any
  have H2 := Lib.hid (fun w' => cut_any s w' hs); clear hs
  have H3 := Lib.hid lex_any
  have HG := Lib.hid hg; clear hg
  go_enter Tryd.func7, Tryd.ntmps7
  go_wp2_with fail
  refine (H1.out w HG.out).mono ?_
  rintro e w1 ⟨rfl, hb1⟩
  have HB1 := Lib.hid hb1; clear hb1
  go_wp2_with fail
  refine (H2.out w1).mono ?_
  rintro e w2 ⟨⟨t, rfl, ht, _⟩, rfl⟩
  have htl : t.data.toList.length ≤ 3000 := by rw [ht]; exact cut_len _
  have hts : t.size ≤ 3000 := by rw [← size_list t]; exact htl
  have HTL := Lib.hid (size_list t)
  have HP := Lib.hid (lexP_small (t := t.data.toList) (by omega))
  clear ht htl
  go_wp2_with fail
  refine (H3.out t w2 (by omega) (HG.out.below HB1.out)).mono ?_
  rintro e w3 ⟨v, rfl, ho⟩
  rw [HP.out] at ho ⊢
  have HB3 := Lib.hid (HB1.out.trans (ho.bel.mono HB1.out.size))
  obtain ⟨A1, c1, rfl, _⟩ := own_tk ho.own
  clear ho HP
  have HOK := Lib.hid (lex_ok t.data.toList 0)
  have HER := Lib.hid (lex_err t.data.toList 0)
  have HF1 := Lib.hid (fill_ok t.data.toList)
  have HF2 := Lib.hid (fill_full t.data.toList)
  generalize hy : lexG 0 t.data.toList = y at *
  clear hy
  go_wp2_with fail
  have HN : Hid (∀ u : ByteArray, ∀ j, u.data.toList = List.replicate (10 * 2 ^ j) 32 → u.size = 10 * 2 ^ j) := Lib.hid (fun u j h => by rw [size_of h, List.length_replicate])
  go_loopw [8] (fun v wr => ∃ (u : ByteArray) (j : Nat), j ≤ 10 ∧ .string u = v ∧ Hid (u.data.toList = List.replicate (10 * 2 ^ j) 32) ∧ wr = w3) (fun v _ => 16000 - Lib.strSize v)
  case atStart => exact ⟨_, 0, by omega, rfl, Lib.hid rfl, rfl⟩
  case round =>
    obtain ⟨u, j, hj, rfl, HU, rfl⟩ := hrel
    have hus := HN.out u j HU.out
    obtain ⟨g1, g2, g3⟩ := two_j hj
    rw [← hus] at g1 g2 g3
    have HJ := Lib.hid hus
    clear hus
    by_cases hlt : u.size < 8000
    · have g4 := g2 hlt
      have HU2 : Hid ((u ++ u).data.toList = List.replicate (10 * 2 ^ (j + 1)) 32) := Lib.hid (by
        rw [app_list, HU.out, List.replicate_append_replicate]; congr 1; rw [Nat.pow_succ]; omega)
      clear g2 g3
      go_wp2_with fail
      go_roundw
      case rel => exact ⟨_, j + 1, by omega, rfl, HU2, trivial⟩
      case measure => 
        have h0 := HJ.out
        have h1 : 1 ≤ 2 ^ j := Nat.one_le_two_pow
        simp only [Lib.strSize_string, app_size]
        omega
    · have hu := g3 hlt
      have HN2 := HJ
      clear g1 g2 g3 HJ HN
      have n0 : u.size = 10240 := hu
      go_wp2_with fail
      have HQ1 : Hid ((t ++ u.extract 0 (8000 - t.size)).data.toList = t.data.toList ++ List.replicate (8000 - t.size) 32) := Lib.hid (by
        rw [app_list, Lib.extract_from_zero, HU.out, List.take_replicate]; congr 2; have := HN2.out; omega)
      have HQ2 : Hid ((t ++ u.extract 0 (8001 - t.size)).data.toList = t.data.toList ++ List.replicate (8001 - t.size) 32) := Lib.hid (by
        rw [app_list, Lib.extract_from_zero, HU.out, List.take_replicate]; congr 2; have := HN2.out; omega)
      have z1 : (t ++ u.extract 0 (8000 - t.size)).size ≤ 1099511627776 := by rw [size_of HQ1.out, List.length_append, List.length_replicate, HTL.out]; omega
      have z2 : (t ++ u.extract 0 (8001 - t.size)).size ≤ 1099511627776 := by rw [size_of HQ2.out, List.length_append, List.length_replicate, HTL.out]; omega
      have f1 := HF1.out (8000 - t.size) (by rw [HTL.out]; omega)
      have f2 := HF2.out (8001 - t.size) (by rw [HTL.out]; omega)
      have HX1 := Lib.hid (H3.out _ wr z1 (HG.out.below HB3.out))
      rw [HQ1.out] at HX1
      have HZ2 := Lib.hid z2
      generalize lexP (t.data.toList ++ List.replicate (8000 - t.size) 32) = y1 at *
      generalize t ++ u.extract 0 (8000 - t.size) = s1 at *
      have HF2' := Lib.hid f2
      obtain ⟨hf1, hf2⟩ := f1
      clear f2 z1 z2 HU HF1 HF2 HQ1
      refine HX1.out.mono ?_
      rintro e w4 ⟨v4, rfl, ho4⟩
      have HB4 := Lib.hid (HB3.out.trans (ho4.bel.mono HB3.out.size))
      obtain ⟨A4, c4, rfl, _⟩ := own_tk ho4.own
      rw [hf1, hf2]
      clear ho4 HX1 hf1 hf2
      generalize y1.a = a1 at *
      generalize hn : y.l.length = n at *
      go_wp2_with fail
      have HX2 := Lib.hid (H3.out _ w4 HZ2.out (HG.out.below HB4.out))
      rw [HQ2.out, HF2'.out] at HX2
      refine HX2.out.mono ?_
      rintro e w5 ⟨v5, rfl, ho5⟩
      have HB5 := Lib.hid (HB4.out.trans (ho5.bel.mono HB4.out.size))
      clear ho5 HX2 HZ2 HF2' HQ2
      generalize t ++ u.extract 0 (8001 - t.size) = s2 at *
      have k0 : (y.e != y.e) = false := by simp
      have k1 : ((n : Int) != (n : Int)) = false := by simp
      by_cases he : y.e = 0
      · have hee : (y.e == 0) = true := by rw [beq_iff_eq]; exact he
        clear HOK HER
        go_wp2_with fail
        go_ret
        exact ⟨rfl, HB5.out⟩
      · have hee : (y.e == 0) = false := by rw [beq_eq_false_iff_ne]; exact he
        obtain ⟨p, q, hpq, hya, hq, hlp, hlq⟩ := HER.out he
        have hek := (HOK.out.2 he).2
        clear HOK HER
        obtain ⟨m, hm⟩ : ∃ m, m = p.length := ⟨_, rfl⟩
        have hlen := congrArg List.length hpq
        rw [List.length_append, HTL.out, ← hm] at hlen
        have hql : 0 < q.length := List.length_pos_iff.2 hq
        have hya2 : y.a = (m : Int) := by rw [hya, hm]; simp
        have HP3 : Hid ((t.extract 0 m).data.toList = p) := Lib.hid (by rw [Lib.extract_from_zero, hpq, hm, List.take_left])
        have HP4 : Hid ((t.extract m t.size).data.toList = q) := Lib.hid (by rw [Lib.extract_to_end, hpq, hm, List.drop_left])
        have z3 : (t.extract 0 m).size ≤ 1099511627776 := by rw [size_of HP3.out]; omega
        have z4 : (t.extract m t.size).size ≤ 1099511627776 := by rw [size_of HP4.out]; omega
        have m0 : (0 : Int) ≤ (m : Int) := by omega
        have m1 : (m : Int) < (t.size : Int) := by omega
        have HE1 := Lib.hid (hlp 0)
        have HE2 := Lib.hid (hlq 0)
        have HPS := Lib.hid (lexP_small (t := p) (by omega))
        have HQS := Lib.hid (lexP_small (t := q) (by omega))
        have HX3 := Lib.hid (H3.out _ w5 z3 (HG.out.below HB5.out))
        rw [HP3.out, HPS.out] at HX3
        have HZ4 := Lib.hid z4
        rw [hya2]
        clear hpq hya hlp hlq hlen hql z3 z4 hm hq hya2
        generalize lexG 0 p = yp at *
        rw [HE2.out] at HQS
        generalize y.e = ee at *
        have e0 : (ee == ee) = true := by simp
        have HN5 : Hid (ee ≠ 0) := Lib.hid he
        rcases hek with rfl | rfl | rfl
        all_goals
          clear he hee k0 k1 e0
          go_wp2_with fail
          generalize t.extract 0 m = s3 at *
          refine HX3.out.mono ?_
          rintro e w6 ⟨v6, rfl, ho6⟩
          have HB6 := Lib.hid (HB5.out.trans (ho6.bel.mono HB5.out.size))
          rw [HE1.out]
          clear ho6
          generalize yp.a = a6 at *
          have HX4 := Lib.hid (H3.out _ w6 HZ4.out (HG.out.below HB6.out))
          rw [HP4.out, HQS.out] at HX4
          go_wp2_with fail
          generalize t.extract m t.size = s4 at *
          refine HX4.out.mono ?_
          rintro e w7 ⟨v7, rfl, ho7⟩
          have HB7 := Lib.hid (HB6.out.trans (ho7.bel.mono HB6.out.size))
          clear ho7
          go_wp2_with fail
          go_ret
          exact ⟨rfl, HB7.out⟩
end Go.Proofs.YtfmocnbhahcgoaaDoor
