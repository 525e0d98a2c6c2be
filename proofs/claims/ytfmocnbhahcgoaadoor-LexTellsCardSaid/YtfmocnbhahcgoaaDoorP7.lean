/-
  Layer 14: the contract of the reference's Lex.
-/
import Derived.Test.YtfmocnbhahcgoaaDoorP6
set_option linter.unusedVariables false
set_option maxRecDepth 100000
namespace Go.Proofs.YtfmocnbhahcgoaaDoor
open Go.RowKit

set_option maxHeartbeats 16000000 in
theorem rlex_any (s : ByteArray) (w : World) (hs : s.size ≤ 1099511627776) : Calls Tryd.prog 12 #[.string s] w (LexIs (lexP s.data.toList) w) := by
  have hsz := size_list s
  by_cases hlen : s.size ≤ 8000
  case neg =>
    have HF : Hid (lexP s.data.toList = ⟨6, 0, []⟩) := Lib.hid (by unfold lexP; rw [if_pos (by omega)])
    go_enter Tryd.func12, Tryd.ntmps12
    go_wp2_with fail
    go_ret3
    rw [HF.out]
    exact ⟨_, rfl, World.ownsRow_nil _ _ _ _, Below.refl _ _⟩
  case pos =>
  have HFP : Hid (lexP s.data.toList = lexG 0 s.data.toList) := Lib.hid (by unfold lexP; rw [if_neg (by omega)])
  have H1 := Lib.hid blank_any
  have H2 := Lib.hid (fun k w' hk => rtoken_any s k w' hs hk)
  have HS := Lib.hid hsz; clear hsz
  obtain ⟨i0, hi9, hz0, hz1, hz2⟩ := info_parts infoToken
  have K0 : Hid (LW (.slice none 0 0) [] w w) := Lib.hid ⟨World.ownsRow_nil _ _ _ _, Below.refl _ _⟩
  have E0 : Hid (lexG 0 s.data.toList = pre [] (lexG 0 (s.data.toList.drop 0))) := Lib.hid (by rw [pre_nil]; rfl)
  rw [HFP.out]
  clear HFP
  go_enter Tryd.func12, Tryd.ntmps12
  go_wp2_with fail
  go_loopw [5, 6] (fun v i wr => ∃ (k : Nat) (v0 : Value) (L : List Tk), k ≤ s.size ∧ L.length ≤ k ∧ i = .int .i64 k ∧ v0 = v ∧ Hid (LW v0 L w wr) ∧ Hid (lexG 0 s.data.toList = pre L (lexG k (s.data.toList.drop k)))) (fun _ i _ => s.size + 1 - (intOf i).toNat)
  case atStart => exact ⟨0, _, [], Nat.zero_le _, Nat.le_refl _, rfl, rfl, K0, E0⟩
  case round =>
    clear K0 E0
    obtain ⟨k, v, L, hk, hL, rfl, rfl, HK, HE⟩ := hrel
    by_cases hlt : k < s.size
    · have n0 : (0 : Int) ≤ (k : Int) := by omega
      have n1 : (k : Int) < (s.size : Int) := by omega
      have HB := Lib.hid (H1.out (s[k]'hlt))
      have HDR := Lib.hid (drop_at_byte hlt)
      have HSTEP := Lib.hid (lex_step (l := s.data.toList) (k := k) (by rw [HS.out]; exact hlt))
      have HLEN := Lib.hid (first_len (l := s.data.toList) (k := k))
      go_wp2_with fail
      refine (HB.out _).mono ?_
      rintro e w1 ⟨rfl, hb1⟩
      have HK1 := Lib.hid (HK.out.go hb1); clear hb1 HK HB
      cases hbk : blk (s[k]'hlt) with
      | true =>
        have HX : Hid (lexG 0 s.data.toList = pre L (lexG (k + 1) (s.data.toList.drop (k + 1)))) := Lib.hid (by rw [HE.out, HDR.out, lexG_blk hbk])
        clear hbk HE HDR HSTEP HLEN
        go_wp2_with fail
        go_roundw
        case rel => exact ⟨k + 1, _, L, by omega, by omega, by go_num, rfl, HK1, HX⟩
        case measure => simp [intOf]; omega
      | false =>
        have HST := Lib.hid (HSTEP.out (by rw [HDR.out]; exact hbk))
        clear hbk HDR HSTEP
        go_wp2_with fail
        refine (H2.out k w1 hlt).mono ?_
        rintro e w2 ⟨u, hu, rfl, hb2⟩
        have HK2 := Lib.hid (HK1.out.go hb2); clear hb2 HK1
        generalize hx : firstT (s.data.toList.drop k) = x at *
        clear hx
        by_cases he : x.e = 0
        · have hl := HLEN.out he
          rw [HS.out] at hl
          obtain ⟨k3, hk3⟩ : ∃ k3, k3 = k + u.size := ⟨_, rfl⟩
          have husz := size_of hu
          have HE3 : Hid (lexG 0 s.data.toList = pre (L ++ [x.tk k]) (lexG k3 (s.data.toList.drop k3))) := Lib.hid (by
            rw [HE.out, HST.out, if_pos he, pre_pre, ← husz, hk3])
          have HQ3 : Hid (k3 ≤ s.size ∧ (L ++ [x.tk k]).length ≤ k3 ∧ k < k3) := Lib.hid (by
            refine ⟨by omega, ?_, by omega⟩
            rw [List.length_append]; simp only [List.length_cons, List.length_nil]; omega)
          have HO : Hid (∀ w', Below w2.heap.size w2 w' → w'.ownsRow w.heap.size 25 4 v L.length (tkcells L)) := Lib.hid (fun w' hb => own_go HK2.out.own hb)
          have HU : Hid ((⟨x.t.toArray⟩ : ByteArray) = u) := Lib.hid (by rw [← hu, Lib.mk_data])
          have u0 : (0 : Int) ≤ (k : Int) + (u.size : Int) := by omega
          have u1 : (k : Int) + (u.size : Int) ≤ 1099511627776 := by omega
          have hws := HK2.out.bel.size
          have hee : (x.e == 0) = true := by rw [beq_iff_eq]; exact he
          have hLL : L.length ≤ 8000 := by omega
          rw [if_pos he]
          clear HST HLEN HE husz hu hl
          go_wp2_with (at_builtin; refine wpList_append_own _ rfl _ _ 22 rfl w.heap.size 25 i0 (.agg #[.int .i64 0, .string ⟨#[]⟩, .int .i64 0, .int .i64 0]) 4 40 Tryd.underlying22 hi9 hz0 hz1 hz2 rfl (by decide) _ _ _ rfl (HO.out _ ?bl) ⟨w2.heap.size + 1, 0, none⟩ 1 1 [.int .i64 x.k, .string u, .int .i64 x.n, .int .i64 (k : Int)] rfl rfl ?c1 ?c2 ?c3 ?c4 ?c5 ?_)
          case bl => repeat' first | assumption | exact Below.refl _ _ | refine Below.setCell ?_ (by simp only; omega) _ | refine Below.alloc ?_ (by (try simp); (try omega)) _
          case c1 =>
            intro t u ht
            match t, ht with
            | 0, ht => simp at ht; subst ht; simp [Addr.add]
            | 1, ht => simp at ht; subst ht; simp [Addr.add]
            | 2, ht => simp at ht; subst ht; simp [Addr.add]
            | 3, ht => simp at ht; subst ht; simp [Addr.add]
          case c2 => intro u hu; simp only [List.mem_cons, List.not_mem_nil, or_false] at hu; rcases hu with rfl | rfl | rfl | rfl <;> rfl
          case c3 => unfold maxLen; omega
          case c4 => omega
          case c5 => simp; omega
          intro v' w4 hown' hgr _
          have HX : Hid (LW v' (L ++ [x.tk k]) w w4) := Lib.hid ⟨by rw [tkcells_append, List.length_append]; show w4.ownsRow _ _ _ _ _ (tkcells L ++ [.int .i64 x.k, .string ⟨x.t.toArray⟩, .int .i64 x.n, .int .i64 (k : Int)]); rw [HU.out]; exact hown',
            Below.grown (by
              have := HK2.out.bel
              repeat' first | assumption | refine Below.setCell ?_ (by simp only; omega) _ | refine Below.alloc ?_ (by (try simp); (try omega)) _) hgr (by simp; omega) (fun k hk => (HK2.out.own.lt k hk).1)⟩
          have hc1 : w4.cell? ⟨w2.heap.size, 1, none⟩ = some (.string u) := by
            rw [World.cell?_of_block (hgr.block w2.heap.size (by simp; omega) (fun e => by have := (HK2.out.own.lt _ e.symm).2; omega))]
            simp
          have hq3 := HQ3.out
          have hk3' : (k3 : Int) = (k : Int) + (u.size : Int) := by omega
          have hb4 : w2.heap.size < w4.heap.size := World.block_lt_of_cell? _ _ hc1
          clear hown' hgr HO HK2
          go_wp2_with fail
          go_roundw
          case rel => exact ⟨k3, _, _, hq3.1, hq3.2.1, by rw [hk3'], rfl, HX, HE3⟩
          case measure => simp [intOf]; omega
        · have HFIN : Hid (lexG 0 s.data.toList = ⟨x.e, k, []⟩) := Lib.hid (by
            rw [HE.out, HST.out, if_neg he, pre_no he])
          have hne : (x.e == 0) = false := by rw [beq_eq_false_iff_ne]; exact he
          have HBL := Lib.hid HK2.out.bel
          have hws := HK2.out.bel.size
          rw [if_neg he]
          clear HST HLEN HE HK2
          go_wp2_with fail
          go_ret3
          rw [HFIN.out]
          refine ⟨_, rfl, World.ownsRow_nil _ _ _ _, ?_⟩
          have := HBL.out
          repeat' first | assumption | refine Below.setCell ?_ (by simp only; omega) _ | refine Below.alloc ?_ (by (try simp); (try omega)) _
    · obtain rfl : k = s.size := by omega
      have HFIN : Hid (lexG 0 s.data.toList = ⟨0, 0, L ++ [endT s.size]⟩) := Lib.hid (by
        rw [HE.out, List.drop_eq_nil_of_le (by rw [HS.out]; omega), lexG_nil]; rfl)
      have HO : Hid (∀ w', Below wr.heap.size wr w' → w'.ownsRow w.heap.size 25 4 v L.length (tkcells L)) := Lib.hid (fun w' hb => own_go HK.out.own hb)
      have hws := HK.out.bel.size
      clear HE
      go_wp2_with (at_builtin; refine wpList_append_own _ rfl _ _ 22 rfl w.heap.size 25 i0 (.agg #[.int .i64 0, .string ⟨#[]⟩, .int .i64 0, .int .i64 0]) 4 40 Tryd.underlying22 hi9 hz0 hz1 hz2 rfl (by decide) _ _ _ rfl (HO.out _ ?bl) ⟨wr.heap.size, 0, none⟩ 1 1 [.int .i64 3, .string ⟨#[]⟩, .int .i64 0, .int .i64 s.size] rfl rfl ?c1 ?c2 ?c3 ?c4 ?c5 ?_)
      case bl => repeat' first | assumption | exact Below.refl _ _ | refine Below.setCell ?_ (by simp only; omega) _ | refine Below.alloc ?_ (by (try simp); (try omega)) _
      case c1 =>
        intro t u ht
        match t, ht with
        | 0, ht => simp at ht; subst ht; simp [Addr.add]
        | 1, ht => simp at ht; subst ht; simp [Addr.add]
        | 2, ht => simp at ht; subst ht; simp [Addr.add]
        | 3, ht => simp at ht; subst ht; simp [Addr.add]
      case c2 => intro u hu; simp only [List.mem_cons, List.not_mem_nil, or_false] at hu; rcases hu with rfl | rfl | rfl | rfl <;> rfl
      case c3 => unfold maxLen; omega
      case c4 => omega
      case c5 => simp; omega
      intro v' w4 hown' hgr _
      have HX : Hid (LW v' (L ++ [endT s.size]) w w4) := Lib.hid ⟨by rw [tkcells_append, List.length_append]; exact hown', Below.grown (HK.out.bel.alloc hws _) hgr (by simp; omega) (fun k hk => (HK.out.own.lt k hk).1)⟩
      clear hown' hgr HO HK
      go_wp2_with fail
      go_ret3
      rw [HFIN.out]
      exact ⟨v', rfl, HX.out⟩
end Go.Proofs.YtfmocnbhahcgoaaDoor
