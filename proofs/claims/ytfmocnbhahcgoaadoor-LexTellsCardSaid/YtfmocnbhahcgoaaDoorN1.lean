/-
  Layer 14: the law LexBack: the text of tokens has these tokens.
-/
import Derived.Test.YtfmocnbhahcgoaaDoorN0
set_option linter.unusedVariables false
set_option maxRecDepth 100000
namespace Go.Proofs.YtfmocnbhahcgoaaDoor
open Go.RowKit

theorem txs_one (x : Tk) (h : x.k ≠ 3) : txs [x] = [x.t] := by
  have h0 : (x.k != 3) = true := by simp [h]
  simp [txs, List.filter, h0]
theorem txs_end (a : Nat) : txs [endT a] = [] := rfl
theorem lens_app (l m : List (List UInt8)) : Lib.lens (l ++ m) = Lib.lens l + Lib.lens m := by simp [Lib.lens]
theorem lex_lens : ∀ (l : List UInt8) (a : Nat), (lexG a l).e = 0 → Lib.lens (txs (lexG a l).l) ≤ l.length := by
  refine lex_ind ?_ ?_ ?_ ?_
  · intro a _
    rw [lexG_nil]
    simp [txs_end, Lib.lens]
  · intro b l hb ih a h
    rw [lexG_blk hb] at h ⊢
    have := ih _ h
    simp only [List.length_cons]; omega
  · intro b l hb he a h
    rw [lexG_tok hb, if_neg he] at h
    exact absurd h he
  · intro b l hb he ih a h
    rw [lexG_tok hb, if_pos he] at h ⊢
    rw [pre_ok] at h
    have h1 := ih _ h
    have ok := first_ok he
    obtain ⟨q, hq⟩ := ok.pre
    have hlen := congrArg List.length hq
    rw [pre_yes h]
    show Lib.lens (txs ([_] ++ _)) ≤ _
    rw [txs_app, lens_app, txs_one _ ok.k]
    rw [List.length_drop] at h1
    simp only [List.length_append] at hlen
    have e : Lib.lens [((firstT (b :: l)).tk a).t] = (firstT (b :: l)).t.length := by simp [Lib.lens, T1.tk]
    rw [e]; omega
/-- a token that stands alone. -/
def OkT (x : Tk) : Prop := firstT x.t = ⟨0, x.k, x.t, x.n⟩ ∧ hdB blk x.t = false
theorem OkT.ok {x : Tk} (h : OkT x) : x.t ≠ [] ∧ x.k ≠ 3 := by
  have e : (firstT x.t).e = 0 := by rw [h.1]
  have ok := first_ok e
  refine ⟨?_, ?_⟩
  · intro h0
    have := ok.pos
    rw [h.1] at this
    simp only at this
    rw [h0] at this
    exact absurd this (by simp)
  · have := ok.k
    rw [h.1] at this
    exact this
theorem lex_alone {x : Tk} (h : OkT x) (a : Nat) : lexG a x.t = ⟨0, 0, [⟨x.k, x.t, x.n, a⟩, endT (a + x.t.length)]⟩ := by
  obtain ⟨h1, h2⟩ := h.ok
  obtain ⟨h3, h4⟩ := h
  cases ht : x.t with
  | nil => exact absurd ht h1
  | cons b r =>
    rw [ht] at h3 h4
    rw [lexG_tok h4, h3, if_pos rfl]
    show pre [⟨x.k, b :: r, x.n, a⟩] (lexG (a + (b :: r).length) ((b :: r).drop (b :: r).length)) = _
    rw [List.drop_length, lexG_nil]
    rfl
theorem lex_join : ∀ (L : List Tk), (∀ x ∈ L, OkT x) → ∀ a : Nat, ∃ M, lexG a (Lib.join (L.map (·.t)) [32]) = ⟨0, 0, M ++ [endT (a + (Lib.join (L.map (·.t)) [32]).length)]⟩ ∧ M.map core = L.map core
  | [], _, a => ⟨[], by rw [List.map_nil, Lib.join_nil, lexG_nil]; rfl, rfl⟩
  | [x], h, a => by
    refine ⟨[⟨x.k, x.t, x.n, a⟩], ?_, rfl⟩
    rw [List.map_cons, List.map_nil, Lib.join_one, lex_alone (h x (by simp)) a]; rfl
  | x :: y :: r, h, a => by
    obtain ⟨M, hM, hc⟩ := lex_join (y :: r) (fun z hz => h z (by simp [List.mem_cons.1 hz])) (a + x.t.length + 1)
    have hj : Lib.join ((x :: y :: r).map (·.t)) [32] = x.t ++ 32 :: Lib.join ((y :: r).map (·.t)) [32] := by
      simp only [List.map_cons, Lib.join_cons]
      simp [Lib.joinTail]
    refine ⟨⟨x.k, x.t, x.n, a⟩ :: M, ?_, by rw [List.map_cons, List.map_cons, hc]; rfl⟩
    rw [hj, lex_app (c := 32) rfl, lex_alone (h x (by simp)) a, if_pos rfl, hM]
    show pre [_] _ = _
    rw [pre_yes rfl]
    rw [List.length_append, List.length_cons, show a + x.t.length + 1 + (Lib.join ((y :: r).map (·.t)) [32]).length = a + (x.t.length + ((Lib.join ((y :: r).map (·.t)) [32]).length + 1)) by omega]
    rfl
theorem txs_ok (L : List Tk) (h : ∀ x ∈ L, OkT x) (a : Nat) : txs (L ++ [endT a]) = L.map (·.t) := by
  rw [txs_app, txs_end, List.append_nil]
  unfold txs
  rw [List.filter_eq_self.2 (fun x hx => by simp [(h x hx).ok.2])]
theorem txs_core {L M : List Tk} (h : L.map core = M.map core) : txs L = txs M := by
  have key : ∀ N : List Tk, txs N = ((N.map core).filter fun c => c.1 != 3).map (·.2.1) := by
    intro N
    unfold txs
    rw [List.filter_map, List.map_map]; rfl
  rw [key, key, h]
/-- what the law says. -/
theorem back_all (t : List UInt8) (ht : t.length ≤ 3000) (h : (lexG 0 t).e = 0) : (textM (lexG 0 t).l).length ≤ 6000 ∧ ∃ M, lexP (textM (lexG 0 t).l) = ⟨0, 0, M⟩ ∧ likeB (lexG 0 t).l M = true ∧ textM M = textM (lexG 0 t).l ∧ M.length ≤ 8000 := by
  obtain ⟨_, L, hL, hn, hx⟩ := (lex_ok t 0).1 h
  have hl := lex_lens t 0 h
  have e1 := txs_ok L hx (0 + t.length)
  rw [← hL] at e1
  have hlen : (textM (lexG 0 t).l).length ≤ 6000 := by
    unfold textM
    have := join_le (txs (lexG 0 t).l)
    have h3 : (txs (lexG 0 t).l).length ≤ 3000 := by rw [e1, List.length_map]; omega
    omega
  refine ⟨hlen, ?_⟩
  obtain ⟨M, hM, hc⟩ := lex_join L hx 0
  have e2 : textM (lexG 0 t).l = Lib.join (L.map (·.t)) [32] := by unfold textM; rw [e1]
  have hcore : (M ++ [endT (0 + (Lib.join (L.map (·.t)) [32]).length)]).map core = (lexG 0 t).l.map core := by
    rw [hL, List.map_append, List.map_append, hc]; rfl
  refine ⟨M ++ [endT (0 + (Lib.join (L.map (·.t)) [32]).length)], ?_, ?_, ?_, ?_⟩
  · unfold lexP
    rw [if_neg (by omega), e2, hM]
  · unfold likeB
    exact decide_eq_true hcore.symm
  · unfold textM; rw [txs_core hcore]
  · have := congrArg List.length hc
    simp only [List.length_map] at this
    rw [List.length_append, this]
    simp only [List.length_cons, List.length_nil]; omega
theorem cut_len (s : List UInt8) : (s.take 3000).length ≤ 3000 := by rw [List.length_take]; omega
theorem lexP_small {t : List UInt8} (h : t.length ≤ 8000) : lexP t = lexG 0 t := by unfold lexP; rw [if_neg (by omega)]
set_option maxHeartbeats 16000000 in
theorem lback_any (s : ByteArray) (w : World) (hs : s.size ≤ 9223372036854775807) (hg : Glb w) : Calls Tryd.prog 4 #[.string s] w (BlIs true w) := by
  have H1 := Lib.hid small_any
  have H2 := Lib.hid (fun w' => cut_any s w' hs); clear hs
  have H3 := Lib.hid lex_any
  have H4 := Lib.hid text_any
  have H5 := Lib.hid like_any
  have HG := Lib.hid hg; clear hg
  go_enter Tryd.func4, Tryd.ntmps4
  go_wp2_with fail
  refine (H1.out w HG.out).mono ?_
  rintro e w1 ⟨rfl, hb1⟩
  have HB1 := Lib.hid hb1; clear hb1
  go_wp2_with fail
  refine (H2.out w1).mono ?_
  rintro e w2 ⟨⟨t, rfl, ht, _⟩, rfl⟩
  have htl : t.data.toList.length ≤ 3000 := by rw [ht]; exact cut_len _
  have hts := size_list t
  have HP := Lib.hid (lexP_small (t := t.data.toList) (by omega))
  have HBK := Lib.hid (back_all t.data.toList htl)
  have HOK := Lib.hid (lex_ok t.data.toList 0)
  clear ht
  go_wp2_with fail
  refine (H3.out t w2 (by omega) (HG.out.below HB1.out)).mono ?_
  rintro e w3 ⟨v, rfl, ho⟩
  rw [HP.out] at ho ⊢
  have HB3 := Lib.hid (HB1.out.trans (ho.bel.mono HB1.out.size))
  generalize lexG 0 t.data.toList = y at *
  by_cases he : y.e = 0
  · have hee : (y.e == 0) = true := by rw [beq_iff_eq]; exact he
    have hek : (y.e != 0) = false := by rw [bne_eq_false_iff_eq]; exact he
    obtain ⟨h6, M, hM, hlk, htx, hMl⟩ := HBK.out he
    obtain ⟨A1, c1, rfl, hr1⟩ := own_tk ho.own
    have hyl : y.l.length ≤ 3001 := by
      obtain ⟨_, L, hL, hn, _⟩ := HOK.out.1 he
      rw [hL, List.length_append]; simp only [List.length_cons, List.length_nil]; omega
    have HR1 := Lib.hid hr1
    have HM := Lib.hid hM; have HLK := Lib.hid hlk; have HTX := Lib.hid htx
    have HA := Lib.hid (H4.out A1 c1 y.l w3 hr1 (by omega) (by omega))
    have H6 := Lib.hid h6
    clear HBK HOK ho hr1 hM hlk htx h6 HP
    generalize hn : y.l.length = n at *
    go_wp2_with fail
    refine HA.out.mono ?_
    rintro e w4 ⟨u, rfl, hu, hb4⟩
    have hul := size_of hu
    have hus : u.size ≤ 6000 := by rw [hul]; exact H6.out
    have HU := Lib.hid hu
    have hu' := tl hu
    have HB4 := Lib.hid (HB3.out.trans (hb4.mono HB3.out.size))
    have HR4 := Lib.hid (HR1.out.below hb4)
    clear hul hb4 HR1 HA
    have HLL := Lib.hid (H3.out u w4 (by omega) (HG.out.below HB4.out))
    rw [hu, HM.out] at HLL
    clear hu
    go_wp2_with fail
    refine HLL.out.mono ?_
    rintro e w5 ⟨v5, rfl, ho5⟩
    obtain ⟨A5, c5, rfl, hr5⟩ := own_tk ho5.own
    have HB5 := Lib.hid (HB4.out.trans (ho5.bel.mono HB4.out.size))
    have HR5 := Lib.hid (HR4.out.below ho5.bel)
    have HR6 := Lib.hid hr5
    have HC := Lib.hid (H5.out A1 c1 A5 c5 y.l M w5 HR5.out hr5 (by omega) (by omega))
    rw [HLK.out, hn] at HC
    clear ho5 hr5 HLL HR4
    simp only
    generalize hm : M.length = m at *
    go_wp2_with fail
    refine HC.out.mono ?_
    rintro e w6 ⟨rfl, hb6⟩
    have HB6 := Lib.hid (HB5.out.trans (hb6.mono HB5.out.size))
    have HD := Lib.hid (H4.out A5 c5 M w6 (HR6.out.below hb6) (by omega) (by rw [HTX.out]; have := H6.out; omega))
    rw [HTX.out, hm] at HD
    clear hb6 HC HR6 HR5
    go_wp2_with fail
    refine HD.out.mono ?_
    rintro e w7 ⟨u2, rfl, hu2, hb7⟩
    have HB7 := Lib.hid (HB6.out.trans (hb7.mono HB6.out.size))
    have heq : (u2.toList == u.toList) = true := by rw [str_eq, hu2, HU.out]; exact decide_eq_true rfl
    clear hu2 hb7 HD hu'
    go_wp2_with fail
    go_ret
    exact ⟨rfl, HB7.out⟩
  · have hee : (y.e == 0) = false := by rw [beq_eq_false_iff_ne]; exact he
    have hek : (y.e != 0) = true := by rw [bne_iff_ne]; exact he
    have hl0 := (HOK.out.2 he).1
    obtain ⟨A1, c1, rfl, _⟩ := own_tk ho.own
    rw [hl0]
    clear HBK HOK ho
    go_wp2_with fail
    go_ret
    exact ⟨rfl, HB3.out⟩
end Go.Proofs.YtfmocnbhahcgoaaDoor
