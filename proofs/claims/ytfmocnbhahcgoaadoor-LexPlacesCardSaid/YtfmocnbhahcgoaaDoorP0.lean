/-
  Layer 14: the law LexPlaces: where the tokens stand.
-/
import Derived.Test.YtfmocnbhahcgoaaDoorN6
set_option linter.unusedVariables false
set_option maxRecDepth 100000
namespace Go.Proofs.YtfmocnbhahcgoaaDoor
open Go.RowKit

def Blks (t : List UInt8) (e p : Nat) : Prop := ∀ k, e ≤ k → k < p → ∃ b, t[k]? = some b ∧ blk b = true
/-- tokens behind the place e, up to the end. -/
def Pl (t : List UInt8) : Nat → List Tk → Prop
  | _, [] => False
  | e, [x] => ∃ p : Nat, x = endT p ∧ e ≤ p ∧ p = t.length ∧ Blks t e p
  | e, x :: y :: r => ∃ p : Nat, x.p = p ∧ e ≤ p ∧ p + x.t.length ≤ t.length ∧ x.t ≠ [] ∧ x.k ≠ 3 ∧ (x.k ≠ 1 → x.n = 0) ∧ (t.drop p).take x.t.length = x.t ∧ Blks t e p ∧ Pl t (p + x.t.length) (y :: r)
theorem Pl.cons {t : List UInt8} {e : Nat} {x : Tk} {r : List Tk} (hr : r ≠ []) {p : Nat} (h : x.p = p ∧ e ≤ p ∧ p + x.t.length ≤ t.length ∧ x.t ≠ [] ∧ x.k ≠ 3 ∧ (x.k ≠ 1 → x.n = 0) ∧ (t.drop p).take x.t.length = x.t ∧ Blks t e p ∧ Pl t (p + x.t.length) r) : Pl t e (x :: r) := by
  cases r with
  | nil => exact absurd rfl hr
  | cons y r => exact ⟨p, h⟩
theorem drop_next {t : List UInt8} {a : Nat} {b : UInt8} {r : List UInt8} (h : t.drop a = b :: r) : a < t.length ∧ t[a]? = some b ∧ t.drop (a + 1) = r := by
  have hl := congrArg List.length h
  simp only [List.length_drop, List.length_cons] at hl
  refine ⟨by omega, ?_, ?_⟩
  · have := congrArg (·[0]?) h
    simpa using this
  · rw [← List.drop_drop, h]; rfl
theorem lex_places (t : List UInt8) : ∀ (l : List UInt8) (a e : Nat), t.drop a = l → e ≤ a → a ≤ t.length → Blks t e a → (lexG a l).e = 0 → Pl t e (lexG a l).l := by
  intro l
  revert l
  refine lex_ind ?_ ?_ ?_ ?_
  · intro a e hd he ha hb _
    rw [lexG_nil]
    have hl := congrArg List.length hd
    simp only [List.length_drop, List.length_nil] at hl
    exact ⟨a, rfl, he, by omega, hb⟩
  · intro b l hbk ih a e hd he ha hb h
    rw [lexG_blk hbk] at h ⊢
    obtain ⟨h1, h2, h3⟩ := drop_next hd
    refine ih (a + 1) e h3 (by omega) (by omega) (fun k k1 k2 => ?_) h
    by_cases hk : k = a
    · subst hk; exact ⟨b, h2, hbk⟩
    · exact hb k k1 (by omega)
  · intro b l hbk hE a e hd he ha hb h
    rw [lexG_tok hbk, if_neg hE] at h
    exact absurd h hE
  · intro b l hbk hE ih a e hd he ha hb h
    rw [lexG_tok hbk, if_pos hE] at h ⊢
    rw [pre_ok] at h
    rw [pre_yes h]
    have ok := first_ok hE
    obtain ⟨q, hq⟩ := ok.pre
    have hl := congrArg List.length hq
    have hl2 := congrArg List.length hd
    simp only [List.length_append] at hl
    simp only [List.length_drop] at hl2
    have hne : (lexG (a + (firstT (b :: l)).t.length) ((b :: l).drop (firstT (b :: l)).t.length)).l ≠ [] := by
      obtain ⟨_, L, hL, _⟩ := (lex_ok _ _).1 h
      rw [hL]; simp
    refine Pl.cons (x := (firstT (b :: l)).tk a) hne (p := a) ⟨rfl, he, by show a + (firstT (b :: l)).t.length ≤ _; omega, ?_, ok.k, ok.n, ?_, hb, ?_⟩
    · intro h0; have := ok.pos; rw [show (firstT (b :: l)).t = [] from h0] at this; exact absurd this (by simp)
    · show (t.drop a).take (firstT (b :: l)).t.length = (firstT (b :: l)).t
      rw [hd]
      generalize (firstT (b :: l)).t = z at hq ⊢
      rw [← hq]
      exact List.take_left' rfl
    · exact ih (a + (firstT (b :: l)).t.length) (a + (firstT (b :: l)).t.length) (by rw [← List.drop_drop, hd]) (Nat.le_refl _) (by omega) (fun k k1 k2 => by omega) h
theorem places_all {t : List UInt8} (h : (lexG 0 t).e = 0) : Pl t 0 (lexG 0 t).l := lex_places t t 0 0 rfl (Nat.le_refl _) (Nat.zero_le _) (fun k k1 k2 => by omega) h
/-- at token k. -/
theorem Pl.at_ {t : List UInt8} {e k : Nat} {l : List Tk} (hk : k < l.length) (h : Pl t e (l.drop k)) : ∃ (x : Tk) (p : Nat), l[k]? = some x ∧ x.p = p ∧ e ≤ p ∧ p + x.t.length ≤ t.length ∧ (t.drop p).take x.t.length = x.t ∧ Blks t e p ∧ (x.k ≠ 1 → x.n = 0) ∧
    ((k + 1 = l.length ∧ x.t = [] ∧ x.k = 3 ∧ p = t.length) ∨ (k + 1 < l.length ∧ x.t ≠ [] ∧ x.k ≠ 3 ∧ Pl t (p + x.t.length) (l.drop (k + 1)))) := by
  have hd : l.drop k = l[k] :: l.drop (k + 1) := List.drop_eq_getElem_cons hk
  rw [hd] at h
  refine ⟨l[k], ?_⟩
  cases hr : l.drop (k + 1) with
  | nil =>
    rw [hr] at h
    obtain ⟨p, h1, h2, h3, h4⟩ := h
    have hl := congrArg List.length hr
    simp only [List.length_drop, List.length_nil] at hl
    refine ⟨p, List.getElem?_eq_getElem hk, by rw [h1]; rfl, h2, by rw [h1]; show p + 0 ≤ _; omega, by rw [h1]; rfl, h4, fun _ => by rw [h1]; rfl, .inl ⟨by omega, by rw [h1]; rfl, by rw [h1]; rfl, h3⟩⟩
  | cons y r =>
    rw [hr] at h
    obtain ⟨p, h1, h2, h3, h4, h5, h6, h7, h8, h9⟩ := h
    have hl := congrArg List.length hr
    simp only [List.length_drop, List.length_cons] at hl
    exact ⟨p, List.getElem?_eq_getElem hk, h1, h2, h3, h7, h8, h6, .inr ⟨by omega, h4, h5, h9⟩⟩
theorem TkRow.at_ {w : World} {A : Option Addr} {L : List Tk} (h : TkRow w A L) {k : Nat} {u : Tk} (hu : L[k]? = some u) : ∃ b off, A = some ⟨b, off, none⟩ ∧ b < w.heap.size ∧ TkC w b (off + k * 4) u := by
  obtain ⟨hk, e⟩ := List.getElem?_eq_some_iff.1 hu
  obtain ⟨b, off, hA, hb, hc⟩ := h (by omega)
  exact ⟨b, off, hA, hb, e ▸ hc k hk⟩
/-- the copy of a token. -/
def CpAt (w : World) (g : Nat) (k n : Int) (u : ByteArray) (p : Nat) : Prop := w.heap[g]? = some (.cells #[.int .i64 k, .string u, .int .i64 n, .int .i64 p] 25 (0, 0))
set_option maxHeartbeats 40000000 in
theorem lplaces_any (s : ByteArray) (w : World) (hs : s.size ≤ 9223372036854775807) (hg : Glb w) : Calls Tryd.prog 5 #[.string s] w (BlIs true w) := by
  have H1 := Lib.hid small_any
  have H2 := Lib.hid (fun w' => cut_any s w' hs); clear hs
  have H3 := Lib.hid lex_any
  have H4 := Lib.hid blank_any
  have HG := Lib.hid hg; clear hg
  go_enter Tryd.func5, Tryd.ntmps5
  go_wp2_with fail
  refine (H1.out w HG.out).mono ?_
  rintro e w1 ⟨rfl, hb1⟩
  have HB1 := Lib.hid hb1; clear hb1
  go_wp2_with fail
  refine (H2.out w1).mono ?_
  rintro e w2 ⟨⟨t, rfl, ht, _⟩, rfl⟩
  have htl : t.data.toList.length ≤ 3000 := by rw [ht]; exact cut_len _
  have hts : t.size ≤ 3000 := by rw [← size_list t]; exact htl
  have HTL := Lib.hid (size_list t)
  have HP := Lib.hid (lexP_small (t := t.data.toList) (by omega))
  clear ht htl
  go_wp2_with fail
  refine (H3.out t w2 (by omega) (HG.out.below HB1.out)).mono ?_
  rintro e w3 ⟨v, rfl, ho⟩
  rw [HP.out] at ho ⊢
  have HB3 := Lib.hid (HB1.out.trans (ho.bel.mono HB1.out.size))
  obtain ⟨A1, c1, rfl, hr1⟩ := own_tk ho.own
  have HR1 := Lib.hid hr1
  clear ho HP hr1
  have HOK := Lib.hid (lex_ok t.data.toList 0)
  have HER := Lib.hid (lex_err t.data.toList 0)
  have HPL := Lib.hid (places_all (t := t.data.toList))
  generalize lexG 0 t.data.toList = y at *
  by_cases he : y.e = 0
  case neg =>
    have hee : (y.e == 0) = false := by rw [beq_eq_false_iff_ne]; exact he
    have hek : (y.e != 0) = true := by rw [bne_iff_ne]; exact he
    obtain ⟨p, q, hpq, hya, hq, _⟩ := HER.out he
    have hlen := congrArg List.length hpq
    rw [List.length_append, HTL.out] at hlen
    have hql : 0 < q.length := List.length_pos_iff.2 hq
    have m0 : (0 : Int) ≤ y.a := by rw [hya]; omega
    have m1 : y.a < (t.size : Int) := by rw [hya]; omega
    clear hpq hya hq hlen hql HOK HER HPL
    go_wp2_with fail
    go_ret
    exact ⟨rfl, HB3.out⟩
  case pos =>
  have hee : (y.e == 0) = true := by rw [beq_iff_eq]; exact he
  have hek : (y.e != 0) = false := by rw [bne_eq_false_iff_eq]; exact he
  have HPL := Lib.hid (HPL.out he)
  have hya := (HOK.out.1 he).1
  obtain ⟨n, hn⟩ : ∃ n, n = y.l.length := ⟨_, rfl⟩
  have hn1 : 1 ≤ n ∧ n ≤ 3001 := by
    obtain ⟨_, L, hL, hLl, _⟩ := HOK.out.1 he
    rw [HTL.out] at hLl
    rw [hn, hL, List.length_append]; simp only [List.length_cons, List.length_nil]; omega
  obtain ⟨hn1, hn2⟩ := hn1
  have HN := Lib.hid hn
  rw [← hn, hya]
  clear HOK HER hn hya
  go_wp2_with fail
  go_loopw [8, 9] (fun v i wr => ∃ (k e : Nat), k ≤ n ∧ e ≤ t.size ∧ i = .int .i64 k ∧ v = .int .i64 e ∧ Hid (Below w3.heap.size w3 wr) ∧ Hid (k < n → Pl t.data.toList e (y.l.drop k)) ∧ Hid (k = n → e = t.size)) (fun _ i _ => n - (intOf i).toNat)
  case atStart => exact ⟨0, 0, Nat.zero_le _, Nat.zero_le _, rfl, rfl, Lib.hid (Below.refl _ _), Lib.hid (fun _ => HPL.out), Lib.hid (fun h => by omega)⟩
  case round =>
    obtain ⟨k, e, hk, het, rfl, rfl, HK, HQ, HE⟩ := hrel
    by_cases hlt : k < n
    · obtain ⟨x, p, hx, hxp, hep, hpl, htx, hbk, hxn, hcase⟩ := (HQ.out hlt).at_ (by rw [← HN.out]; exact hlt)
      rw [HTL.out] at hpl
      rw [← HN.out] at hcase
      obtain ⟨b, o, rfl, hb, hc⟩ := HR1.out.at_ hx
      obtain ⟨x0, x1, x2, x3⟩ := hc.below hb HK.out
      rw [hxp] at x3
      have hws := HK.out.size
      have hbw : b < wr.heap.size := by omega
      have n0 : (0 : Int) ≤ (k : Int) := by omega
      have n1 : (k : Int) < (n : Int) := by omega
      have HX : Hid (((⟨x.t.toArray⟩ : ByteArray)).size = x.t.length) := Lib.hid (size_of rfl)
      have HSL : Hid ((t.extract p (p + x.t.length)).toList = (⟨x.t.toArray⟩ : ByteArray).toList) := Lib.hid (by
        rw [Lib.toList_data, Lib.toList_data, Lib.extract_data, Nat.add_sub_cancel_left, htx])
      have HBK := Lib.hid hbk
      have hxs := HX.out
      have HUE : Hid (((⟨x.t.toArray⟩ : ByteArray).toList == (⟨#[]⟩ : ByteArray).toList) = decide (x.t = [])) := Lib.hid (str_eq _ _)
      have HXN : Hid (x.k ≠ 1 → x.n = 0) := Lib.hid hxn
      clear hx hxp htx hbk hc hb HQ HE hxn
      rw [← hxs] at hpl hcase
      obtain ⟨xk, xt, xn, xp⟩ := x
      simp only at *
      have hsl2 := HSL.out
      rw [← hxs] at hsl2
      have hul := HUE.out
      generalize (⟨xt.toArray⟩ : ByteArray) = u at *
      have q1 : (e : Int) ≤ (p : Int) := by omega
      have q2 : (p : Int) ≤ (t.size : Int) - (u.size : Int) := by omega
      have q3 : (p : Int) + (u.size : Int) ≤ (t.size : Int) := by omega
      obtain ⟨G, hG⟩ : ∃ G, G = wr.heap.size := ⟨_, rfl⟩
      obtain ⟨PB, hPB⟩ : ∃ PB : World → Prop, PB = fun w' => Below wr.heap.size wr w' := ⟨_, rfl⟩
      have HWF : Hid (∀ w', PB w' → Below w3.heap.size w3 w') := Lib.hid (fun w' hb => by rw [hPB] at hb; exact HK.out.trans (hb.mono hws))
      have HPG : Hid (∀ a b, PB a → Below a.heap.size a b → PB b) := Lib.hid (fun a b ha hb => by rw [hPB] at ha ⊢; exact ha.trans (hb.mono ha.size))
      have HP0 : Hid (∀ w', Below wr.heap.size wr w' → PB w') := Lib.hid (fun w' hb => by rw [hPB]; exact hb)
      have HG0 : Hid (∀ (o : Obj), (wr.alloc o).heap[G]? = some o) := Lib.hid (fun o => by rw [hG]; exact heap_alloc_new wr o)
      clear hPB
      clear HK HSL HX HUE hxs
      rcases hcase with ⟨g1, g2, g3, g4⟩ | ⟨g1, g2, g3, g4⟩
      · have hki : ((k : Int) == (n : Int) - 1) = true := by rw [beq_iff_eq]; omega
        have hk3 : (xk == 3) = true := by rw [beq_iff_eq]; exact g3
        have hk1 : (xk == 1) = false := by rw [beq_eq_false_iff_ne]; omega
        have hxn := HXN.out (by omega)
        have hn0 : (xn == 0) = true := by rw [beq_iff_eq]; exact hxn
        rw [decide_eq_true g2] at hul
        have hue : u.toList = [] := by simpa using hul
        have hus : u.size = 0 := by have := congrArg List.length hue; rw [Lib.toList_data, size_list] at this; exact this
        have HNEXT : Hid (p + u.size ≤ t.size ∧ (k + 1 < n → Pl t.data.toList (p + u.size) (y.l.drop (k + 1))) ∧ (k + 1 = n → p + u.size = t.size)) := Lib.hid ⟨by omega, (fun h => by omega), (fun _ => by rw [HTL.out] at g4; omega)⟩
        subst g3; subst hxn
        clear g1 g2 g4 HXN
        have D1 : Hid (decide (p < e) = false) := Lib.hid (decide_eq_false (by omega))
        have D2 : Hid (decide (t.size < p) = false) := Lib.hid (decide_eq_false (by omega))
        go_wp2_with fail
        go_quiet (fail)
        go_wp2_with fail
        rw [← hG]
        clear hG x0 x1 x2 x3
        simp only [D1.out, D2.out, Bool.or_self]
        go_loopw [11] (fun v wr2 => ∃ (m : Nat), e ≤ m ∧ m ≤ p ∧ v = .int .i64 m ∧ Hid (PB wr2 ∧ CpAt wr2 G 3 0 u p)) (fun v _ => p - (intOf v).toNat)
        case atStart =>
          refine ⟨e, Nat.le_refl _, hep, rfl, Lib.hid ⟨HP0.out _ ?_, ?_⟩⟩
          · repeat' first | assumption | exact Below.refl _ _ | (apply below_drewN) | refine Below.setCell ?_ (by simp only; omega) _ | refine Below.alloc ?_ (by (try simp); (try omega)) _
          · unfold CpAt
            exact HG0.out _
        case round =>
          obtain ⟨m, hm1, hm2, rfl, HC⟩ := hrel
          have hcp := HC.out.2
          have gl : G < wr.heap.size := (Array.getElem?_eq_some_iff.1 hcp).1
          have y0 : wr.cell? ⟨G, 0, none⟩ = some (.int .i64 3) := by rw [Lib.cell_of_heap hcp]; rfl
          have y1 : wr.cell? ⟨G, 1, none⟩ = some (.string u) := by rw [Lib.cell_of_heap hcp]; rfl
          have y2 : wr.cell? ⟨G, 2, none⟩ = some (.int .i64 0) := by rw [Lib.cell_of_heap hcp]; rfl
          have y3 : wr.cell? ⟨G, 3, none⟩ = some (.int .i64 p) := by rw [Lib.cell_of_heap hcp]; rfl
          clear hcp
          by_cases hmp : m < p
          · have hmt : m < t.size := by omega
            have hbm : blk (t[m]'hmt) = true := by
              obtain ⟨b', hb1, hb2⟩ := HBK.out m hm1 hmp
              have e1 : t.data.toList[m]? = some (t[m]'hmt) := by
                rw [List.getElem?_eq_getElem (by rw [HTL.out]; exact hmt)]
                rfl
              rw [e1] at hb1
              injection hb1 with hb1
              rw [hb1]; exact hb2
            have HBM := Lib.hid (fun w' => H4.out (t[m]'hmt) w')
            rw [hbm] at HBM
            have j0 : (0 : Int) ≤ (m : Int) := by omega
            have j1 : (m : Int) < (t.size : Int) := by omega
            have j2 : (m : Int) < (p : Int) := by omega
            clear hbm
            go_wp2_with fail
            refine (HBM.out _).mono ?_
            rintro e9 w9 ⟨rfl, hb9⟩
            have HC9 : Hid (PB w9 ∧ CpAt w9 G 3 0 u p) := Lib.hid ⟨HPG.out _ _ HC.out.1 hb9, (hb9.block _ gl).trans HC.out.2⟩
            clear hb9 HC HBM
            go_wp2_with fail
            go_roundw
            case rel => exact ⟨m + 1, by omega, by omega, by go_num, HC9⟩
            case measure => simp [intOf]; omega
          · obtain rfl : m = p := by omega
            have HB7 := Lib.hid (HWF.out _ HC.out.1)
            clear HC HBK
            go_wp2_with fail
            go_roundw
            case rel => exact ⟨k + 1, m + u.size, by omega, HNEXT.out.1, by go_num, by go_num, HB7, Lib.hid HNEXT.out.2.1, Lib.hid HNEXT.out.2.2⟩
            case measure => simp [intOf]; omega
      · have hki : ((k : Int) == (n : Int) - 1) = false := by rw [beq_eq_false_iff_ne]; omega
        have hk3 : (xk == 3) = false := by rw [beq_eq_false_iff_ne]; exact g3
        rw [decide_eq_false g2] at hul
        have hue : u.toList.isEmpty = false := by
          rw [List.isEmpty_eq_false_iff]; intro h0
          rw [h0, Lib.toList_data] at hul; exact absurd hul (by decide)
        have hue2 : ¬ u.toList = [] := by
          rw [List.isEmpty_eq_false_iff] at hue; exact hue
        have HNEXT : Hid (p + u.size ≤ t.size ∧ (k + 1 < n → Pl t.data.toList (p + u.size) (y.l.drop (k + 1))) ∧ (k + 1 = n → p + u.size = t.size)) := Lib.hid ⟨by omega, (fun _ => g4), (fun h => by omega)⟩
        have hkx : (xk == 1) = true ∨ ((xk == 1) = false ∧ (xn == 0) = true) := by
          by_cases h1 : xk = 1
          · exact .inl (by rw [beq_iff_eq]; exact h1)
          · exact .inr ⟨by rw [beq_eq_false_iff_ne]; exact h1, by rw [beq_iff_eq]; exact HXN.out h1⟩
        clear g1 g2 g3 g4 HXN
        have D1 : Hid (decide (p < e) = false) := Lib.hid (decide_eq_false (by omega))
        have D2 : Hid (decide ((t.size : Int) - (u.size : Int) < (p : Int)) = false) := Lib.hid (decide_eq_false (by omega))
        have s0 : (0 : Int) ≤ (p : Int) := by omega
        have s1 : (p : Int) ≤ (p : Int) + (u.size : Int) := by omega
        have s3 : (0 : Int) ≤ (p : Int) + (u.size : Int) := by omega
        have s4 : ((p : Int) + (u.size : Int)).toNat = p + u.size := by omega
        have s5 : p ≤ t.size := by omega
        rcases hkx with hk1 | ⟨hk1, hn0⟩
        · have hx1 : xk = 1 := by simpa using hk1
          subst hx1
          go_wp2_with fail
          go_quiet (fail)
          go_wp2_with fail
          rw [← hG]
          clear hG x0 x1 x2 x3
          simp only [D1.out, D2.out, Bool.or_self]
          go_loopw [11] (fun v wr2 => ∃ (m : Nat), e ≤ m ∧ m ≤ p ∧ v = .int .i64 m ∧ Hid (PB wr2 ∧ CpAt wr2 G 1 xn u p)) (fun v _ => p - (intOf v).toNat)
          case atStart =>
            refine ⟨e, Nat.le_refl _, hep, rfl, Lib.hid ⟨HP0.out _ ?_, ?_⟩⟩
            · repeat' first | assumption | exact Below.refl _ _ | (apply below_drewN) | refine Below.setCell ?_ (by simp only; omega) _ | refine Below.alloc ?_ (by (try simp); (try omega)) _
            · unfold CpAt
              exact HG0.out _
          case round =>
            obtain ⟨m, hm1, hm2, rfl, HC⟩ := hrel
            have hcp := HC.out.2
            have gl : G < wr.heap.size := (Array.getElem?_eq_some_iff.1 hcp).1
            have y0 : wr.cell? ⟨G, 0, none⟩ = some (.int .i64 1) := by rw [Lib.cell_of_heap hcp]; rfl
            have y1 : wr.cell? ⟨G, 1, none⟩ = some (.string u) := by rw [Lib.cell_of_heap hcp]; rfl
            have y2 : wr.cell? ⟨G, 2, none⟩ = some (.int .i64 xn) := by rw [Lib.cell_of_heap hcp]; rfl
            have y3 : wr.cell? ⟨G, 3, none⟩ = some (.int .i64 p) := by rw [Lib.cell_of_heap hcp]; rfl
            clear hcp
            by_cases hmp : m < p
            · have hmt : m < t.size := by omega
              have hbm : blk (t[m]'hmt) = true := by
                obtain ⟨b', hb1, hb2⟩ := HBK.out m hm1 hmp
                have e1 : t.data.toList[m]? = some (t[m]'hmt) := by
                  rw [List.getElem?_eq_getElem (by rw [HTL.out]; exact hmt)]
                  rfl
                rw [e1] at hb1
                injection hb1 with hb1
                rw [hb1]; exact hb2
              have HBM := Lib.hid (fun w' => H4.out (t[m]'hmt) w')
              rw [hbm] at HBM
              have j0 : (0 : Int) ≤ (m : Int) := by omega
              have j1 : (m : Int) < (t.size : Int) := by omega
              have j2 : (m : Int) < (p : Int) := by omega
              clear hbm
              go_wp2_with fail
              refine (HBM.out _).mono ?_
              rintro e9 w9 ⟨rfl, hb9⟩
              have HC9 : Hid (PB w9 ∧ CpAt w9 G 1 xn u p) := Lib.hid ⟨HPG.out _ _ HC.out.1 hb9, (hb9.block _ gl).trans HC.out.2⟩
              clear hb9 HC HBM
              go_wp2_with fail
              go_roundw
              case rel => exact ⟨m + 1, by omega, by omega, by go_num, HC9⟩
              case measure => simp [intOf]; omega
            · obtain rfl : m = p := by omega
              have HB7 := Lib.hid (HWF.out _ HC.out.1)
              clear HC HBK
              go_wp2_with fail
              go_roundw
              case rel => exact ⟨k + 1, m + u.size, by omega, HNEXT.out.1, by go_num, by go_num, HB7, Lib.hid HNEXT.out.2.1, Lib.hid HNEXT.out.2.2⟩
              case measure => simp [intOf]; omega
        · have hx0 : xn = 0 := by simpa using hn0
          subst hx0
          have hk1b : (xk != 1) = true := by
            rw [bne_iff_ne]; intro h; rw [h] at hk1; exact absurd hk1 (by decide)
          go_wp2_with fail
          go_quiet (fail)
          go_wp2_with fail
          rw [← hG]
          clear hG x0 x1 x2 x3
          simp only [D1.out, D2.out, Bool.or_self]
          go_loopw [11] (fun v wr2 => ∃ (m : Nat), e ≤ m ∧ m ≤ p ∧ v = .int .i64 m ∧ Hid (PB wr2 ∧ CpAt wr2 G xk 0 u p)) (fun v _ => p - (intOf v).toNat)
          case atStart =>
            refine ⟨e, Nat.le_refl _, hep, rfl, Lib.hid ⟨HP0.out _ ?_, ?_⟩⟩
            · repeat' first | assumption | exact Below.refl _ _ | (apply below_drewN) | refine Below.setCell ?_ (by simp only; omega) _ | refine Below.alloc ?_ (by (try simp); (try omega)) _
            · unfold CpAt
              exact HG0.out _
          case round =>
            obtain ⟨m, hm1, hm2, rfl, HC⟩ := hrel
            have hcp := HC.out.2
            have gl : G < wr.heap.size := (Array.getElem?_eq_some_iff.1 hcp).1
            have y0 : wr.cell? ⟨G, 0, none⟩ = some (.int .i64 xk) := by rw [Lib.cell_of_heap hcp]; rfl
            have y1 : wr.cell? ⟨G, 1, none⟩ = some (.string u) := by rw [Lib.cell_of_heap hcp]; rfl
            have y2 : wr.cell? ⟨G, 2, none⟩ = some (.int .i64 0) := by rw [Lib.cell_of_heap hcp]; rfl
            have y3 : wr.cell? ⟨G, 3, none⟩ = some (.int .i64 p) := by rw [Lib.cell_of_heap hcp]; rfl
            clear hcp
            by_cases hmp : m < p
            · have hmt : m < t.size := by omega
              have hbm : blk (t[m]'hmt) = true := by
                obtain ⟨b', hb1, hb2⟩ := HBK.out m hm1 hmp
                have e1 : t.data.toList[m]? = some (t[m]'hmt) := by
                  rw [List.getElem?_eq_getElem (by rw [HTL.out]; exact hmt)]
                  rfl
                rw [e1] at hb1
                injection hb1 with hb1
                rw [hb1]; exact hb2
              have HBM := Lib.hid (fun w' => H4.out (t[m]'hmt) w')
              rw [hbm] at HBM
              have j0 : (0 : Int) ≤ (m : Int) := by omega
              have j1 : (m : Int) < (t.size : Int) := by omega
              have j2 : (m : Int) < (p : Int) := by omega
              clear hbm
              go_wp2_with fail
              refine (HBM.out _).mono ?_
              rintro e9 w9 ⟨rfl, hb9⟩
              have HC9 : Hid (PB w9 ∧ CpAt w9 G xk 0 u p) := Lib.hid ⟨HPG.out _ _ HC.out.1 hb9, (hb9.block _ gl).trans HC.out.2⟩
              clear hb9 HC HBM
              go_wp2_with fail
              go_roundw
              case rel => exact ⟨m + 1, by omega, by omega, by go_num, HC9⟩
              case measure => simp [intOf]; omega
            · obtain rfl : m = p := by omega
              have HB7 := Lib.hid (HWF.out _ HC.out.1)
              clear HC HBK
              go_wp2_with fail
              go_roundw
              case rel => exact ⟨k + 1, m + u.size, by omega, HNEXT.out.1, by go_num, by go_num, HB7, Lib.hid HNEXT.out.2.1, Lib.hid HNEXT.out.2.2⟩
              case measure => simp [intOf]; omega
    · obtain rfl : k = n := by omega
      have hen := HE.out rfl
      have HB9 := Lib.hid (HB3.out.trans (HK.out.mono HB3.out.size))
      clear HQ HE HK
      subst hen
      have hd0 : decide (0 < k) = true := decide_eq_true (by omega)
      go_wp2_with fail
      go_ret
      exact ⟨rfl, HB9.out⟩
end Go.Proofs.YtfmocnbhahcgoaaDoor
