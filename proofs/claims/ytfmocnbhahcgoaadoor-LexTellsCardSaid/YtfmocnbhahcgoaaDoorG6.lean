/-
  Layer 14: rows of tokens; the contract of Lex.
-/
import Derived.Test.YtfmocnbhahcgoaaDoorG5
set_option linter.unusedVariables false
set_option maxRecDepth 100000
namespace Go.Proofs.YtfmocnbhahcgoaaDoor
open Go.RowKit

theorem own_stays {w w' : World} {B e size n : Nat} {v : Value} {xs : List Value} (h : w.ownsRow B e size v n xs) (hk : ∀ g, v.ownBlock = some g → w'.heap[g]? = w.heap[g]?) : w'.ownsRow B e size v n xs := by
  obtain ⟨h1, h2⟩ := h
  refine ⟨h1, ?_⟩
  rcases h2 with ⟨rfl, h3⟩ | ⟨g, cap, cur, rfl, hB, hg, h4⟩
  · exact Or.inl ⟨rfl, h3⟩
  · exact Or.inr ⟨g, cap, cur, rfl, hB, by rw [hk g rfl]; exact hg, h4⟩
theorem own_go {w w' : World} {B e size n : Nat} {v : Value} {xs : List Value} (h : w.ownsRow B e size v n xs) (hb : Below w.heap.size w w') : w'.ownsRow B e size v n xs :=
  own_stays h (fun g hg => hb.block g (h.lt g hg).2)
theorem own_base {w : World} {B B' e size n : Nat} {v : Value} {xs : List Value} (h : w.ownsRow B e size v n xs) (hB : B' ≤ B) : w.ownsRow B' e size v n xs := by
  obtain ⟨h1, h2⟩ := h
  refine ⟨h1, ?_⟩
  rcases h2 with h2 | ⟨g, cap, cur, rfl, hB2, h4⟩
  · exact Or.inl h2
  · exact Or.inr ⟨g, cap, cur, rfl, Nat.le_trans hB hB2, h4⟩
theorem infoToken : (Tryd.prog.info? 25).map (fun i => (i.zero, i.size, i.bytes)) = some (some (.agg #[.int .i64 0, .string ⟨#[]⟩, .int .i64 0, .int .i64 0]), 4, 40) := by kernel_rfl
def tkc (x : Tk) : List Value := [.int .i64 x.k, .string ⟨x.t.toArray⟩, .int .i64 x.n, .int .i64 x.p]
def tkcells (L : List Tk) : List Value := L.flatMap tkc
theorem tkcells_len (l : List Tk) : (tkcells l).length = l.length * 4 := by
  induction l with
  | nil => rfl
  | cons r l ih => show (_ :: _ :: _ :: _ :: tkcells l).length = _; simp [ih]; omega
theorem tkcells_append (l m : List Tk) : tkcells (l ++ m) = tkcells l ++ tkcells m := by simp [tkcells]
theorem tkcells_at : ∀ (l : List Tk) (j : Nat) (h : j < l.length), (tkcells l)[j * 4]? = some (.int .i64 l[j].k) ∧ (tkcells l)[j * 4 + 1]? = some (.string ⟨l[j].t.toArray⟩) ∧ (tkcells l)[j * 4 + 2]? = some (.int .i64 l[j].n) ∧ (tkcells l)[j * 4 + 3]? = some (.int .i64 l[j].p) := by
  intro l
  induction l with
  | nil => intro j h; simp at h
  | cons r l ih =>
    intro j h
    cases j with
    | zero => exact ⟨rfl, rfl, rfl, rfl⟩
    | succ j =>
      have := ih j (by simpa using h)
      simp only [List.getElem_cons_succ]
      have e : tkcells (r :: l) = tkc r ++ tkcells l := rfl
      have e2 : ∀ i, (tkcells (r :: l))[(j + 1) * 4 + i]? = (tkcells l)[j * 4 + i]? := fun i => by
        rw [e, List.getElem?_append_right (by simp [tkc]; omega)]
        congr 1; simp [tkc]; omega
      exact ⟨(e2 0).trans this.1, (e2 1).trans this.2.1, (e2 2).trans this.2.2.1, (e2 3).trans this.2.2.2⟩
/-- the cells of a token at a place. -/
def TkC (w : World) (b o : Nat) (x : Tk) : Prop := w.cell? ⟨b, o, none⟩ = some (.int .i64 x.k) ∧ w.cell? ⟨b, o + 1, none⟩ = some (.string ⟨x.t.toArray⟩) ∧ w.cell? ⟨b, o + 2, none⟩ = some (.int .i64 x.n) ∧ w.cell? ⟨b, o + 3, none⟩ = some (.int .i64 x.p)
theorem TkC.below {w w' : World} {b o : Nat} {x : Tk} (h : TkC w b o x) (hl : b < w.heap.size) (hb : Below w.heap.size w w') : TkC w' b o x := by
  have wc := fun i => hb.cell (p := ⟨b, i, none⟩) hl
  exact ⟨(wc _).trans h.1, (wc _).trans h.2.1, (wc _).trans h.2.2.1, (wc _).trans h.2.2.2⟩
/-- a list of tokens that can be read. -/
def TkRow (w : World) (A : Option Addr) (L : List Tk) : Prop := 0 < L.length → ∃ b off, A = some ⟨b, off, none⟩ ∧ b < w.heap.size ∧ ∀ j (h : j < L.length), TkC w b (off + j * 4) L[j]
theorem TkRow.below {w w' : World} {A : Option Addr} {L : List Tk} (h : TkRow w A L) (hb : Below w.heap.size w w') : TkRow w' A L := fun h0 => by
  obtain ⟨b, off, e, hl, hc⟩ := h h0
  exact ⟨b, off, e, Nat.lt_of_lt_of_le hl hb.size, fun j hj => (hc j hj).below hl hb⟩
theorem TkRow.nil (w : World) (A : Option Addr) : TkRow w A [] := fun h => absurd h (by simp)
theorem own_tk {w : World} {B : Nat} {v : Value} {L : List Tk} (h : w.ownsRow B 25 4 v L.length (tkcells L)) : ∃ A c, v = .slice A L.length c ∧ TkRow w A L := by
  obtain ⟨h1, h2⟩ := h
  rcases h2 with ⟨rfl, h0⟩ | ⟨g, cap, cur, rfl, hB, hg, h3, h4, h5, h6⟩
  · have hL := List.eq_nil_of_length_eq_zero h0
    subst hL
    exact ⟨none, 0, rfl, TkRow.nil _ _⟩
  · refine ⟨_, cap, rfl, fun _ => ⟨g, 0, rfl, (Array.getElem?_eq_some_iff.1 hg).1, fun j hj => ?_⟩⟩
    have hcell : ∀ i, i < L.length * 4 → w.cell? ⟨g, i, none⟩ = (tkcells L)[i]? := fun i hi => by
      rw [Lib.cell_of_heap hg, ← h6, List.getElem?_take, if_pos hi, Array.getElem?_toList]
    obtain ⟨d0, d1, d2, d3⟩ := tkcells_at L j hj
    refine ⟨?_, ?_, ?_, ?_⟩
    · rw [Nat.zero_add, hcell _ (by omega)]; exact d0
    · rw [Nat.zero_add, hcell _ (by omega)]; exact d1
    · rw [Nat.zero_add, hcell _ (by omega)]; exact d2
    · rw [Nat.zero_add, hcell _ (by omega)]; exact d3
/-- own tokens behind a world. -/
structure LW (v : Value) (L : List Tk) (w wr : World) : Prop where
  own : wr.ownsRow w.heap.size 25 4 v L.length (tkcells L)
  bel : Below w.heap.size w wr
theorem LW.go {v : Value} {L : List Tk} {w wr w' : World} (h : LW v L w wr) (hb : Below wr.heap.size wr w') : LW v L w w' := ⟨own_go h.own hb, h.bel.trans (hb.mono h.bel.size)⟩
/-- what Lex returns. -/
def LexIs (y : LxR) (w : World) (e : Ending) (w' : World) : Prop := ∃ v, e = .returned (.tuple #[v, .int .i64 y.a, .int .i64 y.e]) ∧ LW v y.l w w'
def lexP (l : List UInt8) : LxR := if 8000 < l.length then ⟨6, 0, []⟩ else lexG 0 l
theorem drop_skip (f : UInt8 → Bool) (l : List UInt8) (k : Nat) : (l.drop k).dropWhile f = l.drop (k + ((l.drop k).takeWhile f).length) := by
  rw [← List.drop_drop]
  conv => lhs; rw [← List.drop_left (l₁ := (l.drop k).takeWhile f) (l₂ := (l.drop k).dropWhile f)]
  rw [List.takeWhile_append_dropWhile]
theorem hd_skip (f : UInt8 → Bool) (l : List UInt8) : hdB f (l.dropWhile f) = false := by
  induction l with
  | nil => rfl
  | cons a l ih =>
    by_cases h : f a = true
    · rw [List.dropWhile_cons_of_pos h]; exact ih
    · rw [List.dropWhile_cons_of_neg h]; exact Bool.eq_false_iff.2 h
/-- a token is at the front of what is left. -/
theorem lex_step {l : List UInt8} {k : Nat} (hk : k < l.length) (hb : hdB blk (l.drop k) = false) : lexG k (l.drop k) =
    if (firstT (l.drop k)).e = 0 then pre [(firstT (l.drop k)).tk k] (lexG (k + (firstT (l.drop k)).t.length) (l.drop (k + (firstT (l.drop k)).t.length))) else ⟨(firstT (l.drop k)).e, k, []⟩ := by
  cases h : l.drop k with
  | nil => have := congrArg List.length h; simp at this; omega
  | cons b r =>
    rw [h] at hb
    rw [lexG_tok hb, ← h, List.drop_drop]
theorem first_len {l : List UInt8} {k : Nat} (h : (firstT (l.drop k)).e = 0) : 0 < (firstT (l.drop k)).t.length ∧ k + (firstT (l.drop k)).t.length ≤ l.length := by
  have ok := first_ok h
  obtain ⟨q, hq⟩ := ok.pre
  have h1 := congrArg List.length hq
  have h2 := ok.pos
  simp only [List.length_append, List.length_drop] at h1
  omega
set_option maxHeartbeats 16000000 in
theorem lex_any (s : ByteArray) (w : World) (hs : s.size ≤ 1099511627776) (hg : Glb w) : Calls Tryd.prog 11 #[.string s] w (LexIs (lexP s.data.toList) w) := by
  have hsz := size_list s
  by_cases hlen : s.size ≤ 8000
  case neg =>
    have HF : Hid (lexP s.data.toList = ⟨6, 0, []⟩) := Lib.hid (by unfold lexP; rw [if_pos (by omega)])
    go_enter Tryd.func11, Tryd.ntmps11
    go_wp2_with fail
    go_ret3
    rw [HF.out]
    exact ⟨_, rfl, World.ownsRow_nil _ _ _ _, Below.refl _ _⟩
  case pos =>
  have HFP : Hid (lexP s.data.toList = lexG 0 s.data.toList) := Lib.hid (by unfold lexP; rw [if_neg (by omega)])
  have H1 := Lib.hid lead_blanks
  have H2 := Lib.hid first_any
  have H3 := Lib.hid sign_any
  have HG := Lib.hid hg; clear hg
  have HS := Lib.hid hsz; clear hsz
  obtain ⟨i0, hi9, hz0, hz1, hz2⟩ := info_parts infoToken
  have K0 : Hid (LW (.slice none 0 0) [] w w) := Lib.hid ⟨World.ownsRow_nil _ _ _ _, Below.refl _ _⟩
  have E0 : Hid (lexG 0 s.data.toList = pre [] (lexG 0 (s.data.toList.drop 0))) := Lib.hid (by rw [pre_nil]; rfl)
  rw [HFP.out]
  clear HFP
  go_enter Tryd.func11, Tryd.ntmps11
  go_wp2_with fail
  go_loopw [5, 6] (fun v i wr => ∃ (k : Nat) (v0 : Value) (L : List Tk), k ≤ s.size ∧ L.length ≤ k ∧ i = .int .i64 k ∧ v0 = v ∧ Hid (LW v0 L w wr) ∧ Hid (lexG 0 s.data.toList = pre L (lexG k (s.data.toList.drop k)))) (fun _ i _ => s.size + 1 - (intOf i).toNat)
  case atStart => exact ⟨0, _, [], Nat.zero_le _, Nat.le_refl _, rfl, rfl, K0, E0⟩
  case round =>
    clear K0 E0
    obtain ⟨k, v, L, hk, hL, rfl, rfl, HK, HE⟩ := hrel
    have hx0 : (s.extract k s.size).size = s.size - k := by rw [size_of (Lib.extract_to_end s k), List.length_drop, HS.out]
    have HX0 := Lib.hid (Lib.extract_to_end s k)
    go_wp2_with fail
    generalize s.extract k s.size = s1 at *
    refine (H1.out s1 wr (by omega)).mono ?_
    rintro e w1 ⟨t1, rfl, ht1, hb1⟩
    have hts1 := take_size (by rw [ht1] : t1.data.toList = s1.data.toList.takeWhile blk)
    obtain ⟨k2, hk2⟩ : ∃ k2, k2 = k + t1.size := ⟨_, rfl⟩
    have HK1 := Lib.hid (HK.out.go hb1)
    have HD : Hid (s.data.toList.drop k2 = (s.data.toList.drop k).dropWhile blk) := Lib.hid (by rw [drop_skip, hk2, size_of ht1, HX0.out])
    have HE2 : Hid (lexG 0 s.data.toList = pre L (lexG k2 (s.data.toList.drop k2))) := Lib.hid (by
      rw [HE.out, lexG_skip _ k, HD.out, hk2, size_of ht1, HX0.out])
    have HB : Hid (hdB blk (s.data.toList.drop k2) = false) := Lib.hid (by rw [HD.out]; exact hd_skip _ _)
    clear ht1 hb1 HK HE HD HX0
    have E2 : Hid ((k : Int) + (t1.size : Int) = (k2 : Int)) := Lib.hid (by omega)
    have w0 : (0 : Int) ≤ (k : Int) + (t1.size : Int) := by omega
    have w1' : (k : Int) + (t1.size : Int) ≤ 1099511627776 := by omega
    have hkk : k ≤ k2 := by omega
    have hk2s : k2 ≤ s.size := by omega
    have hL2 : L.length ≤ k2 := by omega
    by_cases hend : k2 = s.size
    · have HFIN : Hid (lexG 0 s.data.toList = ⟨0, 0, L ++ [endT k2]⟩) := Lib.hid (by
        rw [HE2.out, List.drop_eq_nil_of_le (by rw [HS.out]; omega), lexG_nil]; rfl)
      have HO : Hid (∀ w', Below w1.heap.size w1 w' → w'.ownsRow w.heap.size 25 4 v L.length (tkcells L)) := Lib.hid (fun w' hb => own_go HK1.out.own hb)
      have hws := HK1.out.bel.size
      have heq : ((k : Int) + (t1.size : Int) == (s.size : Int)) = true := by rw [beq_iff_eq]; omega
      clear HE2 HB
      go_wp2_with (at_builtin; refine wpList_append_own _ rfl _ _ 22 rfl w.heap.size 25 i0 (.agg #[.int .i64 0, .string ⟨#[]⟩, .int .i64 0, .int .i64 0]) 4 40 Tryd.underlying22 hi9 hz0 hz1 hz2 rfl (by decide) _ _ _ rfl (HO.out _ ?bl) ⟨w1.heap.size, 0, none⟩ 1 1 [.int .i64 3, .string ⟨#[]⟩, .int .i64 0, .int .i64 ((k : Int) + (t1.size : Int))] rfl rfl ?c1 ?c2 ?c3 ?c4 ?c5 ?_)
      case bl => repeat' first | assumption | exact Below.refl _ _ | refine Below.setCell ?_ (by simp only; omega) _ | refine Below.alloc ?_ (by (try simp); (try omega)) _
      case c1 =>
        intro t u ht
        match t, ht with
        | 0, ht => simp at ht; subst ht; simp [Addr.add]
        | 1, ht => simp at ht; subst ht; simp [Addr.add]
        | 2, ht => simp at ht; subst ht; simp [Addr.add]
        | 3, ht => simp at ht; subst ht; simp [Addr.add]
      case c2 => intro u hu; simp only [List.mem_cons, List.not_mem_nil, or_false] at hu; rcases hu with rfl | rfl | rfl | rfl <;> rfl
      case c3 => unfold maxLen; omega
      case c4 => omega
      case c5 => simp; omega
      intro v' w4 hown' hgr _
      have HX : Hid (LW v' (L ++ [endT k2]) w w4) := Lib.hid ⟨by rw [tkcells_append, List.length_append]; rw [E2.out] at hown'; exact hown', Below.grown (HK1.out.bel.alloc hws _) hgr (by simp; omega) (fun k hk => (HK1.out.own.lt k hk).1)⟩
      clear hown' hgr HO HK1
      go_wp2_with fail
      go_ret3
      rw [HFIN.out]
      exact ⟨v', rfl, HX.out⟩
    · have HX2 : Hid ((s.extract (k + t1.size) s.size).data.toList = s.data.toList.drop k2) := Lib.hid (by rw [Lib.extract_to_end, hk2])
      have HZ2 : Hid ((s.extract (k + t1.size) s.size).size ≤ 1099511627776) := Lib.hid (by rw [size_of (Lib.extract_to_end s _), List.length_drop, HS.out]; omega)
      have HSTEP := Lib.hid (lex_step (l := s.data.toList) (k := k2) (by rw [HS.out]; omega) HB.out)
      have HLEN := Lib.hid (first_len (l := s.data.toList) (k := k2))
      have hneq : ((k : Int) + (t1.size : Int) == (s.size : Int)) = false := by rw [beq_eq_false_iff_ne]; omega
      have HQ : Hid (k2 ≤ s.size ∧ L.length ≤ k2) := Lib.hid ⟨by omega, by omega⟩
      clear HB hk2s hkk hL2 hend
      go_wp2_with fail
      generalize s.extract (k + t1.size) s.size = s2 at *
      refine (H2.out s2 w1 HZ2.out (HG.out.below HK1.out.bel) (fun w' hg' => H3.out s2 w' hg')).mono ?_
      rintro e w2 ⟨u, hu, rfl, hb2⟩
      rw [HX2.out] at hu ⊢
      have HK2 := Lib.hid (HK1.out.go hb2)
      clear hb2 HK1 HX2 HZ2
      generalize hx : firstT (s.data.toList.drop k2) = x at *
      clear hx
      by_cases he : x.e = 0
      · have hl := HLEN.out he
        rw [HS.out] at hl
        obtain ⟨k3, hk3⟩ : ∃ k3, k3 = k + t1.size + u.size := ⟨_, rfl⟩
        have husz := size_of hu
        have hE3 : lexG 0 s.data.toList = pre (L ++ [x.tk k2]) (lexG k3 (s.data.toList.drop k3)) := by
          rw [HE2.out, HSTEP.out, if_pos he, pre_pre, ← husz, hk3, hk2]
        have HE3 := Lib.hid hE3
        have HQ3 : Hid (k3 ≤ s.size ∧ (L ++ [x.tk k2]).length ≤ k3 ∧ k < k3) := Lib.hid (by
          have := HQ.out
          refine ⟨by omega, ?_, by omega⟩
          rw [List.length_append]; simp only [List.length_cons, List.length_nil]; omega)
        have HO : Hid (∀ w', Below w2.heap.size w2 w' → w'.ownsRow w.heap.size 25 4 v L.length (tkcells L)) := Lib.hid (fun w' hb => own_go HK2.out.own hb)
        have HU : Hid ((⟨x.t.toArray⟩ : ByteArray) = u) := Lib.hid (by rw [← hu, Lib.mk_data])
        have u0 : (0 : Int) ≤ (k : Int) + (t1.size : Int) + (u.size : Int) := by omega
        have u1 : (k : Int) + (t1.size : Int) + (u.size : Int) ≤ 1099511627776 := by omega
        have hws := HK2.out.bel.size
        have hee : (x.e == 0) = true := by rw [beq_iff_eq]; exact he
        have hLL : L.length ≤ 8000 := by have := HQ.out.2; omega
        clear hE3 HSTEP HLEN HE2 husz hu hl
        go_wp2_with (at_builtin; refine wpList_append_own _ rfl _ _ 22 rfl w.heap.size 25 i0 (.agg #[.int .i64 0, .string ⟨#[]⟩, .int .i64 0, .int .i64 0]) 4 40 Tryd.underlying22 hi9 hz0 hz1 hz2 rfl (by decide) _ _ _ rfl (HO.out _ ?bl) ⟨w2.heap.size + 1, 0, none⟩ 1 1 [.int .i64 x.k, .string u, .int .i64 x.n, .int .i64 ((k : Int) + (t1.size : Int))] rfl rfl ?c1 ?c2 ?c3 ?c4 ?c5 ?_)
        case bl => repeat' first | assumption | exact Below.refl _ _ | refine Below.setCell ?_ (by simp only; omega) _ | refine Below.alloc ?_ (by (try simp); (try omega)) _
        case c1 =>
          intro t u ht
          match t, ht with
          | 0, ht => simp at ht; subst ht; simp [Addr.add]
          | 1, ht => simp at ht; subst ht; simp [Addr.add]
          | 2, ht => simp at ht; subst ht; simp [Addr.add]
          | 3, ht => simp at ht; subst ht; simp [Addr.add]
        case c2 => intro u hu; simp only [List.mem_cons, List.not_mem_nil, or_false] at hu; rcases hu with rfl | rfl | rfl | rfl <;> rfl
        case c3 => unfold maxLen; omega
        case c4 => omega
        case c5 => simp; omega
        intro v' w4 hown' hgr _
        have HX : Hid (LW v' (L ++ [x.tk k2]) w w4) := Lib.hid ⟨by rw [tkcells_append, List.length_append]; rw [E2.out] at hown'; show w4.ownsRow _ _ _ _ _ (tkcells L ++ [.int .i64 x.k, .string ⟨x.t.toArray⟩, .int .i64 x.n, .int .i64 (k2 : Int)]); rw [HU.out]; exact hown',
          Below.grown (by
            have := HK2.out.bel
            repeat' first | assumption | refine Below.setCell ?_ (by simp only; omega) _ | refine Below.alloc ?_ (by (try simp); (try omega)) _) hgr (by simp; omega) (fun k hk => (HK2.out.own.lt k hk).1)⟩
        have hc1 : w4.cell? ⟨w2.heap.size, 1, none⟩ = some (.string u) := by
          rw [World.cell?_of_block (hgr.block w2.heap.size (by simp; omega) (fun e => by have := (HK2.out.own.lt _ e.symm).2; omega))]
          simp
        have hq3 := HQ3.out
        have hk3' : (k3 : Int) = (k : Int) + (t1.size : Int) + (u.size : Int) := by omega
        have hb4 : w2.heap.size < w4.heap.size := World.block_lt_of_cell? _ _ hc1
        clear hown' hgr HO HK2
        go_wp2_with fail
        go_roundw
        case rel => exact ⟨k3, _, _, hq3.1, hq3.2.1, by rw [hk3'], rfl, HX, HE3⟩
        case measure => simp [intOf]; omega
      · have HFIN : Hid (lexG 0 s.data.toList = ⟨x.e, k2, []⟩) := Lib.hid (by
          rw [HE2.out, HSTEP.out, if_neg he, pre_no he])
        have hne : (x.e == 0) = false := by rw [beq_eq_false_iff_ne]; exact he
        have HBL := Lib.hid HK2.out.bel
        have hws := HK2.out.bel.size
        clear HSTEP HLEN HE2 HK2
        go_wp2_with fail
        go_ret3
        rw [HFIN.out]
        refine ⟨_, by rw [← E2.out]; rfl, World.ownsRow_nil _ _ _ _, ?_⟩
        have := HBL.out
        repeat' first | assumption | refine Below.setCell ?_ (by simp only; omega) _ | refine Below.alloc ?_ (by (try simp); (try omega)) _
end Go.Proofs.YtfmocnbhahcgoaaDoor
