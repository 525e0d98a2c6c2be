/-
  Tokens over lists of bytes (layer 14): the first token, all tokens, and what the chapter says of them.
-/
import Derived.Test.YtfmocnbhahcgoaaDoorWs
set_option linter.unusedVariables false
namespace Go.Proofs.YtfmocnbhahcgoaaDoor

def blk (b : UInt8) : Bool := b == 9 || b == 10 || b == 32
def ltr (b : UInt8) : Bool := decide (97 ≤ b.toNat) && decide (b.toNat ≤ 122)
def dgt (b : UInt8) : Bool := decide (48 ≤ b.toNat) && decide (b.toNat ≤ 57)
def aln (b : UInt8) : Bool := ltr b || dgt b
structure Tk where
  k : Int
  t : List UInt8
  n : Int
  p : Int
deriving DecidableEq
def valD (l : List UInt8) : Nat := l.foldl (fun n b => 10 * n + (b.toNat - 48)) 0
def hdB (f : UInt8 → Bool) : List UInt8 → Bool
  | [] => false
  | b :: _ => f b
def wordB (l : List UInt8) : Bool := hdB ltr l && l.all aln && decide (l.length ≤ 20)
def numB (l : List UInt8) : Bool := !l.isEmpty && l.all dgt && (decide (l.length = 1) || !hdB (· == 48) l) && decide (valD l ≤ 1099511627776)
def sgns : List (List UInt8) := [[60, 61], [61, 61], [59], [44], [58], [61], [60], [43], [45], [42], [47], [37], [40], [41]]
/-- the first token without its place, or an error. -/
structure T1 where
  e : Int
  k : Int
  t : List UInt8
  n : Int
deriving DecidableEq
def signT (l : List UInt8) : T1 := match sgns.find? (fun g => g.isPrefixOf l) with
  | some g => ⟨0, 2, g, 0⟩
  | none => ⟨13, 0, [], 0⟩
def wordT (l : List UInt8) : T1 := if wordB l then ⟨0, 0, l, 0⟩ else ⟨15, 0, [], 0⟩
def numT (l : List UInt8) : T1 := if numB l then ⟨0, 1, l, valD l⟩ else ⟨3, 0, [], 0⟩
def firstT (l : List UInt8) : T1 :=
  if hdB ltr l then wordT (l.takeWhile aln)
  else if hdB dgt l then numT (l.takeWhile dgt)
  else signT l
structure LxR where
  e : Int
  a : Int
  l : List Tk
deriving DecidableEq
def pre (L : List Tk) (y : LxR) : LxR := if y.e = 0 then ⟨0, y.a, L ++ y.l⟩ else y
def endT (a : Nat) : Tk := ⟨3, [], 0, a⟩
def T1.tk (x : T1) (a : Nat) : Tk := ⟨x.k, x.t, x.n, a⟩
def lexF : Nat → Nat → List UInt8 → LxR
  | 0, _, _ => ⟨0, 0, []⟩
  | _ + 1, a, [] => ⟨0, 0, [endT a]⟩
  | f + 1, a, b :: r =>
    if blk b then lexF f (a + 1) r
    else if (firstT (b :: r)).e = 0 then pre [(firstT (b :: r)).tk a] (lexF f (a + (firstT (b :: r)).t.length) ((b :: r).drop (firstT (b :: r)).t.length))
    else ⟨(firstT (b :: r)).e, a, []⟩
def lexG (a : Nat) (l : List UInt8) : LxR := lexF (l.length + 1) a l

theorem take_cut {f : UInt8 → Bool} : ∀ {l p : List UInt8}, l.takeWhile f <+: p → p <+: l → p.takeWhile f = l.takeWhile f
  | [], p, h1, h2 => by have : p = [] := by simpa using h2
                        subst this; rfl
  | a :: l, [], h1, h2 => by have : (a :: l).takeWhile f = [] := by simpa using h1
                             rw [this]; rfl
  | a :: l, b :: p, h1, h2 => by
    obtain ⟨rfl, h4⟩ : b = a ∧ p <+: l := by simpa using h2
    by_cases hb : f b = true
    · rw [List.takeWhile_cons_of_pos hb] at h1 ⊢
      rw [List.takeWhile_cons_of_pos hb]
      have h3 : l.takeWhile f <+: p := by simpa using h1
      rw [take_cut h3 h4]
    · rw [List.takeWhile_cons_of_neg hb, List.takeWhile_cons_of_neg hb]
theorem take_app {f : UInt8 → Bool} {c : UInt8} (hc : f c = false) (y : List UInt8) : ∀ l : List UInt8, (l ++ c :: y).takeWhile f = l.takeWhile f
  | [] => by simp [List.takeWhile, hc]
  | a :: l => by
    by_cases ha : f a = true
    · rw [List.cons_append, List.takeWhile_cons_of_pos ha, List.takeWhile_cons_of_pos ha, take_app hc y l]
    · rw [List.cons_append, List.takeWhile_cons_of_neg ha, List.takeWhile_cons_of_neg ha]
theorem take_all {f : UInt8 → Bool} : ∀ l : List UInt8, (l.takeWhile f).all f = true
  | [] => rfl
  | a :: l => by
    by_cases ha : f a = true
    · rw [List.takeWhile_cons_of_pos ha, List.all_cons, ha, take_all l]; rfl
    · rw [List.takeWhile_cons_of_neg ha]; rfl
theorem take_of_all {f : UInt8 → Bool} : ∀ {l : List UInt8}, l.all f = true → l.takeWhile f = l
  | [], _ => rfl
  | a :: l, h => by
    rw [List.all_cons, Bool.and_eq_true] at h
    rw [List.takeWhile_cons_of_pos h.1, take_of_all h.2]
theorem hd_cut {f : UInt8 → Bool} {l p : List UInt8} (h : p ≠ []) (hp : p <+: l) : hdB f p = hdB f l := by
  obtain ⟨q, rfl⟩ := hp
  cases p with
  | nil => exact absurd rfl h
  | cons a p => rfl
theorem find_cut {l p g : List UInt8} (hg : g <+: p) (hp : p <+: l) : ∀ {S : List (List UInt8)}, S.find? (fun g => g.isPrefixOf l) = some g → S.find? (fun g => g.isPrefixOf p) = some g
  | [], h => by cases h
  | s :: S, h => by
    rw [List.find?_cons] at h ⊢
    by_cases hs : s.isPrefixOf l = true
    · rw [hs] at h
      obtain rfl : s = g := by simpa using h
      have : s.isPrefixOf p = true := by rw [List.isPrefixOf_iff_prefix]; exact hg
      rw [this]
    · have h2 : s.isPrefixOf p = false := by
        rw [Bool.eq_false_iff]; intro hq; apply hs
        rw [List.isPrefixOf_iff_prefix] at hq ⊢
        exact hq.trans hp
      rw [Bool.eq_false_iff.2 hs] at h
      rw [h2]
      exact find_cut hg hp h
/-- what a right first token is. -/
theorem signT_ok {l : List UInt8} (h : (signT l).e = 0) : (signT l).k = 2 ∧ (signT l).n = 0 ∧ (signT l).t <+: l ∧ 0 < (signT l).t.length := by
  unfold signT at h ⊢
  cases hf : sgns.find? (fun g => g.isPrefixOf l) with
  | none => rw [hf] at h; exact absurd h (show ¬ ((13 : Int) = 0) by decide)
  | some g =>
    refine ⟨rfl, rfl, ?_, ?_⟩
    · have := List.find?_some hf
      exact List.isPrefixOf_iff_prefix.1 this
    · have h1 := List.mem_of_find?_eq_some hf
      have h2 : ∀ g ∈ sgns, 0 < g.length := by decide
      exact h2 g h1
theorem wordT_ok {l : List UInt8} (h : (wordT l).e = 0) : wordT l = ⟨0, 0, l, 0⟩ ∧ wordB l = true := by
  unfold wordT at h ⊢
  split
  · rename_i hw; exact ⟨rfl, hw⟩
  · rename_i hw; rw [if_neg hw] at h; exact absurd h (show ¬ ((15 : Int) = 0) by decide)
theorem numT_ok {l : List UInt8} (h : (numT l).e = 0) : numT l = ⟨0, 1, l, valD l⟩ ∧ numB l = true := by
  unfold numT at h ⊢
  split
  · rename_i hw; exact ⟨rfl, hw⟩
  · rename_i hw; rw [if_neg hw] at h; exact absurd h (show ¬ ((3 : Int) = 0) by decide)
theorem word_pos {l : List UInt8} (h : hdB ltr l = true) : 0 < (l.takeWhile aln).length := by
  cases l with
  | nil => cases h
  | cons a l =>
    have ha : aln a = true := by unfold aln; rw [show ltr a = true from h]; rfl
    rw [List.takeWhile_cons_of_pos ha]; simp
theorem num_pos {l : List UInt8} (h : hdB dgt l = true) : 0 < (l.takeWhile dgt).length := by
  cases l with
  | nil => cases h
  | cons a l => rw [List.takeWhile_cons_of_pos (show dgt a = true from h)]; simp
structure FOk (l : List UInt8) (x : T1) : Prop where
  pos : 0 < x.t.length
  pre : x.t <+: l
  k : x.k ≠ 3
  n : x.k ≠ 1 → x.n = 0
  k0 : x.k = 0 → wordB x.t = true
  k1 : x.k = 1 → numB x.t = true ∧ x.n = valD x.t
theorem first_ok {l : List UInt8} (h : (firstT l).e = 0) : FOk l (firstT l) := by
  unfold firstT at h ⊢
  split at h
  · rename_i hl
    rw [if_pos hl]
    obtain ⟨h1, h2⟩ := wordT_ok h
    rw [h1]
    exact ⟨word_pos hl, List.takeWhile_prefix _, (show ¬ ((0 : Int) = 3) by decide), fun _ => rfl, fun _ => h2, fun h => absurd h (show ¬ ((0 : Int) = 1) by decide)⟩
  · rename_i hl
    rw [if_neg hl]
    split at h
    · rename_i hd
      rw [if_pos hd]
      obtain ⟨h1, h2⟩ := numT_ok h
      rw [h1]
      exact ⟨num_pos hd, List.takeWhile_prefix _, (show ¬ ((1 : Int) = 3) by decide), fun h => absurd rfl h, fun h => absurd h (show ¬ ((1 : Int) = 0) by decide), fun _ => ⟨h2, rfl⟩⟩
    · rename_i hd
      rw [if_neg hd]
      obtain ⟨h1, h2, h3, h4⟩ := signT_ok h
      exact ⟨h4, h3, (by rw [h1]; decide), fun _ => h2, (fun h => absurd (h1.symm.trans h) (by decide)), (fun h => absurd (h1.symm.trans h) (by decide))⟩
theorem first_err (l : List UInt8) : (firstT l).e = 0 ∨ (firstT l).e = 3 ∨ (firstT l).e = 13 ∨ (firstT l).e = 15 := by
  unfold firstT wordT numT signT
  split
  · split
    · exact .inl rfl
    · exact .inr (.inr (.inr rfl))
  · split
    · split
      · exact .inl rfl
      · exact .inr (.inl rfl)
    · split
      · exact .inl rfl
      · exact .inr (.inr (.inl rfl))
/-- the first token of what is cut behind it. -/
theorem first_cut {l p : List UInt8} (h : (firstT l).e = 0) (h1 : (firstT l).t <+: p) (h2 : p <+: l) : firstT p = firstT l := by
  have hpos := (first_ok h).pos
  have hp : p ≠ [] := by
    rintro rfl
    have : (firstT l).t = [] := by simpa using h1
    rw [this] at hpos; exact absurd hpos (by simp)
  have e1 := hd_cut (f := ltr) hp h2
  have e2 := hd_cut (f := dgt) hp h2
  unfold firstT at h h1 ⊢
  rw [e1, e2]
  split at h
  · rename_i hl
    rw [if_pos hl] at h1
    rw [if_pos hl, if_pos hl]
    obtain ⟨h3, h4⟩ := wordT_ok h
    rw [h3] at h1
    rw [take_cut h1 h2]
  · rename_i hl
    rw [if_neg hl] at h1
    rw [if_neg hl, if_neg hl]
    split at h
    · rename_i hd
      rw [if_pos hd] at h1
      rw [if_pos hd, if_pos hd]
      obtain ⟨h3, h4⟩ := numT_ok h
      rw [h3] at h1
      rw [take_cut h1 h2]
    · rename_i hd
      rw [if_neg hd] at h1
      rw [if_neg hd, if_neg hd]
      unfold signT at h h1 ⊢
      cases hf : sgns.find? (fun g => g.isPrefixOf l) with
      | none => rw [hf] at h; exact absurd h (show ¬ ((13 : Int) = 0) by decide)
      | some g =>
        rw [hf] at h1
        rw [find_cut h1 h2 hf]
theorem sgn_app {l : List UInt8} (hl : l ≠ []) {c : UInt8} (hc : c ≠ 61) (y : List UInt8) : ∀ g ∈ sgns, g.isPrefixOf (l ++ c :: y) = g.isPrefixOf l := by
  have hc' : (61 == c) = false := by simpa using fun e => hc (Eq.symm e)
  match l, hl with
  | [a], _ => simp [sgns, List.isPrefixOf, hc']
  | a :: b :: r, _ => simp [sgns, List.isPrefixOf]
theorem find_congr {S : List (List UInt8)} {f g : List UInt8 → Bool} (h : ∀ x ∈ S, f x = g x) : S.find? f = S.find? g := by
  induction S with
  | nil => rfl
  | cons s S ih =>
    rw [List.find?_cons, List.find?_cons, h s (by simp), ih (fun x hx => h x (by simp [hx]))]
/-- a blank behind changes no first token. -/
theorem first_app {l : List UInt8} (hl : l ≠ []) {c : UInt8} (h1 : aln c = false) (h2 : c ≠ 61) (y : List UInt8) : firstT (l ++ c :: y) = firstT l := by
  have hp : l <+: l ++ c :: y := ⟨_, rfl⟩
  unfold firstT
  rw [← hd_cut (f := ltr) hl hp, ← hd_cut (f := dgt) hl hp, take_app h1, take_app (show dgt c = false by unfold aln at h1; simp at h1; exact h1.2)]
  unfold signT
  rw [find_congr (fun g hg => sgn_app hl h2 y g hg)]
theorem blk_aln {c : UInt8} (h : blk c = true) : aln c = false ∧ c ≠ 61 := by
  unfold blk at h
  simp at h
  rcases h with (rfl | rfl) | rfl <;> exact ⟨rfl, by decide⟩

theorem lexF_fuel : ∀ (n f g a : Nat) (l : List UInt8), l.length < n → l.length < f → l.length < g → lexF f a l = lexF g a l
  | 0, f, g, a, l, h, _, _ => absurd h (by omega)
  | n + 1, 0, g, a, l, _, h, _ => absurd h (by omega)
  | n + 1, f + 1, 0, a, l, _, _, h => absurd h (by omega)
  | n + 1, f + 1, g + 1, a, [], _, _, _ => by simp only [lexF]
  | n + 1, f + 1, g + 1, a, b :: r, h1, h2, h3 => by
    simp only [List.length_cons] at h1 h2 h3
    simp only [lexF]
    split
    · exact lexF_fuel n f g _ r (by omega) (by omega) (by omega)
    · split
      · rename_i he
        have hp := (first_ok he).pos
        have hd : ((b :: r).drop (firstT (b :: r)).t.length).length < r.length + 1 := by rw [List.length_drop, List.length_cons]; omega
        rw [lexF_fuel n f g _ _ (by omega) (by omega) (by omega)]
      · rfl
theorem lexG_nil (a : Nat) : lexG a [] = ⟨0, 0, [endT a]⟩ := by simp only [lexG, lexF]
theorem lexG_blk {b : UInt8} (h : blk b = true) (a : Nat) (l : List UInt8) : lexG a (b :: l) = lexG (a + 1) l := by
  show lexF ((b :: l).length + 1) a (b :: l) = lexF (l.length + 1) (a + 1) l
  rw [show (b :: l).length + 1 = (l.length + 1) + 1 from rfl]
  simp only [lexF, h, if_true]
theorem lexG_tok {b : UInt8} (h : blk b = false) (a : Nat) (l : List UInt8) : lexG a (b :: l) =
    if (firstT (b :: l)).e = 0 then pre [(firstT (b :: l)).tk a] (lexG (a + (firstT (b :: l)).t.length) ((b :: l).drop (firstT (b :: l)).t.length))
    else ⟨(firstT (b :: l)).e, a, []⟩ := by
  show lexF ((b :: l).length + 1) a (b :: l) = _
  simp only [lexF, h, Bool.false_eq_true, if_false]
  split
  · rename_i he
    have hp := (first_ok he).pos
    have hd : ((b :: l).drop (firstT (b :: l)).t.length).length < (b :: l).length := by rw [List.length_drop, List.length_cons]; omega
    unfold lexG
    rw [lexF_fuel ((b :: l).length + 1) (b :: l).length (((b :: l).drop (firstT (b :: l)).t.length).length + 1) _ _ (by omega) (by omega) (by omega)]
  · rfl
theorem lex_ind {P : List UInt8 → Prop} (h0 : P []) (hb : ∀ b l, blk b = true → P l → P (b :: l)) (he : ∀ b l, blk b = false → (firstT (b :: l)).e ≠ 0 → P (b :: l))
    (ht : ∀ b l, blk b = false → (firstT (b :: l)).e = 0 → P ((b :: l).drop (firstT (b :: l)).t.length) → P (b :: l)) : ∀ l, P l := by
  have key : ∀ (n : Nat) (l : List UInt8), l.length < n → P l := by
    intro n
    induction n with
    | zero => intro l h; exact absurd h (by omega)
    | succ n ih =>
      intro l h
      cases l with
      | nil => exact h0
      | cons b l =>
        simp only [List.length_cons] at h
        cases hB : blk b with
        | true => exact hb b l hB (ih l (by omega))
        | false =>
          by_cases hE : (firstT (b :: l)).e = 0
          · have hp := (first_ok hE).pos
            exact ht b l hB hE (ih _ (by rw [List.length_drop, List.length_cons]; omega))
          · exact he b l hB hE
  exact fun l => key _ l (Nat.lt_succ_self _)

theorem pre_ok {L : List Tk} {y : LxR} : (pre L y).e = 0 ↔ y.e = 0 := by
  unfold pre
  split
  · rename_i h; simp [h]
  · rfl
theorem pre_pre (L M : List Tk) (y : LxR) : pre L (pre M y) = pre (L ++ M) y := by
  unfold pre
  by_cases h : y.e = 0
  · simp [h]
  · simp [h]
theorem pre_nil (y : LxR) : pre [] y = y := by
  unfold pre
  by_cases h : y.e = 0
  · rw [if_pos h]; cases y; simp only at h; subst h; rfl
  · rw [if_neg h]
theorem pre_yes {L : List Tk} {y : LxR} (h : y.e = 0) : pre L y = ⟨0, y.a, L ++ y.l⟩ := if_pos h
theorem pre_no {L : List Tk} {y : LxR} (h : y.e ≠ 0) : pre L y = y := if_neg h
theorem lexG_skip : ∀ (l : List UInt8) (a : Nat), lexG a l = lexG (a + (l.takeWhile blk).length) (l.dropWhile blk)
  | [], a => by simp
  | b :: l, a => by
    by_cases h : blk b = true
    · rw [lexG_blk h, List.takeWhile_cons_of_pos h, List.dropWhile_cons_of_pos h, lexG_skip l (a + 1)]
      congr 1
      simp only [List.length_cons]; omega
    · rw [List.takeWhile_cons_of_neg h, List.dropWhile_cons_of_neg h]; rfl
theorem lex_ok : ∀ (l : List UInt8) (a : Nat), ((lexG a l).e = 0 → (lexG a l).a = 0 ∧ ∃ L, (lexG a l).l = L ++ [endT (a + l.length)] ∧ L.length ≤ l.length ∧ ∀ x ∈ L, firstT x.t = ⟨0, x.k, x.t, x.n⟩ ∧ hdB blk x.t = false) ∧
    ((lexG a l).e ≠ 0 → (lexG a l).l = [] ∧ ((lexG a l).e = 3 ∨ (lexG a l).e = 13 ∨ (lexG a l).e = 15)) := by
  refine lex_ind ?_ ?_ ?_ ?_
  · intro a
    rw [lexG_nil]
    exact ⟨fun _ => ⟨rfl, [], rfl, by simp, fun x hx => nomatch hx⟩, fun h => absurd rfl h⟩
  · intro b l hb ih a
    rw [lexG_blk hb]
    obtain ⟨h1, h2⟩ := ih (a + 1)
    refine ⟨fun h => ?_, h2⟩
    obtain ⟨e1, L, e2, e3, e4⟩ := h1 h
    exact ⟨e1, L, by rw [e2, show a + 1 + l.length = a + (b :: l).length by simp only [List.length_cons]; omega], by simp only [List.length_cons]; omega, e4⟩
  · intro b l hb he a
    rw [lexG_tok hb, if_neg he]
    refine ⟨fun h => absurd h he, fun _ => ⟨rfl, ?_⟩⟩
    rcases first_err (b :: l) with h | h
    · exact absurd h he
    · exact h
  · intro b l hb he ih a
    rw [lexG_tok hb, if_pos he]
    have ok := first_ok he
    obtain ⟨q, hq⟩ := ok.pre
    have hlen : (firstT (b :: l)).t.length ≤ (b :: l).length := by have := congrArg List.length hq; simp only [List.length_append] at this; omega
    obtain ⟨h1, h2⟩ := ih (a + (firstT (b :: l)).t.length)
    constructor
    · intro h
      rw [pre_ok] at h
      obtain ⟨e1, L, e2, e3, e4⟩ := h1 h
      rw [pre_yes h]
      refine ⟨e1, (firstT (b :: l)).tk a :: L, ?_, ?_, ?_⟩
      · show [_] ++ _ = _
        rw [e2, List.length_drop, show a + (firstT (b :: l)).t.length + ((b :: l).length - (firstT (b :: l)).t.length) = a + (b :: l).length by omega]
        rfl
      · rw [List.length_drop] at e3
        have := ok.pos
        simp only [List.length_cons] at e3 hlen ⊢
        omega
      · intro x hx
        rcases List.mem_cons.1 hx with rfl | hx
        · refine ⟨?_, ?_⟩
          · show firstT (firstT (b :: l)).t = _
            rw [first_cut he (List.prefix_refl _) ok.pre]
            show _ = T1.mk 0 (firstT (b :: l)).k (firstT (b :: l)).t (firstT (b :: l)).n
            rw [← he]
          · show hdB blk (firstT (b :: l)).t = false
            rw [hd_cut (by intro h0; have := ok.pos; rw [h0] at this; exact absurd this (by simp)) ok.pre]
            exact hb
        · exact e4 x hx
    · intro h
      have h' : (lexG (a + (firstT (b :: l)).t.length) ((b :: l).drop (firstT (b :: l)).t.length)).e ≠ 0 := fun e => h (pre_ok.2 e)
      rw [pre_no h']
      exact h2 h'
/-- tokens moved by k bytes. -/
def mvT (k : Nat) (x : Tk) : Tk := ⟨x.k, x.t, x.n, x.p + k⟩
def mvR (k : Nat) (y : LxR) : LxR := if y.e = 0 then ⟨0, y.a, y.l.map (mvT k)⟩ else ⟨y.e, y.a + k, y.l.map (mvT k)⟩
theorem lex_mv (k : Nat) : ∀ (l : List UInt8) (a : Nat), lexG (a + k) l = mvR k (lexG a l) := by
  refine lex_ind ?_ ?_ ?_ ?_
  · intro a
    rw [lexG_nil, lexG_nil]
    simp [mvR, mvT, endT]
  · intro b l hb ih a
    rw [lexG_blk hb, lexG_blk hb, show a + k + 1 = (a + 1) + k by omega, ih]
  · intro b l hb he a
    rw [lexG_tok hb, lexG_tok hb, if_neg he, if_neg he]
    unfold mvR
    rw [if_neg he]
    simp
  · intro b l hb he ih a
    rw [lexG_tok hb, lexG_tok hb, if_pos he, if_pos he, show a + k + (firstT (b :: l)).t.length = (a + (firstT (b :: l)).t.length) + k by omega, ih]
    generalize lexG (a + (firstT (b :: l)).t.length) ((b :: l).drop (firstT (b :: l)).t.length) = y
    unfold pre mvR
    by_cases h : y.e = 0
    · simp [h, mvT, T1.tk]
    · simp [h]
/-- the tokens of two texts with a blank between them. -/
theorem lex_app {c : UInt8} (hc : blk c = true) (y : List UInt8) : ∀ (x : List UInt8) (a : Nat), lexG a (x ++ c :: y) = if (lexG a x).e = 0 then pre (lexG a x).l.dropLast (lexG (a + x.length + 1) y) else lexG a x := by
  obtain ⟨hc1, hc2⟩ := blk_aln hc
  refine lex_ind ?_ ?_ ?_ ?_
  · intro a
    rw [lexG_nil, List.nil_append, lexG_blk hc]
    exact (pre_nil _).symm
  · intro b l hb ih a
    rw [List.cons_append, lexG_blk hb, lexG_blk hb, ih, show a + 1 + l.length = a + (b :: l).length by simp only [List.length_cons]; omega]
  · intro b l hb he a
    have h1 : firstT (b :: (l ++ c :: y)) = firstT (b :: l) := first_app (l := b :: l) (by simp) hc1 hc2 y
    rw [List.cons_append, lexG_tok hb, lexG_tok hb, h1, if_neg he, if_neg he]
    exact (if_neg he).symm
  · intro b l hb he ih a
    have h1 : firstT (b :: (l ++ c :: y)) = firstT (b :: l) := first_app (l := b :: l) (by simp) hc1 hc2 y
    have ok := first_ok he
    obtain ⟨q, hq⟩ := ok.pre
    have hlen : (firstT (b :: l)).t.length ≤ (b :: l).length := by have := congrArg List.length hq; simp only [List.length_append] at this; omega
    rw [List.cons_append, lexG_tok hb, lexG_tok hb, h1, if_pos he, if_pos he, show b :: (l ++ c :: y) = (b :: l) ++ c :: y from rfl, List.drop_append_of_le_length hlen, ih]
    rw [show a + (firstT (b :: l)).t.length + ((b :: l).drop (firstT (b :: l)).t.length).length + 1 = a + (b :: l).length + 1 by rw [List.length_drop]; omega]
    have hne := (lex_ok ((b :: l).drop (firstT (b :: l)).t.length) (a + (firstT (b :: l)).t.length))
    generalize lexG (a + (firstT (b :: l)).t.length) ((b :: l).drop (firstT (b :: l)).t.length) = z at hne ⊢
    by_cases h : z.e = 0
    · obtain ⟨_, L, hL, _⟩ := hne.1 h
      have hz : z.l ≠ [] := by rw [hL]; simp
      rw [if_pos h, pre_yes h, if_pos rfl, pre_pre]
      congr 1
      show _ = ([_] ++ z.l).dropLast
      rw [List.dropLast_append_of_ne_nil hz]
    · rw [if_neg h, pre_no h, if_neg h]
theorem lex_blanks : ∀ (l : List UInt8) (a : Nat), l.all blk = true → lexG a l = ⟨0, 0, [endT (a + l.length)]⟩
  | [], a, _ => by rw [lexG_nil]; rfl
  | b :: l, a, h => by
    rw [List.all_cons, Bool.and_eq_true] at h
    rw [lexG_blk h.1, lex_blanks l (a + 1) h.2, show a + 1 + l.length = a + (b :: l).length by simp only [List.length_cons]; omega]
/-- where the first error is. -/
theorem lex_err : ∀ (l : List UInt8) (a : Nat), (lexG a l).e ≠ 0 → ∃ p q, l = p ++ q ∧ (lexG a l).a = ((a + p.length : Nat) : Int) ∧ q ≠ [] ∧ (∀ a', (lexG a' p).e = 0) ∧ ∀ a', lexG a' q = ⟨(lexG a l).e, a', []⟩ := by
  refine lex_ind ?_ ?_ ?_ ?_
  · intro a h
    rw [lexG_nil] at h; exact absurd rfl h
  · intro b l hb ih a h
    rw [lexG_blk hb] at h ⊢
    obtain ⟨p, q, h1, h2, h3, h4, h5⟩ := ih (a + 1) h
    refine ⟨b :: p, q, by rw [h1]; rfl, by rw [h2]; simp only [List.length_cons]; congr 1; omega, h3, fun a' => ?_, h5⟩
    rw [lexG_blk hb]; exact h4 _
  · intro b l hb he a h
    refine ⟨[], b :: l, rfl, ?_, by simp, fun a' => by rw [lexG_nil], fun a' => ?_⟩
    · rw [lexG_tok hb, if_neg he]; simp
    · rw [lexG_tok hb, lexG_tok hb, if_neg he, if_neg he]
  · intro b l hb he ih a h
    have ok := first_ok he
    rw [lexG_tok hb, if_pos he] at h ⊢
    have h' : (lexG (a + (firstT (b :: l)).t.length) ((b :: l).drop (firstT (b :: l)).t.length)).e ≠ 0 := fun e => h (pre_ok.2 e)
    rw [pre_no h']
    obtain ⟨p, q, h1, h2, h3, h4, h5⟩ := ih _ h'
    obtain ⟨r, hr⟩ := ok.pre
    have hd : (b :: l).drop (firstT (b :: l)).t.length = r := by generalize hz : (firstT (b :: l)).t = z at hr ⊢; rw [← hr]; exact List.drop_left
    rw [hd] at h1
    have hbl : b :: l = ((firstT (b :: l)).t ++ p) ++ q := by rw [List.append_assoc, ← h1, hr]
    refine ⟨(firstT (b :: l)).t ++ p, q, hbl, ?_, h3, fun a' => ?_, h5⟩
    · rw [h2, List.length_append]; congr 1; omega
    · have hc := first_cut he (p := (firstT (b :: l)).t ++ p) ⟨p, rfl⟩ ⟨q, hbl.symm⟩
      cases ht : (firstT (b :: l)).t with
      | nil => have := ok.pos; rw [ht] at this; exact absurd this (by simp)
      | cons c t =>
        have hcb : c = b := by
          have := hbl; rw [ht] at this
          simp only [List.cons_append, List.cons.injEq] at this
          exact this.1.symm
        subst hcb
        rw [ht] at hc
        rw [List.cons_append, lexG_tok hb]
        rw [List.cons_append] at hc
        rw [hc, if_pos he, pre_ok, show c :: (t ++ p) = (c :: t) ++ p from rfl, ← ht, List.drop_left]
        exact h4 _
end Go.Proofs.YtfmocnbhahcgoaaDoor
