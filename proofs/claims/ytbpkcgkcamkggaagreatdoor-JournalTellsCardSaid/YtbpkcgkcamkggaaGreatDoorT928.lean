/-
  Plain mathematics of the canonical encoding (layer 1): decimal digits, encodings, and what a reader reads, as functions on lists of bytes. No program in this text.
  Plain mathematics of the journal (layer 3): sums, forms of records, the records of a string, and what a torn list of records still gives. No program in this text.
-/
import Derived.Lib.ItoaNum
import Derived.Test.YtbpkcgkcamkggaaGreatDoorT900
set_option linter.unusedVariables false
namespace Go.Proofs.YtbpkcgkcamkggaaGreatDoor.W
open Go.Lib

def isD (c : UInt8) : Bool := decide (48 ≤ c.toNat) && decide (c.toNat ≤ 57)
def dval (l : List UInt8) : Nat := l.foldl (fun n c => 10 * n + (c.toNat - 48)) 0

theorem dval_snoc (l : List UInt8) (c : UInt8) : dval (l ++ [c]) = 10 * dval l + (c.toNat - 48) := by
  simp [dval, List.foldl_append]

theorem isD_iff (c : UInt8) : isD c = true ↔ 48 ≤ c.toNat ∧ c.toNat ≤ 57 := by simp [isD]

theorem ofNat_digit (d : Nat) (h : d < 10) : (UInt8.ofNat (48 + d)).toNat = 48 + d := by
  simp; omega

theorem dec_small {u : Nat} (h : u < 10) : decDigits u = [UInt8.ofNat (48 + u)] := by rw [decDigits, dif_pos h]
theorem dec_big {u : Nat} (h : ¬ u < 10) : decDigits u = decDigits (u / 10) ++ [UInt8.ofNat (48 + u % 10)] := by rw [decDigits, dif_neg h]

theorem dec_isD (u : Nat) : ∀ c ∈ decDigits u, isD c = true := by
  induction u using Nat.strongRecOn with
  | _ u ih =>
    by_cases h : u < 10
    · rw [dec_small h]
      intro c hc
      simp only [List.mem_singleton] at hc
      subst hc
      rw [isD_iff, ofNat_digit u h]; omega
    · rw [dec_big h]
      intro c hc
      rw [List.mem_append] at hc
      rcases hc with hc | hc
      · exact ih _ (by omega) c hc
      · simp only [List.mem_singleton] at hc
        subst hc
        rw [isD_iff, ofNat_digit (u % 10) (by omega)]; omega

theorem dec_ne (u : Nat) : decDigits u ≠ [] := by
  have h := decDigits_length u
  have h2 := nDigits_pos u
  intro e
  rw [e] at h
  simp at h
  omega

theorem dval_dec (u : Nat) : dval (decDigits u) = u := by
  induction u using Nat.strongRecOn with
  | _ u ih =>
    by_cases h : u < 10
    · rw [dec_small h]
      simp only [dval, List.foldl_cons, List.foldl_nil]
      rw [ofNat_digit u h]; omega
    · rw [dec_big h, dval_snoc, ih _ (by omega), ofNat_digit _ (by omega)]
      omega

/-- no zero ahead, unless it is the only digit. -/
theorem dec_head (u : Nat) (h : 10 ≤ u) : ∃ c t, decDigits u = c :: t ∧ c ≠ 48 := by
  induction u using Nat.strongRecOn with
  | _ u ih =>
    rw [dec_big (by omega)]
    by_cases h2 : u / 10 < 10
    · rw [dec_small h2]
      refine ⟨_, _, rfl, ?_⟩
      intro e
      have h3 := ofNat_digit (u / 10) h2
      rw [e] at h3
      have h48 : (48 : UInt8).toNat = 48 := rfl
      omega
    · obtain ⟨c, t, e, hc⟩ := ih (u / 10) (by omega) (by omega)
      exact ⟨c, _, by rw [e]; rfl, hc⟩

theorem dval_pos_of_head (c : UInt8) (t : List UInt8) (hd : isD c = true) (hc : c ≠ 48) : 1 ≤ dval (c :: t) := by
  have key : ∀ (t : List UInt8) (n : Nat), 1 ≤ n → 1 ≤ t.foldl (fun n c => 10 * n + (c.toNat - 48)) n := by
    intro t
    induction t with
    | nil => intro n h; simpa using h
    | cons a t ih => intro n h; exact ih (10 * n + (a.toNat - 48)) (by omega)
  rw [isD_iff] at hd
  have h48 : c.toNat ≠ 48 := fun e => hc (UInt8.toNat_inj.1 (by rw [e]; rfl))
  exact key t _ (show 1 ≤ 10 * 0 + (c.toNat - 48) by omega)

/-- A row of digits without a zero ahead is the numeral of its value. -/
theorem dec_dval : ∀ (n : Nat) (l : List UInt8), l.length = n → l ≠ [] → (∀ c ∈ l, isD c = true) → (1 < l.length → l.head? ≠ some 48) → decDigits (dval l) = l := by
  intro n
  induction n with
  | zero => intro l hl h; exact absurd (List.eq_nil_of_length_eq_zero hl) h
  | succ n ih =>
    intro l hl hne hd hz
    obtain ⟨i, c, rfl⟩ : ∃ i c, l = i ++ [c] := ⟨l.dropLast, l.getLast hne, (List.dropLast_concat_getLast hne).symm⟩
    have hc : isD c = true := hd c (by simp)
    have hc' := (isD_iff c).1 hc
    have hcd : UInt8.ofNat (48 + (c.toNat - 48)) = c := by
      apply UInt8.toNat_inj.1
      rw [ofNat_digit _ (by omega)]; omega
    rw [dval_snoc]
    by_cases hi : i = []
    · subst hi
      have : 10 * dval [] + (c.toNat - 48) < 10 := by simp [dval]; omega
      rw [dec_small this]
      simp only [dval, List.foldl_nil, Nat.mul_zero, Nat.zero_add, List.nil_append]
      rw [hcd]
    · obtain ⟨a, t, rfl⟩ : ∃ a t, i = a :: t := by cases i with
        | nil => exact absurd rfl hi
        | cons a t => exact ⟨a, t, rfl⟩
      have ha : a ≠ 48 := by
        intro e
        subst e
        exact hz (by simp) (by simp)
      have h1 := dval_pos_of_head a t (hd a (by simp)) ha
      have hi2 := ih (a :: t) (by simp at hl ⊢; omega) (by simp) (fun x hx => hd x (by rw [List.mem_append]; exact .inl hx)) (by intro _; simpa using ha)
      rw [dec_big (by omega)]
      have e1 : (10 * dval (a :: t) + (c.toNat - 48)) / 10 = dval (a :: t) := by omega
      have e2 : (10 * dval (a :: t) + (c.toNat - 48)) % 10 = c.toNat - 48 := by omega
      rw [e1, e2, hi2, hcd]

theorem takeWhile_dec (u : Nat) (e : UInt8) (r : List UInt8) (he : isD e = false) : (decDigits u ++ e :: r).takeWhile isD = decDigits u := by
  rw [List.takeWhile_append_of_pos (dec_isD u)]
  simp [he]

theorem dropWhile_dec (u : Nat) (e : UInt8) (r : List UInt8) (he : isD e = false) : (decDigits u ++ e :: r).dropWhile isD = e :: r := by
  rw [List.dropWhile_append_of_pos (dec_isD u)]
  simp [he]

/-! ### what is read -/

/-- the numeral of a number at the head, and the byte e behind it. -/
def rd (e : UInt8) (l : List UInt8) : Option (Nat × List UInt8) :=
  match l.dropWhile isD with
  | [] => none
  | c :: r => if c = e ∧ l.takeWhile isD ≠ [] ∧ (1 < (l.takeWhile isD).length → l.head? ≠ some 48) then some (dval (l.takeWhile isD), r) else none

theorem rd_iff (e : UInt8) (he : isD e = false) (l : List UInt8) (n : Nat) (r : List UInt8) : rd e l = some (n, r) ↔ l = decDigits n ++ e :: r := by
  constructor
  · intro h
    unfold rd at h
    split at h
    · cases h
    · rename_i c r' hd
      split at h
      · rename_i hc
        obtain ⟨rfl, hne, hz⟩ := hc
        simp only [Option.some.injEq, Prod.mk.injEq] at h
        obtain ⟨rfl, rfl⟩ := h
        have h1 : decDigits (dval (l.takeWhile isD)) = l.takeWhile isD := by
          refine dec_dval _ _ rfl hne (fun x hx => ?_) (fun hlen => ?_)
          · have hall := List.all_takeWhile (p := isD) (l := l)
            rw [List.all_eq_true] at hall
            exact hall x hx
          · have := hz hlen
            cases l with
            | nil => simp at hlen
            | cons a t =>
              by_cases ha : isD a = true
              · simpa [List.takeWhile_cons, ha] using this
              · simp [ha] at hlen
        rw [h1, ← hd, List.takeWhile_append_dropWhile]
      · cases h
  · rintro rfl
    unfold rd
    rw [dropWhile_dec n e r he, takeWhile_dec n e r he]
    have hz : 1 < (decDigits n).length → (decDigits n ++ e :: r).head? ≠ some 48 := by
      intro hl
      have h10 : 10 ≤ n := by
        rcases Nat.lt_or_ge n 10 with h | h
        · rw [dec_small h] at hl; simp at hl
        · exact h
      obtain ⟨c, t, ec, hc⟩ := dec_head n h10
      rw [ec]
      simpa using hc
    simp only [dval_dec]
    exact if_pos ⟨trivial, dec_ne n, hz⟩

def maxI : Nat := 9223372036854775807
def In64 (n : Int) : Prop := -9223372036854775808 ≤ n ∧ n ≤ 9223372036854775807

/-- .. of a number that is at most 'most'. -/
def rdM (most : Nat) (e : UInt8) (l : List UInt8) : Option (Nat × List UInt8) :=
  match rd e l with
  | some (n, r) => if n ≤ most then some (n, r) else none
  | none => none

theorem rdM_iff (most : Nat) (e : UInt8) (he : isD e = false) (l : List UInt8) (n : Nat) (r : List UInt8) : rdM most e l = some (n, r) ↔ l = decDigits n ++ e :: r ∧ n ≤ most := by
  rw [← rd_iff e he]
  unfold rdM
  cases h : rd e l with
  | none => simp
  | some x =>
    obtain ⟨m, s⟩ := x
    simp only
    split
    · simp only [Option.some.injEq, Prod.mk.injEq]
      constructor
      · rintro ⟨rfl, rfl⟩; exact ⟨⟨rfl, rfl⟩, by assumption⟩
      · rintro ⟨⟨rfl, rfl⟩, _⟩; exact ⟨rfl, rfl⟩
    · rename_i hm
      simp only [Option.some.injEq, Prod.mk.injEq]
      constructor
      · intro h; cases h
      · rintro ⟨⟨rfl, rfl⟩, h⟩; exact absurd h hm

/-- an int's numeral, and the byte e behind it. -/
def rdI (e : UInt8) (l : List UInt8) : Option (Int × List UInt8) :=
  match l with
  | 45 :: t => match rdM 9223372036854775808 e t with
    | some (0, _) => none
    | some (n, r) => some (-(n : Int), r)
    | none => none
  | _ => match rdM maxI e l with
    | some (n, r) => some ((n : Int), r)
    | none => none

theorem dec_head_isD (u : Nat) : ∃ c t, decDigits u = c :: t ∧ isD c = true := by
  cases h : decDigits u with
  | nil => exact absurd h (dec_ne u)
  | cons c t => exact ⟨c, t, rfl, dec_isD u c (by rw [h]; simp)⟩

theorem rdI_iff (e : UInt8) (he : isD e = false) (l : List UInt8) (v : Int) (r : List UInt8) : rdI e l = some (v, r) ↔ l = itoa v ++ e :: r ∧ In64 v := by
  have d45 : isD 45 = false := by decide
  by_cases h45 : ∃ t, l = 45 :: t
  · obtain ⟨t, rfl⟩ := h45
    simp only [rdI]
    constructor
    · intro h
      cases hm : rdM 9223372036854775808 e t with
      | none => rw [hm] at h; cases h
      | some x =>
        obtain ⟨n, s⟩ := x
        rw [hm] at h
        cases n with
        | zero => cases h
        | succ n =>
          simp only [Option.some.injEq, Prod.mk.injEq] at h
          obtain ⟨rfl, rfl⟩ := h
          obtain ⟨rfl, hle⟩ := (rdM_iff _ e he t _ _).1 hm
          refine ⟨?_, by unfold In64; omega⟩
          unfold itoa
          rw [if_pos (by omega)]
          have : (-((n + 1 : Nat) : Int)).natAbs = n + 1 := by omega
          rw [this]
          simp
    · rintro ⟨h, hin⟩
      have hneg : v < 0 := by
        rcases Int.lt_or_le v 0 with h' | h'
        · exact h'
        · exfalso
          unfold itoa at h
          rw [if_neg (by omega)] at h
          obtain ⟨c, t', ec, hc⟩ := dec_head_isD v.toNat
          rw [ec] at h
          simp only [List.cons_append, List.cons.injEq] at h
          rw [← h.1] at hc
          rw [d45] at hc
          cases hc
      unfold itoa at h
      rw [if_pos hneg] at h
      simp only [List.cons_append, List.cons.injEq, true_and] at h
      have hm := (rdM_iff 9223372036854775808 e he t v.natAbs r).2 ⟨h, by unfold In64 at hin; omega⟩
      rw [hm]
      obtain ⟨k, hk⟩ : ∃ k, v.natAbs = k + 1 := ⟨v.natAbs - 1, by omega⟩
      rw [hk]
      simp only [Option.some.injEq, Prod.mk.injEq, and_true]
      omega
  · have hne : ∀ t, l ≠ 45 :: t := fun t e => h45 ⟨t, e⟩
    have hrd : rdI e l = match rdM maxI e l with | some (n, r) => some ((n : Int), r) | none => none := by
      unfold rdI
      split
      · rename_i t; exact absurd rfl (hne t)
      · rfl
    rw [hrd]
    constructor
    · intro h
      cases hm : rdM maxI e l with
      | none => rw [hm] at h; cases h
      | some x =>
        obtain ⟨n, s⟩ := x
        rw [hm] at h
        simp only [Option.some.injEq, Prod.mk.injEq] at h
        obtain ⟨rfl, rfl⟩ := h
        obtain ⟨rfl, hle⟩ := (rdM_iff _ e he l _ _).1 hm
        refine ⟨?_, by unfold In64; unfold maxI at hle; omega⟩
        unfold itoa
        rw [if_neg (by omega)]
        simp
    · rintro ⟨h, hin⟩
      have hpos : ¬ v < 0 := by
        intro h'
        unfold itoa at h
        rw [if_pos h'] at h
        exact hne _ h
      unfold itoa at h
      rw [if_neg hpos] at h
      have hm := (rdM_iff maxI e he l v.toNat r).2 ⟨h, by unfold In64 at hin; unfold maxI; omega⟩
      rw [hm]
      simp only [Option.some.injEq, Prod.mk.injEq, and_true]
      omega

/-! ### encodings -/
def eInt (n : Int) : List UInt8 := itoa n ++ [59]
def eNum (n : Int) : List UInt8 := if n < 0 then [] else eInt n
def eText (s : List UInt8) : List UInt8 := decDigits s.length ++ 58 :: (s ++ [44])
def rdNum (l : List UInt8) : Option (Int × List UInt8) := match rdM maxI 59 l with | some (n, r) => some ((n : Int), r) | none => none
def rdText (l : List UInt8) : Option (List UInt8 × List UInt8) := match rdM maxI 58 l with
  | some (n, r) => if r[n]? = some 44 then some (r.take n, r.drop (n + 1)) else none
  | none => none
theorem rdNum_iff (l : List UInt8) (v : Int) (r : List UInt8) : rdNum l = some (v, r) ↔ l = eInt v ++ r ∧ 0 ≤ v ∧ In64 v := by
  unfold rdNum eInt
  constructor
  · intro h
    cases hm : rdM maxI 59 l with
    | none => rw [hm] at h; cases h
    | some x =>
      obtain ⟨n, s⟩ := x
      rw [hm] at h
      simp only [Option.some.injEq, Prod.mk.injEq] at h
      obtain ⟨rfl, rfl⟩ := h
      obtain ⟨rfl, hle⟩ := (rdM_iff _ 59 (by decide) l _ _).1 hm
      refine ⟨?_, by omega, by unfold In64; unfold maxI at hle; omega⟩
      unfold itoa
      rw [if_neg (by omega)]
      simp
  · rintro ⟨h, h0, hin⟩
    unfold itoa at h
    rw [if_neg (by omega)] at h
    have hm := (rdM_iff maxI 59 (by decide) l v.toNat r).2 ⟨by simpa using h, by unfold In64 at hin; unfold maxI; omega⟩
    rw [hm]
    simp only [Option.some.injEq, Prod.mk.injEq, and_true]
    omega

theorem rdText_iff (l : List UInt8) (hl : l.length ≤ maxI) (s r : List UInt8) : rdText l = some (s, r) ↔ l = eText s ++ r := by
  unfold rdText eText
  constructor
  · intro h
    cases hm : rdM maxI 58 l with
    | none => rw [hm] at h; cases h
    | some x =>
      obtain ⟨n, q⟩ := x
      rw [hm] at h
      obtain ⟨rfl, hle⟩ := (rdM_iff _ 58 (by decide) l _ _).1 hm
      simp only at h
      split at h
      · rename_i hq
        simp only [Option.some.injEq, Prod.mk.injEq] at h
        obtain ⟨rfl, rfl⟩ := h
        obtain ⟨hn, hg⟩ := List.getElem?_eq_some_iff.1 hq
        have hlen : (q.take n).length = n := by simp; omega
        rw [hlen]
        simp only [List.append_assoc, List.cons_append, List.nil_append]
        congr 2
        calc q = q.take n ++ q.drop n := (List.take_append_drop n q).symm
          _ = q.take n ++ (44 :: q.drop (n + 1)) := by rw [List.drop_eq_getElem_cons hn, hg]
      · cases h
  · intro h
    have hs : s.length ≤ maxI := by
      have := congrArg List.length h
      simp at this
      omega
    have hm := (rdM_iff maxI 58 (by decide) l s.length (s ++ 44 :: r)).2 ⟨by rw [h]; simp, hs⟩
    rw [hm]
    simp

/-! ### how the loop over the digits sees it -/
theorem takeWhile_at (l : List UInt8) (k : Nat) (hk : k ≤ l.length) (hd : ∀ c ∈ l.take k, isD c = true) (hs : ∀ h : k < l.length, isD l[k] = false) :
    l.takeWhile isD = l.take k ∧ l.dropWhile isD = l.drop k := by
  have h0 : l = l.take k ++ l.drop k := (List.take_append_drop k l).symm
  have h1 : (l.drop k).takeWhile isD = [] ∧ (l.drop k).dropWhile isD = l.drop k := by
    by_cases h : k < l.length
    · rw [List.drop_eq_getElem_cons h]
      have h2 := hs h
      generalize l[k] = c at h2
      simp [h2]
    · rw [List.drop_of_length_le (by omega)]
      simp
  constructor
  · calc l.takeWhile isD = (l.take k ++ l.drop k).takeWhile isD := by rw [← h0]
      _ = l.take k := by rw [List.takeWhile_append_of_pos hd, h1.1]; simp
  · calc l.dropWhile isD = (l.take k ++ l.drop k).dropWhile isD := by rw [← h0]
      _ = l.drop k := by rw [List.dropWhile_append_of_pos hd, h1.2]

theorem rd_good (e : UInt8) (l : List UInt8) (k : Nat) (hk : k < l.length) (hd : ∀ c ∈ l.take k, isD c = true) (he : isD e = false) (hc : l[k] = e) (h0 : 0 < k) (hz : k = 1 ∨ l[0] ≠ 48) :
    rd e l = some (dval (l.take k), l.drop (k + 1)) := by
  obtain ⟨e1, e2⟩ := takeWhile_at l k (by omega) hd (fun _ => by rw [hc]; exact he)
  unfold rd
  rw [e1, e2, List.drop_eq_getElem_cons hk]
  simp only
  refine if_pos ⟨hc, ?_, ?_⟩
  · intro h
    have := congrArg List.length h
    simp at this
    rcases this with h | h
    · omega
    · rw [h] at hk; simp at hk
  · intro h1
    rw [List.length_take] at h1
    rcases hz with rfl | hz
    · omega
    · rw [List.head?_eq_getElem?, List.getElem?_eq_getElem (by omega)]
      intro h2
      injection h2 with h2
      exact hz h2

theorem rd_bad (e : UInt8) (l : List UInt8) (k : Nat) (hk : k ≤ l.length) (hd : ∀ c ∈ l.take k, isD c = true) (hs : ∀ h : k < l.length, isD l[k] = false)
    (hbad : k = 0 ∨ (1 < k ∧ ∃ h : 0 < l.length, l[0] = 48) ∨ k = l.length ∨ ∃ h : k < l.length, l[k] ≠ e) : rd e l = none := by
  obtain ⟨e1, e2⟩ := takeWhile_at l k hk hd hs
  unfold rd
  rw [e1, e2]
  by_cases h : k < l.length
  · rw [List.drop_eq_getElem_cons h]
    simp only
    refine if_neg ?_
    rintro ⟨hc, hne, hz⟩
    rcases hbad with h0 | ⟨h1, h2, h3⟩ | h4 | ⟨_, h5⟩
    · subst h0; simp at hne
    · refine hz (by rw [List.length_take]; omega) ?_
      rw [List.head?_eq_getElem?, List.getElem?_eq_getElem h2, h3]
    · omega
    · exact h5 hc
  · rw [List.drop_of_length_le (by omega)]

theorem rdM_good (most : Nat) (e : UInt8) (l : List UInt8) (k : Nat) (hk : k < l.length) (hd : ∀ c ∈ l.take k, isD c = true) (he : isD e = false) (hc : l[k] = e) (h0 : 0 < k) (hz : k = 1 ∨ l[0] ≠ 48) (hm : dval (l.take k) ≤ most) :
    rdM most e l = some (dval (l.take k), l.drop (k + 1)) := by
  unfold rdM
  rw [rd_good e l k hk hd he hc h0 hz]
  exact if_pos hm
theorem rdM_bad (most : Nat) (e : UInt8) (l : List UInt8) (k : Nat) (hk : k ≤ l.length) (hd : ∀ c ∈ l.take k, isD c = true) (hs : ∀ h : k < l.length, isD l[k] = false)
    (hbad : k = 0 ∨ (1 < k ∧ ∃ h : 0 < l.length, l[0] = 48) ∨ k = l.length ∨ ∃ h : k < l.length, l[k] ≠ e) : rdM most e l = none := by
  unfold rdM
  rw [rd_bad e l k hk hd hs hbad]

theorem dval_append_ge (a b : List UInt8) : dval a ≤ dval (a ++ b) := by
  unfold dval
  rw [List.foldl_append]
  generalize a.foldl (fun n c => 10 * n + (c.toNat - 48)) 0 = n
  induction b generalizing n with
  | nil => simp
  | cons c t ih =>
    rw [List.foldl_cons]
    exact Nat.le_trans (by omega) (ih (10 * n + (c.toNat - 48)))

theorem rdM_over (most : Nat) (e : UInt8) (l : List UInt8) (k : Nat) (hd : ∀ c ∈ l.take k, isD c = true) (hm : most < dval (l.take k)) : rdM most e l = none := by
  unfold rdM
  cases h : rd e l with
  | none => rfl
  | some x =>
    obtain ⟨n, r⟩ := x
    simp only
    refine if_neg ?_
    unfold rd at h
    split at h
    · cases h
    · split at h
      · simp only [Option.some.injEq, Prod.mk.injEq] at h
        have e1 : l.takeWhile isD = l.take k ++ (l.drop k).takeWhile isD := by
          conv => lhs; rw [← List.take_append_drop k l]
          rw [List.takeWhile_append_of_pos hd]
        have := dval_append_ge (l.take k) ((l.drop k).takeWhile isD)
        rw [← e1, h.1] at this
        omega
      · cases h

theorem nDigits_le : ∀ (k u : Nat), u < 10 ^ (k + 1) → nDigits u ≤ k + 1 := by
  intro k
  induction k with
  | zero => intro u h; rw [nDigits_small (by simpa using h)]; omega
  | succ k ih =>
    intro u h
    by_cases h2 : u < 10
    · rw [nDigits_small h2]; omega
    · rw [nDigits_big h2]
      have := ih (u / 10) (by rw [Nat.pow_succ] at h; omega)
      omega
theorem dec_len (u : Nat) (h : u ≤ 9223372036854775808) : 1 ≤ (decDigits u).length ∧ (decDigits u).length ≤ 19 := by
  rw [decDigits_length]
  exact ⟨nDigits_pos u, nDigits_le 18 u (by omega)⟩
theorem itoa_len (n : Int) (h : In64 n) : 1 ≤ (itoa n).length ∧ (itoa n).length ≤ 20 := by
  unfold In64 at h
  unfold itoa
  split
  · have := dec_len n.natAbs (by omega)
    simp only [List.length_cons]
    omega
  · have := dec_len n.toNat (by omega)
    omega
theorem eInt_len (n : Int) (h : In64 n) : 2 ≤ (eInt n).length ∧ (eInt n).length ≤ 21 := by
  have := itoa_len n h
  unfold eInt
  rw [List.length_append]
  simp only [List.length_cons, List.length_nil]
  omega
theorem eText_len (s : List UInt8) (h : s.length ≤ 9223372036854775807) : s.length + 3 ≤ (eText s).length ∧ (eText s).length ≤ s.length + 21 := by
  have := dec_len s.length (by omega)
  unfold eText
  simp only [List.length_append, List.length_cons, List.length_nil]
  omega

end Go.Proofs.YtbpkcgkcamkggaaGreatDoor.W
namespace Go.Proofs.YtbpkcgkcamkggaaGreatDoor
open W

/-! ### sums -/
/-- each byte times its position, which begins at k + 1. -/
def wsum : Nat → List UInt8 → Nat
  | _, [] => 0
  | k, c :: t => c.toNat * (k + 1) + wsum (k + 1) t
def rsum (l : List UInt8) : Nat := wsum 0 l % 2147483647

theorem wsum_snoc (l : List UInt8) (c : UInt8) : ∀ k, wsum k (l ++ [c]) = wsum k l + c.toNat * (k + l.length + 1) := by
  induction l with
  | nil => intro k; simp [wsum]
  | cons a t ih =>
    intro k
    simp only [List.cons_append, wsum, ih, List.length_cons]
    rw [show k + 1 + t.length + 1 = k + (t.length + 1) + 1 by omega]
    omega
theorem rsum_lt (l : List UInt8) : rsum l < 2147483647 := Nat.mod_lt _ (by omega)
theorem rsum_snoc (l : List UInt8) (c : UInt8) : rsum (l ++ [c]) = (rsum l + c.toNat * (l.length + 1)) % 2147483647 := by
  unfold rsum
  rw [wsum_snoc, Nat.zero_add]
  omega
theorem wsum_le (l : List UInt8) : ∀ k, wsum k l ≤ l.length * (255 * (k + l.length)) := by
  induction l with
  | nil => intro k; simp [wsum]
  | cons c t ih =>
    intro k
    have h1 := ih (k + 1)
    have h2 : c.toNat * (k + 1) ≤ 255 * (k + 1) := Nat.mul_le_mul_right _ (by have := c.toNat_lt; omega)
    rw [show k + 1 + t.length = k + (t.length + 1) by omega] at h1
    simp only [wsum, List.length_cons]
    rw [Nat.add_mul, Nat.one_mul]
    omega

/-! ### forms -/
def form (r : List UInt8) : List UInt8 := eText r ++ eNum (rsum r : Int)
def forms (R : List (List UInt8)) : List UInt8 := R.flatMap form

theorem forms_cons (r : List UInt8) (R : List (List UInt8)) : forms (r :: R) = form r ++ forms R := by simp [forms]
theorem forms_append (R S : List (List UInt8)) : forms (R ++ S) = forms R ++ forms S := by simp [forms]
theorem forms_snoc (R : List (List UInt8)) (r : List UInt8) : forms (R ++ [r]) = forms R ++ form r := by simp [forms]

theorem eNum_nat (n : Nat) : eNum (n : Int) = Go.Lib.decDigits n ++ [59] := by
  unfold eNum eInt Go.Lib.itoa
  rw [if_neg (by omega), if_neg (by omega)]
  rfl
theorem form_eq (r : List UInt8) : form r = Go.Lib.decDigits r.length ++ 58 :: (r ++ 44 :: (Go.Lib.decDigits (rsum r) ++ [59])) := by
  unfold form eText
  rw [eNum_nat]
  simp
theorem dec_len' {u : Nat} (h : u ≤ 9223372036854775807) : 1 ≤ (Go.Lib.decDigits u).length ∧ (Go.Lib.decDigits u).length ≤ 19 := dec_len u (by omega)
theorem form_len (r : List UInt8) (h : r.length ≤ 9223372036854775807) : r.length + 5 ≤ (form r).length ∧ (form r).length ≤ r.length + 41 := by
  have h1 := dec_len' h
  have h2 := dec_len' (u := rsum r) (by have := rsum_lt r; omega)
  rw [form_eq]
  simp only [List.length_append, List.length_cons, List.length_nil]
  omega
theorem form_pos (r : List UInt8) : 0 < (form r).length := by
  rw [form_eq]
  simp only [List.length_append, List.length_cons]
  omega

/-! ### the records of a string -/
def rdRec (s : List UInt8) : Option (List UInt8 × List UInt8) := match rdText s with
  | none => none
  | some (t, r1) => match rdNum r1 with
    | none => none
    | some (n, r2) => if t.length ≤ 20000 ∧ n = (rsum t : Int) then some (t, r2) else none

theorem rdRec_iff (s : List UInt8) (hs : s.length ≤ maxI) (t r : List UInt8) : rdRec s = some (t, r) ↔ s = form t ++ r ∧ t.length ≤ 20000 := by
  unfold rdRec
  constructor
  · intro h
    cases h1 : rdText s with
    | none => rw [h1] at h; cases h
    | some x =>
      obtain ⟨t', r1⟩ := x
      rw [h1] at h
      simp only at h
      cases h2 : rdNum r1 with
      | none => rw [h2] at h; cases h
      | some y =>
        obtain ⟨n, r2⟩ := y
        rw [h2] at h
        simp only at h
        split at h
        · rename_i hc
          simp only [Option.some.injEq, Prod.mk.injEq] at h
          obtain ⟨rfl, rfl⟩ := h
          have e1 := (rdText_iff s hs _ _).1 h1
          have e2 := (rdNum_iff _ _ _).1 h2
          refine ⟨?_, hc.1⟩
          unfold form
          rw [e1, e2.1, hc.2, eNum, if_neg (by omega)]
          simp
        · cases h
  · rintro ⟨h, hl⟩
    unfold form at h
    have h1 : rdText s = some (t, eNum (rsum t : Int) ++ r) := (rdText_iff s hs _ _).2 (by rw [h]; simp)
    have h2 : rdNum (eNum (rsum t : Int) ++ r) = some ((rsum t : Int), r) := (rdNum_iff _ _ _).2 ⟨by
      rw [eNum, if_neg (by omega)], by omega, by have := rsum_lt t; unfold In64; omega⟩
    rw [h1]
    simp only
    rw [h2]
    simp only
    simp [hl]

def recsN : Nat → List UInt8 → List (List UInt8)
  | 0, _ => []
  | n + 1, s => match rdRec s with
    | none => []
    | some (t, r) => t :: recsN n r
def recs (s : List UInt8) : List (List UInt8) := recsN s.length s

/-- R are the records of s, and rest is what follows them. -/
structure Recs (s : List UInt8) (R : List (List UInt8)) (rest : List UInt8) : Prop where
  eq : s = forms R ++ rest
  ok : ∀ t ∈ R, t.length ≤ 20000
  no : rdRec rest = none

theorem rdRec_nil : rdRec [] = none := by
  cases h : rdRec [] with
  | none => rfl
  | some x =>
    obtain ⟨t, r⟩ := x
    have := ((rdRec_iff [] (by simp) t r).1 h).1
    have h2 := form_pos t
    have h3 := congrArg List.length this
    simp at h3
    omega
theorem recsN_spec : ∀ (n : Nat) (s : List UInt8), s.length ≤ n → s.length ≤ maxI → ∃ rest, Recs s (recsN n s) rest := by
  intro n
  induction n with
  | zero =>
    intro s hn _
    obtain rfl : s = [] := List.eq_nil_of_length_eq_zero (by omega)
    exact ⟨[], rfl, (fun t h => nomatch h), rdRec_nil⟩
  | succ n ih =>
    intro s hn hs
    unfold recsN
    cases h : rdRec s with
    | none => exact ⟨s, rfl, (fun t h => nomatch h), h⟩
    | some x =>
      obtain ⟨t, r⟩ := x
      obtain ⟨he, hl⟩ := (rdRec_iff s hs t r).1 h
      have h2 := form_pos t
      have h3 := congrArg List.length he
      rw [List.length_append] at h3
      obtain ⟨rest, hr⟩ := ih r (by omega) (by omega)
      refine ⟨rest, ?_, ?_, hr.no⟩
      · simp only [forms_cons, List.append_assoc]
        rw [← hr.eq]; exact he
      · intro u hu
        rcases List.mem_cons.1 hu with rfl | hu
        · exact hl
        · exact hr.ok u hu
theorem recs_spec (s : List UInt8) (hs : s.length ≤ maxI) : ∃ rest, Recs s (recs s) rest := recsN_spec s.length s (Nat.le_refl _) hs

theorem Recs.unique {s : List UInt8} (hs : s.length ≤ maxI) : ∀ {R R' : List (List UInt8)} {rest rest' : List UInt8}, Recs s R rest → Recs s R' rest' → R = R' ∧ rest = rest' := by
  intro R
  induction R generalizing s with
  | nil =>
    intro R' rest rest' h h'
    cases R' with
    | nil => exact ⟨rfl, by have := h.eq.symm.trans h'.eq; simpa [forms] using this⟩
    | cons t R' =>
      have h1 := h'.eq
      rw [forms_cons, List.append_assoc] at h1
      have h2 := (rdRec_iff s hs t _).2 ⟨h1, h'.ok t (by simp)⟩
      have h3 : s = rest := by simpa [forms] using h.eq
      rw [h3, h.no] at h2
      cases h2
  | cons t R ih =>
    intro R' rest rest' h h'
    have h1 := h.eq
    rw [forms_cons, List.append_assoc] at h1
    have h2 := (rdRec_iff s hs t _).2 ⟨h1, h.ok t (by simp)⟩
    cases R' with
    | nil =>
      have h3 : s = rest' := by simpa [forms] using h'.eq
      rw [h3, h'.no] at h2
      cases h2
    | cons t' R' =>
      have h1' := h'.eq
      rw [forms_cons, List.append_assoc] at h1'
      have h2' := (rdRec_iff s hs t' _).2 ⟨h1', h'.ok t' (by simp)⟩
      rw [h2] at h2'
      simp only [Option.some.injEq, Prod.mk.injEq] at h2'
      obtain ⟨rfl, e⟩ := h2'
      have hl : (forms R ++ rest).length ≤ maxI := by
        have := congrArg List.length h1
        rw [List.length_append] at this
        omega
      obtain ⟨e1, e2⟩ := ih hl (R' := R') ⟨rfl, fun u hu => h.ok u (by simp [hu]), h.no⟩ ⟨e, fun u hu => h'.ok u (by simp [hu]), h'.no⟩
      exact ⟨by rw [e1], e2⟩
theorem recs_eq {s : List UInt8} (hs : s.length ≤ maxI) {R : List (List UInt8)} {rest : List UInt8} (h : Recs s R rest) : recs s = R := by
  obtain ⟨rest', h'⟩ := recs_spec s hs
  exact (Recs.unique hs h' h).1
theorem recs_le {s : List UInt8} (hs : s.length ≤ maxI) : (forms (recs s)).length ≤ s.length := by
  obtain ⟨rest, h⟩ := recs_spec s hs
  have := congrArg List.length h.eq
  rw [List.length_append] at this
  omega
theorem recs_take {s : List UInt8} (hs : s.length ≤ maxI) : s.take (forms (recs s)).length = forms (recs s) := by
  obtain ⟨rest, h⟩ := recs_spec s hs
  conv => lhs; arg 2; rw [h.eq]
  simp
theorem forms_count {R : List (List UInt8)} : R.length ≤ (forms R).length := by
  induction R with
  | nil => simp
  | cons t R ih =>
    have := form_pos t
    rw [forms_cons, List.length_append, List.length_cons]
    omega

/-! ### torn lists -/
/-- C is A, with an end missing, and with bytes that have become 0. -/
def Dam : List UInt8 → List UInt8 → Prop
  | [], _ => True
  | _ :: _, [] => False
  | c :: C, a :: A => (c = a ∨ c = 0) ∧ Dam C A

theorem dam_nil (A : List UInt8) : Dam [] A := by unfold Dam; trivial
theorem dam_of : ∀ (C A : List UInt8), C.length ≤ A.length → (∀ i, i < C.length → bt C i = bt A i ∨ bt C i = 0) → Dam C A := by
  intro C
  induction C with
  | nil => intro A _ _; exact dam_nil A
  | cons c C ih =>
    intro A hl h
    cases A with
    | nil => simp at hl
    | cons a A =>
      refine ⟨?_, ih A (by simpa using hl) fun i hi => ?_⟩
      · simpa [bt] using h 0 (by simp)
      · simpa [bt] using h (i + 1) (by simpa using hi)
theorem dam_pre : ∀ (p : List UInt8), (∀ c ∈ p, c ≠ 0) → ∀ X A, Dam (p ++ X) A → ∃ Y, A = p ++ Y ∧ Dam X Y := by
  intro p
  induction p with
  | nil => intro _ X A h; exact ⟨A, rfl, h⟩
  | cons c p ih =>
    intro hp X A h
    cases A with
    | nil => exact absurd h (by simp [Dam])
    | cons a A =>
      obtain ⟨h1, h2⟩ := h
      obtain ⟨Y, e, hd⟩ := ih (fun x hx => hp x (by simp [hx])) X A h2
      rcases h1 with rfl | h1
      · exact ⟨Y, by rw [e]; rfl, hd⟩
      · exact absurd h1 (hp c (by simp))
theorem dam_split : ∀ (t' t X Y : List UInt8), t'.length = t.length → Dam (t' ++ X) (t ++ Y) → Dam t' t ∧ Dam X Y := by
  intro t'
  induction t' with
  | nil =>
    intro t X Y hl h
    obtain rfl : t = [] := List.eq_nil_of_length_eq_zero (by simpa using hl.symm)
    exact ⟨dam_nil _, h⟩
  | cons c t' ih =>
    intro t X Y hl h
    cases t with
    | nil => simp at hl
    | cons a t =>
      obtain ⟨h1, h2⟩ := h
      obtain ⟨h3, h4⟩ := ih t X Y (by simpa using hl) h2
      exact ⟨⟨h1, h3⟩, h4⟩
theorem dam_wsum : ∀ (t' t : List UInt8), t'.length = t.length → Dam t' t → ∀ k, wsum k t' ≤ wsum k t ∧ (wsum k t' = wsum k t → t' = t) := by
  intro t'
  induction t' with
  | nil =>
    intro t hl _ k
    obtain rfl : t = [] := List.eq_nil_of_length_eq_zero (by simpa using hl.symm)
    exact ⟨Nat.le_refl _, fun _ => rfl⟩
  | cons c t' ih =>
    intro t hl h k
    cases t with
    | nil => simp at hl
    | cons a t =>
      obtain ⟨h1, h2⟩ := h
      obtain ⟨i1, i2⟩ := ih t (by simpa using hl) h2 (k + 1)
      have hle : c.toNat ≤ a.toNat := by
        rcases h1 with rfl | rfl
        · exact Nat.le_refl _
        · exact Nat.zero_le _
      have hm : c.toNat * (k + 1) ≤ a.toNat * (k + 1) := Nat.mul_le_mul_right _ hle
      simp only [wsum]
      refine ⟨by omega, fun e => ?_⟩
      have e1 : c.toNat * (k + 1) = a.toNat * (k + 1) := by omega
      have e2 : c.toNat = a.toNat := Nat.eq_of_mul_eq_mul_right (by omega) e1
      rw [UInt8.toNat_inj.1 e2, i2 (by omega)]

theorem isD_ne {c : UInt8} (h : isD c = true) : c ≠ 0 := by
  intro e
  subst e
  exact absurd h (by decide)
theorem dec_ne0 (n : Nat) : ∀ c ∈ Go.Lib.decDigits n, c ≠ 0 := fun c hc => isD_ne (dec_isD n c hc)
/-- a numeral and the byte behind it. -/
theorem dam_dec {e : UInt8} (he : isD e = false) (h0 : e ≠ 0) {n m : Nat} {X Y : List UInt8} (h : Dam (Go.Lib.decDigits n ++ e :: X) (Go.Lib.decDigits m ++ e :: Y)) : n = m ∧ Dam X Y := by
  obtain ⟨Z, hz, hd⟩ := dam_pre (Go.Lib.decDigits n ++ [e]) (fun c hc => by
    rcases List.mem_append.1 hc with hc | hc
    · exact dec_ne0 n c hc
    · simp only [List.mem_singleton] at hc; rw [hc]; exact h0) X _ (by simpa using h)
  have h1 := (rd_iff e he (Go.Lib.decDigits m ++ e :: Y) m Y).2 rfl
  have h2 := (rd_iff e he (Go.Lib.decDigits m ++ e :: Y) n Z).2 (by rw [hz]; simp)
  rw [h1] at h2
  simp only [Option.some.injEq, Prod.mk.injEq] at h2
  obtain ⟨rfl, rfl⟩ := h2
  exact ⟨rfl, hd⟩
/-- a form that still stands is the form that stood there. -/
theorem dam_form {t' t X Y : List UInt8} (ht : t.length ≤ 400) (h : Dam (form t' ++ X) (form t ++ Y)) : t' = t ∧ Dam X Y := by
  rw [form_eq, form_eq] at h
  have h1 : Dam (Go.Lib.decDigits t'.length ++ 58 :: (t' ++ 44 :: (Go.Lib.decDigits (rsum t') ++ 59 :: X))) (Go.Lib.decDigits t.length ++ 58 :: (t ++ 44 :: (Go.Lib.decDigits (rsum t) ++ 59 :: Y))) := by simpa using h
  obtain ⟨hl, h2⟩ := dam_dec (by decide) (by decide) h1
  obtain ⟨h3, h4⟩ := dam_split t' t _ _ hl h2
  obtain ⟨hs, h5⟩ := dam_dec (by decide) (by decide) (show Dam (Go.Lib.decDigits (rsum t') ++ 59 :: X) (Go.Lib.decDigits (rsum t) ++ 59 :: Y) from h4.2)
  obtain ⟨w1, w2⟩ := dam_wsum t' t hl h3 0
  have hb := wsum_le t 0
  have hb2 : t.length * (255 * (0 + t.length)) ≤ 400 * (255 * 400) := Nat.mul_le_mul ht (by omega)
  unfold rsum at hs
  rw [Nat.mod_eq_of_lt (by omega), Nat.mod_eq_of_lt (by omega)] at hs
  exact ⟨w2 hs, h5⟩

/-- the records of a torn list are a beginning of the list. -/
theorem dam_recs : ∀ (R all : List (List UInt8)) (rest : List UInt8), (∀ t ∈ all, t.length ≤ 400) → Dam (forms R ++ rest) (forms all) → R <+: all ∧ Dam rest (forms (all.drop R.length)) := by
  intro R
  induction R with
  | nil => intro all rest _ h; exact ⟨List.nil_prefix, by simpa [forms] using h⟩
  | cons t R ih =>
    intro all rest hall h
    cases all with
    | nil =>
      exfalso
      rw [forms_cons, List.append_assoc] at h
      have := form_pos t
      cases hf : form t with
      | nil => rw [hf] at this; simp at this
      | cons c p => rw [hf] at h; exact h
    | cons a all =>
      rw [forms_cons, forms_cons, List.append_assoc] at h
      obtain ⟨rfl, h2⟩ := dam_form (hall a (by simp)) h
      obtain ⟨h3, h4⟩ := ih all rest (fun u hu => hall u (by simp [hu])) h2
      exact ⟨by simpa using h3, by simpa using h4⟩

/-- .. and have all records whose forms are whole. -/
theorem whole_recs {C : List UInt8} (hC : C.length ≤ maxI) {R : List (List UInt8)} {rest : List UInt8} (hR : Recs C R rest) {sure : List (List UInt8)} (hs : ∀ t ∈ sure, t.length ≤ 20000) {X : List UInt8} (h : C = forms sure ++ X) : sure <+: R := by
  obtain ⟨rest', hX⟩ := recs_spec X (by
    have := congrArg List.length h
    rw [List.length_append] at this
    omega)
  have : Recs C (sure ++ recs X) rest' := ⟨by rw [forms_append, List.append_assoc, ← hX.eq]; exact h, fun t ht => by
    rcases List.mem_append.1 ht with ht | ht
    · exact hs t ht
    · exact hX.ok t ht, hX.no⟩
  obtain ⟨e, _⟩ := Recs.unique hC hR this
  rw [e]
  exact List.prefix_append _ _

theorem bt_pre {A C : List UInt8} {n : Nat} (hA : n ≤ A.length) (hC : n ≤ C.length) (h : ∀ i, i < n → bt C i = bt A i) : C = A.take n ++ C.drop n := by
  have : C.take n = A.take n := by
    apply ext_bt
    · rw [List.length_take, List.length_take]; omega
    · intro i hi
      rw [List.length_take] at hi
      rw [bt_take, bt_take, if_pos (by omega), if_pos (by omega), h i (by omega)]
  rw [← this, List.take_append_drop]

/-- what a crash may leave of a file that had the records of all, of which those of sure were durable. -/
structure Torn (sure all : List (List UInt8)) (C : List UInt8) : Prop where
  lo : (forms sure).length ≤ C.length
  hi : C.length ≤ (forms all).length
  bt : ∀ i, i < C.length → bt C i = bt (forms all) i ∨ (bt C i = 0 ∧ (forms sure).length ≤ i)

theorem Torn.recs {sure all : List (List UInt8)} {C : List UInt8} (h : Torn sure all C) (hs : sure <+: all) (hall : ∀ t ∈ all, t.length ≤ 400) (hC : C.length ≤ maxI) : recs C <+: all ∧ sure <+: recs C := by
  obtain ⟨rest, hR⟩ := recs_spec C hC
  constructor
  · have hd := dam_of C (forms all) h.hi (fun i hi => (h.bt i hi).imp id And.left)
    have := hR.eq
    rw [this] at hd
    exact (dam_recs _ _ _ hall hd).1
  · obtain ⟨more, rfl⟩ := hs
    have hA : forms (sure ++ more) = forms sure ++ forms more := forms_append _ _
    have := bt_pre (A := forms (sure ++ more)) (C := C) (n := (forms sure).length) (by rw [hA, List.length_append]; omega) h.lo (fun i hi => by
      rcases h.bt i (by have := h.lo; omega) with h1 | h1
      · exact h1
      · omega)
    refine whole_recs hC hR (fun t ht => ?_) (X := C.drop (forms sure).length) ?_
    · have := hall t (by simp [ht]); omega
    · rw [hA] at this
      simpa using this
end Go.Proofs.YtbpkcgkcamkggaaGreatDoor
