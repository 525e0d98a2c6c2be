/-
  Plain mathematics of the canonical encoding (layer 1): decimal digits, encodings, and what a reader reads, as functions on lists of bytes. No program in this text.
-/
import Derived.Lib.ItoaNum
namespace Go.Proofs.YtncadnmoiiiahaaDoor.W
open Go.Lib

def isD (c : UInt8) : Bool := decide (48 ≤ c.toNat) && decide (c.toNat ≤ 57)
def dval (l : List UInt8) : Nat := l.foldl (fun n c => 10 * n + (c.toNat - 48)) 0

theorem dval_snoc (l : List UInt8) (c : UInt8) : dval (l ++ [c]) = 10 * dval l + (c.toNat - 48) := by
  simp [dval, List.foldl_append]

theorem isD_iff (c : UInt8) : isD c = true ↔ 48 ≤ c.toNat ∧ c.toNat ≤ 57 := by simp [isD]

theorem ofNat_digit (d : Nat) (h : d < 10) : (UInt8.ofNat (48 + d)).toNat = 48 + d := by
  simp; omega

theorem dec_small {u : Nat} (h : u < 10) : decDigits u = [UInt8.ofNat (48 + u)] := by rw [decDigits, dif_pos h]
theorem dec_big {u : Nat} (h : ¬ u < 10) : decDigits u = decDigits (u / 10) ++ [UInt8.ofNat (48 + u % 10)] := by rw [decDigits, dif_neg h]

theorem dec_isD (u : Nat) : ∀ c ∈ decDigits u, isD c = true := by
  induction u using Nat.strongRecOn with
  | _ u ih =>
    by_cases h : u < 10
    · rw [dec_small h]
      intro c hc
      simp only [List.mem_singleton] at hc
      subst hc
      rw [isD_iff, ofNat_digit u h]; omega
    · rw [dec_big h]
      intro c hc
      rw [List.mem_append] at hc
      rcases hc with hc | hc
      · exact ih _ (by omega) c hc
      · simp only [List.mem_singleton] at hc
        subst hc
        rw [isD_iff, ofNat_digit (u % 10) (by omega)]; omega

theorem dec_ne (u : Nat) : decDigits u ≠ [] := by
  have h := decDigits_length u
  have h2 := nDigits_pos u
  intro e
  rw [e] at h
  simp at h
  omega

theorem dval_dec (u : Nat) : dval (decDigits u) = u := by
  induction u using Nat.strongRecOn with
  | _ u ih =>
    by_cases h : u < 10
    · rw [dec_small h]
      simp only [dval, List.foldl_cons, List.foldl_nil]
      rw [ofNat_digit u h]; omega
    · rw [dec_big h, dval_snoc, ih _ (by omega), ofNat_digit _ (by omega)]
      omega

theorem dec_inj {a b : Nat} (h : decDigits a = decDigits b) : a = b := by
  rw [← dval_dec a, h, dval_dec]

/-- no zero ahead, unless it is the only digit. -/
theorem dec_head (u : Nat) (h : 10 ≤ u) : ∃ c t, decDigits u = c :: t ∧ c ≠ 48 := by
  induction u using Nat.strongRecOn with
  | _ u ih =>
    rw [dec_big (by omega)]
    by_cases h2 : u / 10 < 10
    · rw [dec_small h2]
      refine ⟨_, _, rfl, ?_⟩
      intro e
      have h3 := ofNat_digit (u / 10) h2
      rw [e] at h3
      have h48 : (48 : UInt8).toNat = 48 := rfl
      omega
    · obtain ⟨c, t, e, hc⟩ := ih (u / 10) (by omega) (by omega)
      exact ⟨c, _, by rw [e]; rfl, hc⟩

theorem dval_pos_of_head (c : UInt8) (t : List UInt8) (hd : isD c = true) (hc : c ≠ 48) : 1 ≤ dval (c :: t) := by
  have key : ∀ (t : List UInt8) (n : Nat), 1 ≤ n → 1 ≤ t.foldl (fun n c => 10 * n + (c.toNat - 48)) n := by
    intro t
    induction t with
    | nil => intro n h; simpa using h
    | cons a t ih => intro n h; exact ih (10 * n + (a.toNat - 48)) (by omega)
  rw [isD_iff] at hd
  have h48 : c.toNat ≠ 48 := fun e => hc (UInt8.toNat_inj.1 (by rw [e]; rfl))
  exact key t _ (show 1 ≤ 10 * 0 + (c.toNat - 48) by omega)

/-- A row of digits without a zero ahead is the numeral of its value. -/
theorem dec_dval : ∀ (n : Nat) (l : List UInt8), l.length = n → l ≠ [] → (∀ c ∈ l, isD c = true) → (1 < l.length → l.head? ≠ some 48) → decDigits (dval l) = l := by
  intro n
  induction n with
  | zero => intro l hl h; exact absurd (List.eq_nil_of_length_eq_zero hl) h
  | succ n ih =>
    intro l hl hne hd hz
    obtain ⟨i, c, rfl⟩ : ∃ i c, l = i ++ [c] := ⟨l.dropLast, l.getLast hne, (List.dropLast_concat_getLast hne).symm⟩
    have hc : isD c = true := hd c (by simp)
    have hc' := (isD_iff c).1 hc
    have hcd : UInt8.ofNat (48 + (c.toNat - 48)) = c := by
      apply UInt8.toNat_inj.1
      rw [ofNat_digit _ (by omega)]; omega
    rw [dval_snoc]
    by_cases hi : i = []
    · subst hi
      have : 10 * dval [] + (c.toNat - 48) < 10 := by simp [dval]; omega
      rw [dec_small this]
      simp only [dval, List.foldl_nil, Nat.mul_zero, Nat.zero_add, List.nil_append]
      rw [hcd]
    · obtain ⟨a, t, rfl⟩ : ∃ a t, i = a :: t := by cases i with
        | nil => exact absurd rfl hi
        | cons a t => exact ⟨a, t, rfl⟩
      have ha : a ≠ 48 := by
        intro e
        subst e
        exact hz (by simp) (by simp)
      have h1 := dval_pos_of_head a t (hd a (by simp)) ha
      have hi2 := ih (a :: t) (by simp at hl ⊢; omega) (by simp) (fun x hx => hd x (by rw [List.mem_append]; exact .inl hx)) (by intro _; simpa using ha)
      rw [dec_big (by omega)]
      have e1 : (10 * dval (a :: t) + (c.toNat - 48)) / 10 = dval (a :: t) := by omega
      have e2 : (10 * dval (a :: t) + (c.toNat - 48)) % 10 = c.toNat - 48 := by omega
      rw [e1, e2, hi2, hcd]

theorem takeWhile_dec (u : Nat) (e : UInt8) (r : List UInt8) (he : isD e = false) : (decDigits u ++ e :: r).takeWhile isD = decDigits u := by
  rw [List.takeWhile_append_of_pos (dec_isD u)]
  simp [he]

theorem dropWhile_dec (u : Nat) (e : UInt8) (r : List UInt8) (he : isD e = false) : (decDigits u ++ e :: r).dropWhile isD = e :: r := by
  rw [List.dropWhile_append_of_pos (dec_isD u)]
  simp [he]

/-! ### what is read -/

/-- the numeral of a number at the head, and the byte e behind it. -/
def rd (e : UInt8) (l : List UInt8) : Option (Nat × List UInt8) :=
  match l.dropWhile isD with
  | [] => none
  | c :: r => if c = e ∧ l.takeWhile isD ≠ [] ∧ (1 < (l.takeWhile isD).length → l.head? ≠ some 48) then some (dval (l.takeWhile isD), r) else none

theorem rd_iff (e : UInt8) (he : isD e = false) (l : List UInt8) (n : Nat) (r : List UInt8) : rd e l = some (n, r) ↔ l = decDigits n ++ e :: r := by
  constructor
  · intro h
    unfold rd at h
    split at h
    · cases h
    · rename_i c r' hd
      split at h
      · rename_i hc
        obtain ⟨rfl, hne, hz⟩ := hc
        simp only [Option.some.injEq, Prod.mk.injEq] at h
        obtain ⟨rfl, rfl⟩ := h
        have h1 : decDigits (dval (l.takeWhile isD)) = l.takeWhile isD := by
          refine dec_dval _ _ rfl hne (fun x hx => ?_) (fun hlen => ?_)
          · have hall := List.all_takeWhile (p := isD) (l := l)
            rw [List.all_eq_true] at hall
            exact hall x hx
          · have := hz hlen
            cases l with
            | nil => simp at hlen
            | cons a t =>
              by_cases ha : isD a = true
              · simpa [List.takeWhile_cons, ha] using this
              · simp [ha] at hlen
        rw [h1, ← hd, List.takeWhile_append_dropWhile]
      · cases h
  · rintro rfl
    unfold rd
    rw [dropWhile_dec n e r he, takeWhile_dec n e r he]
    have hz : 1 < (decDigits n).length → (decDigits n ++ e :: r).head? ≠ some 48 := by
      intro hl
      have h10 : 10 ≤ n := by
        rcases Nat.lt_or_ge n 10 with h | h
        · rw [dec_small h] at hl; simp at hl
        · exact h
      obtain ⟨c, t, ec, hc⟩ := dec_head n h10
      rw [ec]
      simpa using hc
    simp only [dval_dec]
    exact if_pos ⟨trivial, dec_ne n, hz⟩

def maxI : Nat := 9223372036854775807
def In64 (n : Int) : Prop := -9223372036854775808 ≤ n ∧ n ≤ 9223372036854775807

/-- .. of a number that is at most 'most'. -/
def rdM (most : Nat) (e : UInt8) (l : List UInt8) : Option (Nat × List UInt8) :=
  match rd e l with
  | some (n, r) => if n ≤ most then some (n, r) else none
  | none => none

theorem rdM_iff (most : Nat) (e : UInt8) (he : isD e = false) (l : List UInt8) (n : Nat) (r : List UInt8) : rdM most e l = some (n, r) ↔ l = decDigits n ++ e :: r ∧ n ≤ most := by
  rw [← rd_iff e he]
  unfold rdM
  cases h : rd e l with
  | none => simp
  | some x =>
    obtain ⟨m, s⟩ := x
    simp only
    split
    · simp only [Option.some.injEq, Prod.mk.injEq]
      constructor
      · rintro ⟨rfl, rfl⟩; exact ⟨⟨rfl, rfl⟩, by assumption⟩
      · rintro ⟨⟨rfl, rfl⟩, _⟩; exact ⟨rfl, rfl⟩
    · rename_i hm
      simp only [Option.some.injEq, Prod.mk.injEq]
      constructor
      · intro h; cases h
      · rintro ⟨⟨rfl, rfl⟩, h⟩; exact absurd h hm

/-- an int's numeral, and the byte e behind it. -/
def rdI (e : UInt8) (l : List UInt8) : Option (Int × List UInt8) :=
  match l with
  | 45 :: t => match rdM 9223372036854775808 e t with
    | some (0, _) => none
    | some (n, r) => some (-(n : Int), r)
    | none => none
  | _ => match rdM maxI e l with
    | some (n, r) => some ((n : Int), r)
    | none => none

theorem dec_head_isD (u : Nat) : ∃ c t, decDigits u = c :: t ∧ isD c = true := by
  cases h : decDigits u with
  | nil => exact absurd h (dec_ne u)
  | cons c t => exact ⟨c, t, rfl, dec_isD u c (by rw [h]; simp)⟩

theorem rdI_iff (e : UInt8) (he : isD e = false) (l : List UInt8) (v : Int) (r : List UInt8) : rdI e l = some (v, r) ↔ l = itoa v ++ e :: r ∧ In64 v := by
  have d45 : isD 45 = false := by decide
  by_cases h45 : ∃ t, l = 45 :: t
  · obtain ⟨t, rfl⟩ := h45
    simp only [rdI]
    constructor
    · intro h
      cases hm : rdM 9223372036854775808 e t with
      | none => rw [hm] at h; cases h
      | some x =>
        obtain ⟨n, s⟩ := x
        rw [hm] at h
        cases n with
        | zero => cases h
        | succ n =>
          simp only [Option.some.injEq, Prod.mk.injEq] at h
          obtain ⟨rfl, rfl⟩ := h
          obtain ⟨rfl, hle⟩ := (rdM_iff _ e he t _ _).1 hm
          refine ⟨?_, by unfold In64; omega⟩
          unfold itoa
          rw [if_pos (by omega)]
          have : (-((n + 1 : Nat) : Int)).natAbs = n + 1 := by omega
          rw [this]
          simp
    · rintro ⟨h, hin⟩
      have hneg : v < 0 := by
        rcases Int.lt_or_le v 0 with h' | h'
        · exact h'
        · exfalso
          unfold itoa at h
          rw [if_neg (by omega)] at h
          obtain ⟨c, t', ec, hc⟩ := dec_head_isD v.toNat
          rw [ec] at h
          simp only [List.cons_append, List.cons.injEq] at h
          rw [← h.1] at hc
          rw [d45] at hc
          cases hc
      unfold itoa at h
      rw [if_pos hneg] at h
      simp only [List.cons_append, List.cons.injEq, true_and] at h
      have hm := (rdM_iff 9223372036854775808 e he t v.natAbs r).2 ⟨h, by unfold In64 at hin; omega⟩
      rw [hm]
      obtain ⟨k, hk⟩ : ∃ k, v.natAbs = k + 1 := ⟨v.natAbs - 1, by omega⟩
      rw [hk]
      simp only [Option.some.injEq, Prod.mk.injEq, and_true]
      omega
  · have hne : ∀ t, l ≠ 45 :: t := fun t e => h45 ⟨t, e⟩
    have hrd : rdI e l = match rdM maxI e l with | some (n, r) => some ((n : Int), r) | none => none := by
      unfold rdI
      split
      · rename_i t; exact absurd rfl (hne t)
      · rfl
    rw [hrd]
    constructor
    · intro h
      cases hm : rdM maxI e l with
      | none => rw [hm] at h; cases h
      | some x =>
        obtain ⟨n, s⟩ := x
        rw [hm] at h
        simp only [Option.some.injEq, Prod.mk.injEq] at h
        obtain ⟨rfl, rfl⟩ := h
        obtain ⟨rfl, hle⟩ := (rdM_iff _ e he l _ _).1 hm
        refine ⟨?_, by unfold In64; unfold maxI at hle; omega⟩
        unfold itoa
        rw [if_neg (by omega)]
        simp
    · rintro ⟨h, hin⟩
      have hpos : ¬ v < 0 := by
        intro h'
        unfold itoa at h
        rw [if_pos h'] at h
        exact hne _ h
      unfold itoa at h
      rw [if_neg hpos] at h
      have hm := (rdM_iff maxI e he l v.toNat r).2 ⟨h, by unfold In64 at hin; unfold maxI; omega⟩
      rw [hm]
      simp only [Option.some.injEq, Prod.mk.injEq, and_true]
      omega

/-! ### encodings -/
def eInt (n : Int) : List UInt8 := itoa n ++ [59]
def eNum (n : Int) : List UInt8 := if n < 0 then [] else eInt n
def eText (s : List UInt8) : List UInt8 := decDigits s.length ++ 58 :: (s ++ [44])
def eList {α : Type} (one : α → List UInt8) (l : List α) : List UInt8 := decDigits l.length ++ 91 :: (l.flatMap one ++ [93])

def rdNum (l : List UInt8) : Option (Int × List UInt8) := match rdM maxI 59 l with | some (n, r) => some ((n : Int), r) | none => none
def rdInt (l : List UInt8) : Option (Int × List UInt8) := rdI 59 l
def rdText (l : List UInt8) : Option (List UInt8 × List UInt8) := match rdM maxI 58 l with
  | some (n, r) => if r[n]? = some 44 then some (r.take n, r.drop (n + 1)) else none
  | none => none
def rdMany {α : Type} (one : List UInt8 → Option (α × List UInt8)) : Nat → List UInt8 → Option (List α × List UInt8)
  | 0, l => some ([], l)
  | n + 1, l => match one l with
    | none => none
    | some (x, l1) => match rdMany one n l1 with
      | none => none
      | some (xs, l2) => some (x :: xs, l2)
def rdList {α : Type} (one : List UInt8 → Option (α × List UInt8)) (l : List UInt8) : Option (List α × List UInt8) := match rdM maxI 91 l with
  | none => none
  | some (n, r) => match rdMany one n r with
    | some (xs, 93 :: r2) => some (xs, r2)
    | _ => none

theorem rdNum_iff (l : List UInt8) (v : Int) (r : List UInt8) : rdNum l = some (v, r) ↔ l = eInt v ++ r ∧ 0 ≤ v ∧ In64 v := by
  unfold rdNum eInt
  constructor
  · intro h
    cases hm : rdM maxI 59 l with
    | none => rw [hm] at h; cases h
    | some x =>
      obtain ⟨n, s⟩ := x
      rw [hm] at h
      simp only [Option.some.injEq, Prod.mk.injEq] at h
      obtain ⟨rfl, rfl⟩ := h
      obtain ⟨rfl, hle⟩ := (rdM_iff _ 59 (by decide) l _ _).1 hm
      refine ⟨?_, by omega, by unfold In64; unfold maxI at hle; omega⟩
      unfold itoa
      rw [if_neg (by omega)]
      simp
  · rintro ⟨h, h0, hin⟩
    unfold itoa at h
    rw [if_neg (by omega)] at h
    have hm := (rdM_iff maxI 59 (by decide) l v.toNat r).2 ⟨by simpa using h, by unfold In64 at hin; unfold maxI; omega⟩
    rw [hm]
    simp only [Option.some.injEq, Prod.mk.injEq, and_true]
    omega

theorem rdInt_iff (l : List UInt8) (v : Int) (r : List UInt8) : rdInt l = some (v, r) ↔ l = eInt v ++ r ∧ In64 v := by
  unfold rdInt eInt
  rw [rdI_iff 59 (by decide)]
  simp

theorem rdText_iff (l : List UInt8) (hl : l.length ≤ maxI) (s r : List UInt8) : rdText l = some (s, r) ↔ l = eText s ++ r := by
  unfold rdText eText
  constructor
  · intro h
    cases hm : rdM maxI 58 l with
    | none => rw [hm] at h; cases h
    | some x =>
      obtain ⟨n, q⟩ := x
      rw [hm] at h
      obtain ⟨rfl, hle⟩ := (rdM_iff _ 58 (by decide) l _ _).1 hm
      simp only at h
      split at h
      · rename_i hq
        simp only [Option.some.injEq, Prod.mk.injEq] at h
        obtain ⟨rfl, rfl⟩ := h
        obtain ⟨hn, hg⟩ := List.getElem?_eq_some_iff.1 hq
        have hlen : (q.take n).length = n := by simp; omega
        rw [hlen]
        simp only [List.append_assoc, List.cons_append, List.nil_append]
        congr 2
        calc q = q.take n ++ q.drop n := (List.take_append_drop n q).symm
          _ = q.take n ++ (44 :: q.drop (n + 1)) := by rw [List.drop_eq_getElem_cons hn, hg]
      · cases h
  · intro h
    have hs : s.length ≤ maxI := by
      have := congrArg List.length h
      simp at this
      omega
    have hm := (rdM_iff maxI 58 (by decide) l s.length (s ++ 44 :: r)).2 ⟨by rw [h]; simp, hs⟩
    rw [hm]
    simp

/-- 'one' reads what 'enc' writes, of the values that are right. -/
def Reads1 {α : Type} (one : List UInt8 → Option (α × List UInt8)) (enc : α → List UInt8) (ok : α → Prop) : Prop :=
  ∀ l, l.length ≤ maxI → ∀ x r, one l = some (x, r) ↔ l = enc x ++ r ∧ ok x

theorem rdMany_iff {α : Type} {one : List UInt8 → Option (α × List UInt8)} {enc : α → List UInt8} {ok : α → Prop} (h1 : Reads1 one enc ok) :
    ∀ (n : Nat) (l : List UInt8), l.length ≤ maxI → ∀ (xs : List α) (r : List UInt8), rdMany one n l = some (xs, r) ↔ l = xs.flatMap enc ++ r ∧ xs.length = n ∧ ∀ x ∈ xs, ok x := by
  intro n
  induction n with
  | zero =>
    intro l hl xs r
    simp only [rdMany, Option.some.injEq, Prod.mk.injEq]
    constructor
    · rintro ⟨rfl, rfl⟩; simp
    · rintro ⟨h, h0, _⟩
      have := List.eq_nil_of_length_eq_zero h0
      subst this
      exact ⟨rfl, by simpa using h⟩
  | succ n ih =>
    intro l hl xs r
    simp only [rdMany]
    cases ho : one l with
    | none =>
      simp only [reduceCtorEq, false_iff]
      rintro ⟨h, hlen, hok⟩
      cases xs with
      | nil => simp at hlen
      | cons x xs =>
        have := (h1 l hl x (xs.flatMap enc ++ r)).2 ⟨by rw [h]; simp, hok x (by simp)⟩
        rw [ho] at this
        cases this
    | some y =>
      obtain ⟨x, l1⟩ := y
      obtain ⟨hl1, hokx⟩ := (h1 l hl x l1).1 ho
      have hl1len : l1.length ≤ maxI := by
        have := congrArg List.length hl1
        simp at this
        omega
      simp only
      cases hm : rdMany one n l1 with
      | none =>
        simp only [reduceCtorEq, false_iff]
        rintro ⟨h, hlen, hok⟩
        cases xs with
        | nil => simp at hlen
        | cons x' xs =>
          have h2 := (h1 l hl x' (xs.flatMap enc ++ r)).2 ⟨by rw [h]; simp, hok x' (by simp)⟩
          rw [ho] at h2
          simp only [Option.some.injEq, Prod.mk.injEq] at h2
          obtain ⟨rfl, rfl⟩ := h2
          have := (ih _ hl1len xs r).2 ⟨rfl, by simpa using hlen, fun z hz => hok z (by simp [hz])⟩
          rw [hm] at this
          cases this
      | some z =>
        obtain ⟨ys, l2⟩ := z
        obtain ⟨hl2, hlen2, hok2⟩ := (ih l1 hl1len ys l2).1 hm
        simp only [Option.some.injEq, Prod.mk.injEq]
        constructor
        · rintro ⟨rfl, rfl⟩
          refine ⟨by rw [hl1, hl2]; simp, by simp [hlen2], ?_⟩
          intro z hz
          simp only [List.mem_cons] at hz
          rcases hz with rfl | hz
          · exact hokx
          · exact hok2 z hz
        · rintro ⟨h, hlen, hok⟩
          cases xs with
          | nil => simp at hlen
          | cons x' xs =>
            have h2 := (h1 l hl x' (xs.flatMap enc ++ r)).2 ⟨by rw [h]; simp, hok x' (by simp)⟩
            rw [ho] at h2
            simp only [Option.some.injEq, Prod.mk.injEq] at h2
            obtain ⟨rfl, h3⟩ := h2
            have := (ih l1 hl1len xs r).2 ⟨h3, by simpa using hlen, fun z hz => hok z (by simp [hz])⟩
            rw [hm] at this
            simp only [Option.some.injEq, Prod.mk.injEq] at this
            obtain ⟨rfl, rfl⟩ := this
            exact ⟨rfl, rfl⟩

theorem rdList_iff {α : Type} {one : List UInt8 → Option (α × List UInt8)} {enc : α → List UInt8} {ok : α → Prop} (h1 : Reads1 one enc ok)
    (l : List UInt8) (hl : l.length ≤ maxI) (xs : List α) (r : List UInt8) : rdList one l = some (xs, r) ↔ l = eList enc xs ++ r ∧ xs.length ≤ maxI ∧ ∀ x ∈ xs, ok x := by
  unfold rdList eList
  constructor
  · intro h
    cases hm : rdM maxI 91 l with
    | none => rw [hm] at h; cases h
    | some x =>
      obtain ⟨n, q⟩ := x
      rw [hm] at h
      obtain ⟨hq, hle⟩ := (rdM_iff _ 91 (by decide) l _ _).1 hm
      have hqlen : q.length ≤ maxI := by
        have := congrArg List.length hq
        simp at this
        omega
      simp only at h
      split at h
      · rename_i ys r2 hmany
        simp only [Option.some.injEq, Prod.mk.injEq] at h
        obtain ⟨rfl, rfl⟩ := h
        obtain ⟨h2, h3, h4⟩ := (rdMany_iff h1 n q hqlen _ _).1 hmany
        refine ⟨?_, by omega, h4⟩
        rw [hq, h2, h3]
        simp
      · cases h
  · rintro ⟨h, hle, hok⟩
    have hm := (rdM_iff maxI 91 (by decide) l xs.length (xs.flatMap enc ++ 93 :: r)).2 ⟨by rw [h]; simp, hle⟩
    rw [hm]
    have hqlen : (xs.flatMap enc ++ 93 :: r).length ≤ maxI := by
      have := congrArg List.length h
      simp at this
      simp
      omega
    have hmany := (rdMany_iff h1 xs.length (xs.flatMap enc ++ 93 :: r) hqlen xs (93 :: r)).2 ⟨rfl, rfl, hok⟩
    simp only [hmany]

/-! ### how the loop over the digits sees it -/
theorem takeWhile_at (l : List UInt8) (k : Nat) (hk : k ≤ l.length) (hd : ∀ c ∈ l.take k, isD c = true) (hs : ∀ h : k < l.length, isD l[k] = false) :
    l.takeWhile isD = l.take k ∧ l.dropWhile isD = l.drop k := by
  have h0 : l = l.take k ++ l.drop k := (List.take_append_drop k l).symm
  have h1 : (l.drop k).takeWhile isD = [] ∧ (l.drop k).dropWhile isD = l.drop k := by
    by_cases h : k < l.length
    · rw [List.drop_eq_getElem_cons h]
      have h2 := hs h
      generalize l[k] = c at h2
      simp [h2]
    · rw [List.drop_of_length_le (by omega)]
      simp
  constructor
  · calc l.takeWhile isD = (l.take k ++ l.drop k).takeWhile isD := by rw [← h0]
      _ = l.take k := by rw [List.takeWhile_append_of_pos hd, h1.1]; simp
  · calc l.dropWhile isD = (l.take k ++ l.drop k).dropWhile isD := by rw [← h0]
      _ = l.drop k := by rw [List.dropWhile_append_of_pos hd, h1.2]

theorem rd_good (e : UInt8) (l : List UInt8) (k : Nat) (hk : k < l.length) (hd : ∀ c ∈ l.take k, isD c = true) (he : isD e = false) (hc : l[k] = e) (h0 : 0 < k) (hz : k = 1 ∨ l[0] ≠ 48) :
    rd e l = some (dval (l.take k), l.drop (k + 1)) := by
  obtain ⟨e1, e2⟩ := takeWhile_at l k (by omega) hd (fun _ => by rw [hc]; exact he)
  unfold rd
  rw [e1, e2, List.drop_eq_getElem_cons hk]
  simp only
  refine if_pos ⟨hc, ?_, ?_⟩
  · intro h
    have := congrArg List.length h
    simp at this
    rcases this with h | h
    · omega
    · rw [h] at hk; simp at hk
  · intro h1
    rw [List.length_take] at h1
    rcases hz with rfl | hz
    · omega
    · rw [List.head?_eq_getElem?, List.getElem?_eq_getElem (by omega)]
      intro h2
      injection h2 with h2
      exact hz h2

theorem rd_bad (e : UInt8) (l : List UInt8) (k : Nat) (hk : k ≤ l.length) (hd : ∀ c ∈ l.take k, isD c = true) (hs : ∀ h : k < l.length, isD l[k] = false)
    (hbad : k = 0 ∨ (1 < k ∧ ∃ h : 0 < l.length, l[0] = 48) ∨ k = l.length ∨ ∃ h : k < l.length, l[k] ≠ e) : rd e l = none := by
  obtain ⟨e1, e2⟩ := takeWhile_at l k hk hd hs
  unfold rd
  rw [e1, e2]
  by_cases h : k < l.length
  · rw [List.drop_eq_getElem_cons h]
    simp only
    refine if_neg ?_
    rintro ⟨hc, hne, hz⟩
    rcases hbad with h0 | ⟨h1, h2, h3⟩ | h4 | ⟨_, h5⟩
    · subst h0; simp at hne
    · refine hz (by rw [List.length_take]; omega) ?_
      rw [List.head?_eq_getElem?, List.getElem?_eq_getElem h2, h3]
    · omega
    · exact h5 hc
  · rw [List.drop_of_length_le (by omega)]

theorem rdM_good (most : Nat) (e : UInt8) (l : List UInt8) (k : Nat) (hk : k < l.length) (hd : ∀ c ∈ l.take k, isD c = true) (he : isD e = false) (hc : l[k] = e) (h0 : 0 < k) (hz : k = 1 ∨ l[0] ≠ 48) (hm : dval (l.take k) ≤ most) :
    rdM most e l = some (dval (l.take k), l.drop (k + 1)) := by
  unfold rdM
  rw [rd_good e l k hk hd he hc h0 hz]
  exact if_pos hm
theorem rdM_bad (most : Nat) (e : UInt8) (l : List UInt8) (k : Nat) (hk : k ≤ l.length) (hd : ∀ c ∈ l.take k, isD c = true) (hs : ∀ h : k < l.length, isD l[k] = false)
    (hbad : k = 0 ∨ (1 < k ∧ ∃ h : 0 < l.length, l[0] = 48) ∨ k = l.length ∨ ∃ h : k < l.length, l[k] ≠ e) : rdM most e l = none := by
  unfold rdM
  rw [rd_bad e l k hk hd hs hbad]

theorem dval_append_ge (a b : List UInt8) : dval a ≤ dval (a ++ b) := by
  unfold dval
  rw [List.foldl_append]
  generalize a.foldl (fun n c => 10 * n + (c.toNat - 48)) 0 = n
  induction b generalizing n with
  | nil => simp
  | cons c t ih =>
    rw [List.foldl_cons]
    exact Nat.le_trans (by omega) (ih (10 * n + (c.toNat - 48)))

theorem rdM_over (most : Nat) (e : UInt8) (l : List UInt8) (k : Nat) (hd : ∀ c ∈ l.take k, isD c = true) (hm : most < dval (l.take k)) : rdM most e l = none := by
  unfold rdM
  cases h : rd e l with
  | none => rfl
  | some x =>
    obtain ⟨n, r⟩ := x
    simp only
    refine if_neg ?_
    unfold rd at h
    split at h
    · cases h
    · split at h
      · simp only [Option.some.injEq, Prod.mk.injEq] at h
        have e1 : l.takeWhile isD = l.take k ++ (l.drop k).takeWhile isD := by
          conv => lhs; rw [← List.take_append_drop k l]
          rw [List.takeWhile_append_of_pos hd]
        have := dval_append_ge (l.take k) ((l.drop k).takeWhile isD)
        rw [← e1, h.1] at this
        omega
      · cases h

theorem nDigits_le : ∀ (k u : Nat), u < 10 ^ (k + 1) → nDigits u ≤ k + 1 := by
  intro k
  induction k with
  | zero => intro u h; rw [nDigits_small (by simpa using h)]; omega
  | succ k ih =>
    intro u h
    by_cases h2 : u < 10
    · rw [nDigits_small h2]; omega
    · rw [nDigits_big h2]
      have := ih (u / 10) (by rw [Nat.pow_succ] at h; omega)
      omega
theorem dec_len (u : Nat) (h : u ≤ 9223372036854775808) : 1 ≤ (decDigits u).length ∧ (decDigits u).length ≤ 19 := by
  rw [decDigits_length]
  exact ⟨nDigits_pos u, nDigits_le 18 u (by omega)⟩
theorem itoa_len (n : Int) (h : In64 n) : 1 ≤ (itoa n).length ∧ (itoa n).length ≤ 20 := by
  unfold In64 at h
  unfold itoa
  split
  · have := dec_len n.natAbs (by omega)
    simp only [List.length_cons]
    omega
  · have := dec_len n.toNat (by omega)
    omega
theorem eInt_len (n : Int) (h : In64 n) : 2 ≤ (eInt n).length ∧ (eInt n).length ≤ 21 := by
  have := itoa_len n h
  unfold eInt
  rw [List.length_append]
  simp only [List.length_cons, List.length_nil]
  omega
theorem eText_len (s : List UInt8) (h : s.length ≤ 9223372036854775807) : s.length + 3 ≤ (eText s).length ∧ (eText s).length ≤ s.length + 21 := by
  have := dec_len s.length (by omega)
  unfold eText
  simp only [List.length_append, List.length_cons, List.length_nil]
  omega

theorem reads_int : Reads1 rdInt eInt In64 := fun l _ x r => rdInt_iff l x r
theorem reads_text : Reads1 rdText eText (fun _ => True) := fun l hl x r => by rw [rdText_iff l hl]; simp

end Go.Proofs.YtncadnmoiiiahaaDoor.W
