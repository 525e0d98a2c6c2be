/-
  Plain mathematics of the journal (layer 3): sums, forms of records, the records of a string, and what a torn list of records still gives. No program in this text.
-/
import Derived.Test.YtncadnmoiiiahaaDoorWa
import Derived.Test.YtncadnmoiiiahaaDoorDa
set_option linter.unusedVariables false
namespace Go.Proofs.YtncadnmoiiiahaaDoor
open W

/-! ### sums -/
/-- each byte times its position, which begins at k + 1. -/
def wsum : Nat → List UInt8 → Nat
  | _, [] => 0
  | k, c :: t => c.toNat * (k + 1) + wsum (k + 1) t
def rsum (l : List UInt8) : Nat := wsum 0 l % 2147483647

theorem wsum_snoc (l : List UInt8) (c : UInt8) : ∀ k, wsum k (l ++ [c]) = wsum k l + c.toNat * (k + l.length + 1) := by
  induction l with
  | nil => intro k; simp [wsum]
  | cons a t ih =>
    intro k
    simp only [List.cons_append, wsum, ih, List.length_cons]
    rw [show k + 1 + t.length + 1 = k + (t.length + 1) + 1 by omega]
    omega
theorem rsum_lt (l : List UInt8) : rsum l < 2147483647 := Nat.mod_lt _ (by omega)
theorem rsum_snoc (l : List UInt8) (c : UInt8) : rsum (l ++ [c]) = (rsum l + c.toNat * (l.length + 1)) % 2147483647 := by
  unfold rsum
  rw [wsum_snoc, Nat.zero_add]
  omega
theorem wsum_le (l : List UInt8) : ∀ k, wsum k l ≤ l.length * (255 * (k + l.length)) := by
  induction l with
  | nil => intro k; simp [wsum]
  | cons c t ih =>
    intro k
    have h1 := ih (k + 1)
    have h2 : c.toNat * (k + 1) ≤ 255 * (k + 1) := Nat.mul_le_mul_right _ (by have := c.toNat_lt; omega)
    rw [show k + 1 + t.length = k + (t.length + 1) by omega] at h1
    simp only [wsum, List.length_cons]
    rw [Nat.add_mul, Nat.one_mul]
    omega

/-! ### forms -/
def form (r : List UInt8) : List UInt8 := eText r ++ eNum (rsum r : Int)
def forms (R : List (List UInt8)) : List UInt8 := R.flatMap form

theorem forms_nil : forms [] = [] := rfl
theorem forms_cons (r : List UInt8) (R : List (List UInt8)) : forms (r :: R) = form r ++ forms R := by simp [forms]
theorem forms_append (R S : List (List UInt8)) : forms (R ++ S) = forms R ++ forms S := by simp [forms]
theorem forms_snoc (R : List (List UInt8)) (r : List UInt8) : forms (R ++ [r]) = forms R ++ form r := by simp [forms]

theorem eNum_nat (n : Nat) : eNum (n : Int) = Go.Lib.decDigits n ++ [59] := by
  unfold eNum eInt Go.Lib.itoa
  rw [if_neg (by omega), if_neg (by omega)]
  rfl
theorem form_eq (r : List UInt8) : form r = Go.Lib.decDigits r.length ++ 58 :: (r ++ 44 :: (Go.Lib.decDigits (rsum r) ++ [59])) := by
  unfold form eText
  rw [eNum_nat]
  simp
theorem dec_len' {u : Nat} (h : u ≤ 9223372036854775807) : 1 ≤ (Go.Lib.decDigits u).length ∧ (Go.Lib.decDigits u).length ≤ 19 := dec_len u (by omega)
theorem form_len (r : List UInt8) (h : r.length ≤ 9223372036854775807) : r.length + 5 ≤ (form r).length ∧ (form r).length ≤ r.length + 41 := by
  have h1 := dec_len' h
  have h2 := dec_len' (u := rsum r) (by have := rsum_lt r; omega)
  rw [form_eq]
  simp only [List.length_append, List.length_cons, List.length_nil]
  omega
theorem form_pos (r : List UInt8) : 0 < (form r).length := by
  rw [form_eq]
  simp only [List.length_append, List.length_cons]
  omega

/-! ### the records of a string -/
def rdRec (s : List UInt8) : Option (List UInt8 × List UInt8) := match rdText s with
  | none => none
  | some (t, r1) => match rdNum r1 with
    | none => none
    | some (n, r2) => if t.length ≤ 20000 ∧ n = (rsum t : Int) then some (t, r2) else none

theorem rdRec_iff (s : List UInt8) (hs : s.length ≤ maxI) (t r : List UInt8) : rdRec s = some (t, r) ↔ s = form t ++ r ∧ t.length ≤ 20000 := by
  unfold rdRec
  constructor
  · intro h
    cases h1 : rdText s with
    | none => rw [h1] at h; cases h
    | some x =>
      obtain ⟨t', r1⟩ := x
      rw [h1] at h
      simp only at h
      cases h2 : rdNum r1 with
      | none => rw [h2] at h; cases h
      | some y =>
        obtain ⟨n, r2⟩ := y
        rw [h2] at h
        simp only at h
        split at h
        · rename_i hc
          simp only [Option.some.injEq, Prod.mk.injEq] at h
          obtain ⟨rfl, rfl⟩ := h
          have e1 := (rdText_iff s hs _ _).1 h1
          have e2 := (rdNum_iff _ _ _).1 h2
          refine ⟨?_, hc.1⟩
          unfold form
          rw [e1, e2.1, hc.2, eNum, if_neg (by omega)]
          simp
        · cases h
  · rintro ⟨h, hl⟩
    unfold form at h
    have h1 : rdText s = some (t, eNum (rsum t : Int) ++ r) := (rdText_iff s hs _ _).2 (by rw [h]; simp)
    have h2 : rdNum (eNum (rsum t : Int) ++ r) = some ((rsum t : Int), r) := (rdNum_iff _ _ _).2 ⟨by
      rw [eNum, if_neg (by omega)], by omega, by have := rsum_lt t; unfold In64; omega⟩
    rw [h1]
    simp only
    rw [h2]
    simp only
    simp [hl]

def recsN : Nat → List UInt8 → List (List UInt8)
  | 0, _ => []
  | n + 1, s => match rdRec s with
    | none => []
    | some (t, r) => t :: recsN n r
def recs (s : List UInt8) : List (List UInt8) := recsN s.length s

/-- R are the records of s, and rest is what follows them. -/
structure Recs (s : List UInt8) (R : List (List UInt8)) (rest : List UInt8) : Prop where
  eq : s = forms R ++ rest
  ok : ∀ t ∈ R, t.length ≤ 20000
  no : rdRec rest = none

theorem rdRec_nil : rdRec [] = none := by
  cases h : rdRec [] with
  | none => rfl
  | some x =>
    obtain ⟨t, r⟩ := x
    have := ((rdRec_iff [] (by simp) t r).1 h).1
    have h2 := form_pos t
    have h3 := congrArg List.length this
    simp at h3
    omega
theorem recsN_spec : ∀ (n : Nat) (s : List UInt8), s.length ≤ n → s.length ≤ maxI → ∃ rest, Recs s (recsN n s) rest := by
  intro n
  induction n with
  | zero =>
    intro s hn _
    obtain rfl : s = [] := List.eq_nil_of_length_eq_zero (by omega)
    exact ⟨[], rfl, (fun t h => nomatch h), rdRec_nil⟩
  | succ n ih =>
    intro s hn hs
    unfold recsN
    cases h : rdRec s with
    | none => exact ⟨s, rfl, (fun t h => nomatch h), h⟩
    | some x =>
      obtain ⟨t, r⟩ := x
      obtain ⟨he, hl⟩ := (rdRec_iff s hs t r).1 h
      have h2 := form_pos t
      have h3 := congrArg List.length he
      rw [List.length_append] at h3
      obtain ⟨rest, hr⟩ := ih r (by omega) (by omega)
      refine ⟨rest, ?_, ?_, hr.no⟩
      · simp only [forms_cons, List.append_assoc]
        rw [← hr.eq]; exact he
      · intro u hu
        rcases List.mem_cons.1 hu with rfl | hu
        · exact hl
        · exact hr.ok u hu
theorem recs_spec (s : List UInt8) (hs : s.length ≤ maxI) : ∃ rest, Recs s (recs s) rest := recsN_spec s.length s (Nat.le_refl _) hs

theorem Recs.unique {s : List UInt8} (hs : s.length ≤ maxI) : ∀ {R R' : List (List UInt8)} {rest rest' : List UInt8}, Recs s R rest → Recs s R' rest' → R = R' ∧ rest = rest' := by
  intro R
  induction R generalizing s with
  | nil =>
    intro R' rest rest' h h'
    cases R' with
    | nil => exact ⟨rfl, by have := h.eq.symm.trans h'.eq; simpa [forms] using this⟩
    | cons t R' =>
      have h1 := h'.eq
      rw [forms_cons, List.append_assoc] at h1
      have h2 := (rdRec_iff s hs t _).2 ⟨h1, h'.ok t (by simp)⟩
      have h3 : s = rest := by simpa [forms] using h.eq
      rw [h3, h.no] at h2
      cases h2
  | cons t R ih =>
    intro R' rest rest' h h'
    have h1 := h.eq
    rw [forms_cons, List.append_assoc] at h1
    have h2 := (rdRec_iff s hs t _).2 ⟨h1, h.ok t (by simp)⟩
    cases R' with
    | nil =>
      have h3 : s = rest' := by simpa [forms] using h'.eq
      rw [h3, h'.no] at h2
      cases h2
    | cons t' R' =>
      have h1' := h'.eq
      rw [forms_cons, List.append_assoc] at h1'
      have h2' := (rdRec_iff s hs t' _).2 ⟨h1', h'.ok t' (by simp)⟩
      rw [h2] at h2'
      simp only [Option.some.injEq, Prod.mk.injEq] at h2'
      obtain ⟨rfl, e⟩ := h2'
      have hl : (forms R ++ rest).length ≤ maxI := by
        have := congrArg List.length h1
        rw [List.length_append] at this
        omega
      obtain ⟨e1, e2⟩ := ih hl (R' := R') ⟨rfl, fun u hu => h.ok u (by simp [hu]), h.no⟩ ⟨e, fun u hu => h'.ok u (by simp [hu]), h'.no⟩
      exact ⟨by rw [e1], e2⟩
theorem recs_eq {s : List UInt8} (hs : s.length ≤ maxI) {R : List (List UInt8)} {rest : List UInt8} (h : Recs s R rest) : recs s = R := by
  obtain ⟨rest', h'⟩ := recs_spec s hs
  exact (Recs.unique hs h' h).1
theorem recs_forms {R : List (List UInt8)} (hs : (forms R).length ≤ maxI) (h : ∀ t ∈ R, t.length ≤ 20000) : recs (forms R) = R :=
  recs_eq hs (rest := []) ⟨by simp, h, rdRec_nil⟩
theorem recs_ok {s : List UInt8} (hs : s.length ≤ maxI) : ∀ t ∈ recs s, t.length ≤ 20000 := by
  obtain ⟨rest, h⟩ := recs_spec s hs
  exact h.ok
theorem recs_le {s : List UInt8} (hs : s.length ≤ maxI) : (forms (recs s)).length ≤ s.length := by
  obtain ⟨rest, h⟩ := recs_spec s hs
  have := congrArg List.length h.eq
  rw [List.length_append] at this
  omega
theorem recs_take {s : List UInt8} (hs : s.length ≤ maxI) : s.take (forms (recs s)).length = forms (recs s) := by
  obtain ⟨rest, h⟩ := recs_spec s hs
  conv => lhs; arg 2; rw [h.eq]
  simp
theorem forms_count {R : List (List UInt8)} : R.length ≤ (forms R).length := by
  induction R with
  | nil => simp
  | cons t R ih =>
    have := form_pos t
    rw [forms_cons, List.length_append, List.length_cons]
    omega

/-! ### torn lists -/
/-- C is A, with an end missing, and with bytes that have become 0. -/
def Dam : List UInt8 → List UInt8 → Prop
  | [], _ => True
  | _ :: _, [] => False
  | c :: C, a :: A => (c = a ∨ c = 0) ∧ Dam C A

theorem dam_nil (A : List UInt8) : Dam [] A := by unfold Dam; trivial
theorem dam_of : ∀ (C A : List UInt8), C.length ≤ A.length → (∀ i, i < C.length → bt C i = bt A i ∨ bt C i = 0) → Dam C A := by
  intro C
  induction C with
  | nil => intro A _ _; exact dam_nil A
  | cons c C ih =>
    intro A hl h
    cases A with
    | nil => simp at hl
    | cons a A =>
      refine ⟨?_, ih A (by simpa using hl) fun i hi => ?_⟩
      · simpa [bt] using h 0 (by simp)
      · simpa [bt] using h (i + 1) (by simpa using hi)
theorem dam_pre : ∀ (p : List UInt8), (∀ c ∈ p, c ≠ 0) → ∀ X A, Dam (p ++ X) A → ∃ Y, A = p ++ Y ∧ Dam X Y := by
  intro p
  induction p with
  | nil => intro _ X A h; exact ⟨A, rfl, h⟩
  | cons c p ih =>
    intro hp X A h
    cases A with
    | nil => exact absurd h (by simp [Dam])
    | cons a A =>
      obtain ⟨h1, h2⟩ := h
      obtain ⟨Y, e, hd⟩ := ih (fun x hx => hp x (by simp [hx])) X A h2
      rcases h1 with rfl | h1
      · exact ⟨Y, by rw [e]; rfl, hd⟩
      · exact absurd h1 (hp c (by simp))
theorem dam_split : ∀ (t' t X Y : List UInt8), t'.length = t.length → Dam (t' ++ X) (t ++ Y) → Dam t' t ∧ Dam X Y := by
  intro t'
  induction t' with
  | nil =>
    intro t X Y hl h
    obtain rfl : t = [] := List.eq_nil_of_length_eq_zero (by simpa using hl.symm)
    exact ⟨dam_nil _, h⟩
  | cons c t' ih =>
    intro t X Y hl h
    cases t with
    | nil => simp at hl
    | cons a t =>
      obtain ⟨h1, h2⟩ := h
      obtain ⟨h3, h4⟩ := ih t X Y (by simpa using hl) h2
      exact ⟨⟨h1, h3⟩, h4⟩
theorem dam_wsum : ∀ (t' t : List UInt8), t'.length = t.length → Dam t' t → ∀ k, wsum k t' ≤ wsum k t ∧ (wsum k t' = wsum k t → t' = t) := by
  intro t'
  induction t' with
  | nil =>
    intro t hl _ k
    obtain rfl : t = [] := List.eq_nil_of_length_eq_zero (by simpa using hl.symm)
    exact ⟨Nat.le_refl _, fun _ => rfl⟩
  | cons c t' ih =>
    intro t hl h k
    cases t with
    | nil => simp at hl
    | cons a t =>
      obtain ⟨h1, h2⟩ := h
      obtain ⟨i1, i2⟩ := ih t (by simpa using hl) h2 (k + 1)
      have hle : c.toNat ≤ a.toNat := by
        rcases h1 with rfl | rfl
        · exact Nat.le_refl _
        · exact Nat.zero_le _
      have hm : c.toNat * (k + 1) ≤ a.toNat * (k + 1) := Nat.mul_le_mul_right _ hle
      simp only [wsum]
      refine ⟨by omega, fun e => ?_⟩
      have e1 : c.toNat * (k + 1) = a.toNat * (k + 1) := by omega
      have e2 : c.toNat = a.toNat := Nat.eq_of_mul_eq_mul_right (by omega) e1
      rw [UInt8.toNat_inj.1 e2, i2 (by omega)]

theorem isD_ne {c : UInt8} (h : isD c = true) : c ≠ 0 := by
  intro e
  subst e
  exact absurd h (by decide)
theorem dec_ne0 (n : Nat) : ∀ c ∈ Go.Lib.decDigits n, c ≠ 0 := fun c hc => isD_ne (dec_isD n c hc)
/-- a numeral and the byte behind it. -/
theorem dam_dec {e : UInt8} (he : isD e = false) (h0 : e ≠ 0) {n m : Nat} {X Y : List UInt8} (h : Dam (Go.Lib.decDigits n ++ e :: X) (Go.Lib.decDigits m ++ e :: Y)) : n = m ∧ Dam X Y := by
  obtain ⟨Z, hz, hd⟩ := dam_pre (Go.Lib.decDigits n ++ [e]) (fun c hc => by
    rcases List.mem_append.1 hc with hc | hc
    · exact dec_ne0 n c hc
    · simp only [List.mem_singleton] at hc; rw [hc]; exact h0) X _ (by simpa using h)
  have h1 := (rd_iff e he (Go.Lib.decDigits m ++ e :: Y) m Y).2 rfl
  have h2 := (rd_iff e he (Go.Lib.decDigits m ++ e :: Y) n Z).2 (by rw [hz]; simp)
  rw [h1] at h2
  simp only [Option.some.injEq, Prod.mk.injEq] at h2
  obtain ⟨rfl, rfl⟩ := h2
  exact ⟨rfl, hd⟩
/-- a form that still stands is the form that stood there. -/
theorem dam_form {t' t X Y : List UInt8} (ht : t.length ≤ 400) (h : Dam (form t' ++ X) (form t ++ Y)) : t' = t ∧ Dam X Y := by
  rw [form_eq, form_eq] at h
  have h1 : Dam (Go.Lib.decDigits t'.length ++ 58 :: (t' ++ 44 :: (Go.Lib.decDigits (rsum t') ++ 59 :: X))) (Go.Lib.decDigits t.length ++ 58 :: (t ++ 44 :: (Go.Lib.decDigits (rsum t) ++ 59 :: Y))) := by simpa using h
  obtain ⟨hl, h2⟩ := dam_dec (by decide) (by decide) h1
  obtain ⟨h3, h4⟩ := dam_split t' t _ _ hl h2
  obtain ⟨hs, h5⟩ := dam_dec (by decide) (by decide) (show Dam (Go.Lib.decDigits (rsum t') ++ 59 :: X) (Go.Lib.decDigits (rsum t) ++ 59 :: Y) from h4.2)
  obtain ⟨w1, w2⟩ := dam_wsum t' t hl h3 0
  have hb := wsum_le t 0
  have hb2 : t.length * (255 * (0 + t.length)) ≤ 400 * (255 * 400) := Nat.mul_le_mul ht (by omega)
  unfold rsum at hs
  rw [Nat.mod_eq_of_lt (by omega), Nat.mod_eq_of_lt (by omega)] at hs
  exact ⟨w2 hs, h5⟩

/-- the records of a torn list are a beginning of the list. -/
theorem dam_recs : ∀ (R all : List (List UInt8)) (rest : List UInt8), (∀ t ∈ all, t.length ≤ 400) → Dam (forms R ++ rest) (forms all) → R <+: all ∧ Dam rest (forms (all.drop R.length)) := by
  intro R
  induction R with
  | nil => intro all rest _ h; exact ⟨List.nil_prefix, by simpa [forms] using h⟩
  | cons t R ih =>
    intro all rest hall h
    cases all with
    | nil =>
      exfalso
      rw [forms_cons, List.append_assoc] at h
      have := form_pos t
      cases hf : form t with
      | nil => rw [hf] at this; simp at this
      | cons c p => rw [hf] at h; exact h
    | cons a all =>
      rw [forms_cons, forms_cons, List.append_assoc] at h
      obtain ⟨rfl, h2⟩ := dam_form (hall a (by simp)) h
      obtain ⟨h3, h4⟩ := ih all rest (fun u hu => hall u (by simp [hu])) h2
      exact ⟨by simpa using h3, by simpa using h4⟩

/-- .. and have all records whose forms are whole. -/
theorem whole_recs {C : List UInt8} (hC : C.length ≤ maxI) {R : List (List UInt8)} {rest : List UInt8} (hR : Recs C R rest) {sure : List (List UInt8)} (hs : ∀ t ∈ sure, t.length ≤ 20000) {X : List UInt8} (h : C = forms sure ++ X) : sure <+: R := by
  obtain ⟨rest', hX⟩ := recs_spec X (by
    have := congrArg List.length h
    rw [List.length_append] at this
    omega)
  have : Recs C (sure ++ recs X) rest' := ⟨by rw [forms_append, List.append_assoc, ← hX.eq]; exact h, fun t ht => by
    rcases List.mem_append.1 ht with ht | ht
    · exact hs t ht
    · exact hX.ok t ht, hX.no⟩
  obtain ⟨e, _⟩ := Recs.unique hC hR this
  rw [e]
  exact List.prefix_append _ _

theorem bt_pre {A C : List UInt8} {n : Nat} (hA : n ≤ A.length) (hC : n ≤ C.length) (h : ∀ i, i < n → bt C i = bt A i) : C = A.take n ++ C.drop n := by
  have : C.take n = A.take n := by
    apply ext_bt
    · rw [List.length_take, List.length_take]; omega
    · intro i hi
      rw [List.length_take] at hi
      rw [bt_take, bt_take, if_pos (by omega), if_pos (by omega), h i (by omega)]
  rw [← this, List.take_append_drop]

/-- what a crash may leave of a file that had the records of all, of which those of sure were durable. -/
structure Torn (sure all : List (List UInt8)) (C : List UInt8) : Prop where
  lo : (forms sure).length ≤ C.length
  hi : C.length ≤ (forms all).length
  bt : ∀ i, i < C.length → bt C i = bt (forms all) i ∨ (bt C i = 0 ∧ (forms sure).length ≤ i)

theorem Torn.recs {sure all : List (List UInt8)} {C : List UInt8} (h : Torn sure all C) (hs : sure <+: all) (hall : ∀ t ∈ all, t.length ≤ 400) (hC : C.length ≤ maxI) : recs C <+: all ∧ sure <+: recs C := by
  obtain ⟨rest, hR⟩ := recs_spec C hC
  constructor
  · have hd := dam_of C (forms all) h.hi (fun i hi => (h.bt i hi).imp id And.left)
    have := hR.eq
    rw [this] at hd
    exact (dam_recs _ _ _ hall hd).1
  · obtain ⟨more, rfl⟩ := hs
    have hA : forms (sure ++ more) = forms sure ++ forms more := forms_append _ _
    have := bt_pre (A := forms (sure ++ more)) (C := C) (n := (forms sure).length) (by rw [hA, List.length_append]; omega) h.lo (fun i hi => by
      rcases h.bt i (by have := h.lo; omega) with h1 | h1
      · exact h1
      · omega)
    refine whole_recs hC hR (fun t ht => ?_) (X := C.drop (forms sure).length) ?_
    · have := hall t (by simp [ht]); omega
    · rw [hA] at this
      simpa using this
end Go.Proofs.YtncadnmoiiiahaaDoor
