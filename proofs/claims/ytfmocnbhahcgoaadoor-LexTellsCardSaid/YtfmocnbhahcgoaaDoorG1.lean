/-
  Numbers over lists of bytes (layer 14): what is read, written back, is the same.
-/
import Derived.Test.YtfmocnbhahcgoaaDoorG0
set_option linter.unusedVariables false
namespace Go.Proofs.YtfmocnbhahcgoaaDoor

theorem valD_snoc (l : List UInt8) (b : UInt8) : valD (l ++ [b]) = 10 * valD l + (b.toNat - 48) := by
  unfold valD; rw [List.foldl_append]; rfl
theorem dgt_iff {b : UInt8} : dgt b = true ↔ 48 ≤ b.toNat ∧ b.toNat ≤ 57 := by unfold dgt; simp
theorem ltr_iff {b : UInt8} : ltr b = true ↔ 97 ≤ b.toNat ∧ b.toNat ≤ 122 := by unfold ltr; simp
theorem digit_byte {d : Nat} (h : d < 10) : dgt (UInt8.ofNat (48 + d)) = true ∧ (UInt8.ofNat (48 + d)).toNat - 48 = d := by
  have h1 : (UInt8.ofNat (48 + d)).toNat = 48 + d := by rw [UInt8.toNat_ofNat']; omega
  rw [dgt_iff, h1]; omega
theorem byte_digit {b : UInt8} (h : dgt b = true) : UInt8.ofNat (48 + (b.toNat - 48)) = b := by
  rw [dgt_iff] at h
  apply UInt8.toNat_inj.1
  rw [UInt8.toNat_ofNat']; omega
theorem hdB_app {f : UInt8 → Bool} {l m : List UInt8} (h : l ≠ []) : hdB f (l ++ m) = hdB f l := by
  cases l with
  | nil => exact absurd rfl h
  | cons a l => rfl
theorem dec_facts : ∀ u : Nat, Lib.decDigits u ≠ [] ∧ (Lib.decDigits u).all dgt = true ∧ valD (Lib.decDigits u) = u ∧ (1 ≤ u → hdB (· == 48) (Lib.decDigits u) = false) := by
  intro u
  induction u using Nat.strongRecOn with
  | ind u ih =>
    by_cases h : u < 10
    · obtain ⟨h1, h2⟩ := digit_byte h
      rw [Lib.decDigits_one h]
      refine ⟨by simp, by rw [List.all_cons, h1]; rfl, ?_, fun h3 => ?_⟩
      · show 10 * 0 + _ = u
        rw [h2]; omega
      · show (UInt8.ofNat (48 + u) == 48) = false
        rw [beq_eq_false_iff_ne]
        intro e
        rw [e] at h2
        have : (48 : UInt8).toNat - 48 = 0 := by decide
        omega
    · obtain ⟨i1, i2, i3, i4⟩ := ih (u / 10) (by omega)
      obtain ⟨h1, h2⟩ := digit_byte (d := u % 10) (by omega)
      have e : Lib.decDigits u = Lib.decDigits (u / 10) ++ [UInt8.ofNat (48 + u % 10)] := by rw [Lib.decDigits, dif_neg h]
      rw [e]
      refine ⟨by simp, ?_, ?_, fun _ => ?_⟩
      · rw [List.all_append, i2, List.all_cons, h1]; rfl
      · rw [valD_snoc, i3, h2]; omega
      · rw [hdB_app i1]; exact i4 (by omega)
theorem rev_ind {P : List UInt8 → Prop} (h0 : P []) (hs : ∀ l b, P l → P (l ++ [b])) (l : List UInt8) : P l := by
  have key : ∀ m : List UInt8, P m.reverse := by
    intro m
    induction m with
    | nil => exact h0
    | cons b m ih => rw [List.reverse_cons]; exact hs _ _ ih
  have := key l.reverse
  rwa [List.reverse_reverse] at this
theorem dec_valD : ∀ l : List UInt8, l ≠ [] → l.all dgt = true → hdB (· == 48) l = false → 1 ≤ valD l ∧ Lib.decDigits (valD l) = l := by
  refine rev_ind ?_ ?_
  · intro h; exact absurd rfl h
  · intro l b ih _ h1 h2
    rw [List.all_append, Bool.and_eq_true] at h1
    have hb : dgt b = true := by simpa using h1.2
    have hb' := dgt_iff.1 hb
    rw [valD_snoc]
    by_cases hl : l = []
    · subst hl
      have hne : ¬ b = 48 := by
        have : (b == 48) = false := h2
        simpa using this
      have hn : b.toNat ≠ 48 := fun e => hne (UInt8.toNat_inj.1 (by rw [e]; rfl))
      have e0 : 10 * valD [] + (b.toNat - 48) = b.toNat - 48 := by simp [valD]
      rw [e0]
      refine ⟨by omega, ?_⟩
      rw [Lib.decDigits_one (by omega), byte_digit hb]; rfl
    · rw [hdB_app hl] at h2
      obtain ⟨i1, i2⟩ := ih hl h1.1 h2
      refine ⟨by omega, ?_⟩
      rw [Lib.decDigits, dif_neg (by omega)]
      have e1 : (10 * valD l + (b.toNat - 48)) / 10 = valD l := by omega
      have e2 : (10 * valD l + (b.toNat - 48)) % 10 = b.toNat - 48 := by omega
      rw [e1, e2, i2, byte_digit hb]
theorem foldD_le (l : List UInt8) : ∀ a : Nat, a ≤ l.foldl (fun n b => 10 * n + (b.toNat - 48)) a := by
  induction l with
  | nil => intro a; exact Nat.le_refl _
  | cons b l ih => intro a; exact Nat.le_trans (show a ≤ 10 * a + (b.toNat - 48) by omega) (ih _)
theorem parse_valD : ∀ (l : List UInt8) (a : Nat), l.all dgt = true → l.foldl (fun n b => 10 * n + (b.toNat - 48)) a ≤ 1099511627776 → Lib.parseUint10 a l = .ok (l.foldl (fun n b => 10 * n + (b.toNat - 48)) a)
  | [], a, _, _ => rfl
  | b :: l, a, h1, h2 => by
    rw [List.all_cons, Bool.and_eq_true] at h1
    have hb := dgt_iff.1 h1.1
    have hle := foldD_le l (10 * a + (b.toNat - 48))
    have h2' : l.foldl (fun n b => 10 * n + (b.toNat - 48)) (10 * a + (b.toNat - 48)) ≤ 1099511627776 := h2
    show (if 48 ≤ b.toNat ∧ b.toNat ≤ 57 then _ else _) = _
    rw [if_pos hb, if_neg (by omega), if_neg (by omega), show a * 10 + (b.toNat - 48) = 10 * a + (b.toNat - 48) by omega, parse_valD l _ h1.2 h2']
    rfl
theorem numB_parts {l : List UInt8} (h : numB l = true) : l ≠ [] ∧ l.all dgt = true ∧ (l.length = 1 ∨ hdB (· == 48) l = false) ∧ valD l ≤ 1099511627776 := by
  unfold numB at h
  simp only [Bool.and_eq_true, Bool.or_eq_true, decide_eq_true_eq, Bool.not_eq_true'] at h
  refine ⟨?_, h.1.1.2, h.1.2, h.2⟩
  rintro rfl
  exact absurd h.1.1.1 (by decide)
theorem numB_mk {l : List UInt8} (h1 : l ≠ []) (h2 : l.all dgt = true) (h3 : l.length = 1 ∨ hdB (· == 48) l = false) (h4 : valD l ≤ 1099511627776) : numB l = true := by
  unfold numB
  simp only [Bool.and_eq_true, Bool.or_eq_true, decide_eq_true_eq, Bool.not_eq_true']
  refine ⟨⟨⟨?_, h2⟩, h3⟩, h4⟩
  cases l with
  | nil => exact absurd rfl h1
  | cons a l => rfl
/-- a number that is right is read, and written back as it was. -/
theorem num_read {l : List UInt8} (h : numB l = true) : Lib.atoiAll l = .ok (valD l : Int) ∧ Lib.itoa (valD l : Int) = l ∧ valD l ≤ 1099511627776 := by
  obtain ⟨h1, h2, h3, h4⟩ := numB_parts h
  refine ⟨?_, ?_, h4⟩
  · cases l with
    | nil => exact absurd rfl h1
    | cons c r =>
      have hc : dgt c = true := by rw [List.all_cons, Bool.and_eq_true] at h2; exact h2.1
      have hc' := dgt_iff.1 hc
      have hp := parse_valD (c :: r) 0 h2 h4
      have hp2 : Lib.parseUint10 0 (c :: r) = .ok (valD (c :: r)) := hp
      unfold Lib.atoiAll
      simp only
      rw [if_neg (by omega)]
      unfold Lib.parseMag
      rw [if_neg (by simp), hp2]
      simp only
      rw [if_neg (by omega), if_neg (by omega), if_neg (by omega)]
  · rw [show Lib.itoa (valD l : Int) = Lib.decDigits (valD l) by unfold Lib.itoa; rw [if_neg (by omega)]; simp]
    rcases h3 with h3 | h3
    · match l, h3 with
      | [c], _ =>
        have hc : dgt c = true := by rw [List.all_cons, Bool.and_eq_true] at h2; exact h2.1
        have hc' := dgt_iff.1 hc
        have e0 : valD [c] = c.toNat - 48 := by simp [valD]
        rw [e0, Lib.decDigits_one (by omega), byte_digit hc]
    · exact (dec_valD l h1 h2 h3).2
theorem num_back {l : List UInt8} {v : Int} (h0 : 0 ≤ v) (h1 : v ≤ 1099511627776) (h : Lib.itoa v = l) : numB l = true ∧ v = (valD l : Int) := by
  obtain ⟨n, rfl⟩ : ∃ n : Nat, v = n := ⟨v.toNat, by omega⟩
  have e : Lib.itoa (n : Int) = Lib.decDigits n := by unfold Lib.itoa; rw [if_neg (by omega)]; simp
  rw [e] at h
  subst h
  obtain ⟨d1, d2, d3, d4⟩ := dec_facts n
  refine ⟨numB_mk d1 d2 ?_ (by rw [d3]; omega), by rw [d3]⟩
  by_cases hn : n = 0
  · subst hn; left; rw [Lib.decDigits_one (by omega)]; rfl
  · exact .inr (d4 (by omega))
end Go.Proofs.YtfmocnbhahcgoaaDoor
