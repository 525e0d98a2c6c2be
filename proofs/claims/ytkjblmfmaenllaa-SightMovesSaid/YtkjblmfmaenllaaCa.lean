/-
  Mathematics of the laws of layer 9: what stays small.
-/
import Derived.Test.YtkjblmfmaenllaaAb
set_option linter.unusedVariables false
set_option maxRecDepth 100000
namespace Go.Proofs.Ytkjblmfmaenllaa

theorem in_sol {S : List Sl} (h : SForm S) {s : Sl} (hs : s ∈ S) : s.ar = secS S s.z0 := by
  have := (h.each s hs).h.2.1
  exact (sec_at h s hs s.z0 (Int.le_refl _) this).symm
/-- the solid of a few boxes is not too large. -/
theorem solB_small {l : List Bx} (h : ∀ b ∈ l, BOk b) (hl : l.length ≤ 14) : SolP (solB l) := by
  obtain ⟨f1, f2⟩ := solB_is h
  refine ⟨f1, by have := solB_len l; omega, fun s hs => ?_⟩
  rw [in_sol f1 hs, f2]
  unfold secB
  have h1 := form_sq (bases_ok h s.z0)
  have h2 := bases_len l s.z0
  have h3 : (basesB l s.z0).length * (basesB l s.z0).length ≤ 14 * 14 := Nat.mul_le_mul (by omega) (by omega)
  omega
theorem ofS_small {l : List Bx} (h : ∀ b ∈ l, BOk b) (hl : l.length ≤ 14) : ofS l = (solB l, 0) := by
  unfold ofS
  rw [if_pos h, if_pos (by omega)]
  exact (solB_small h hl).cap
theorem ofS_bad {l : List Bx} (h : ¬ ∀ b ∈ l, BOk b) : ofS l = ([], 1) := if_neg h
/-- a combination of the solids of a few boxes is not too large. -/
theorem solO_small {op : Bool → Bool → Bool} (h0 : op false false = false) {a b : List Bx} (ha : ∀ x ∈ a, BOk x) (hb : ∀ x ∈ b, BOk x) (hl : a.length + b.length ≤ 14) : SolP (solO op (solB a) (solB b)) := by
  obtain ⟨a1, a2⟩ := solB_is ha
  obtain ⟨b1, b2⟩ := solB_is hb
  obtain ⟨f1, f2⟩ := solO_is h0 a1 b1
  refine ⟨f1, by have := solO_len op (solB a) (solB b); have := solB_len a; have := solB_len b; omega, fun s hs => ?_⟩
  rw [in_sol f1 hs, f2]
  have e : secO op (solB a) (solB b) s.z0 = formO op (basesB a s.z0) (basesB b s.z0) := by
    unfold secO
    rw [a2, b2]
    unfold secB
    obtain ⟨p1, p2⟩ := formO_is h0 (form_ok (formL_is (bases_ok ha s.z0)).1) (form_ok (formL_is (bases_ok hb s.z0)).1)
    obtain ⟨q1, q2⟩ := formO_is h0 (bases_ok ha s.z0) (bases_ok hb s.z0)
    refine form_eq p1 q1 (fun x y => ?_)
    rw [p2, q2]
    have e1 : hasB (formL (basesB a s.z0)) x y = hasB (basesB a s.z0) x y := by rw [Bool.eq_iff_iff, hasB_iff, hasB_iff, (formL_is (bases_ok ha s.z0)).2]
    have e2 : hasB (formL (basesB b s.z0)) x y = hasB (basesB b s.z0) x y := by rw [Bool.eq_iff_iff, hasB_iff, hasB_iff, (formL_is (bases_ok hb s.z0)).2]
    rw [e1, e2]
  rw [e]
  have h1 := formO_sq op (bases_ok ha s.z0) (bases_ok hb s.z0)
  have h2 := bases_len a s.z0
  have h3 := bases_len b s.z0
  have h4 : ((basesB a s.z0).length + (basesB b s.z0).length) * ((basesB a s.z0).length + (basesB b s.z0).length) ≤ 14 * 14 := Nat.mul_le_mul (by omega) (by omega)
  omega
theorem opS_small {op : Bool → Bool → Bool} (h0 : op false false = false) {a b : List Bx} (ha : ∀ x ∈ a, BOk x) (hb : ∀ x ∈ b, BOk x) (hl : a.length + b.length ≤ 14) : opS op (solB a) (solB b) = (solO op (solB a) (solB b), 0) := by
  rw [opS_cap (solB_small ha (by omega)) (solB_small hb (by omega))]
  exact (solO_small h0 ha hb hl).cap
end Go.Proofs.Ytkjblmfmaenllaa
