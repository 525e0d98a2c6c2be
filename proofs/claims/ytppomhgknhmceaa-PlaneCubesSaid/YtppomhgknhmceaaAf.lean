/-
  Contracts of the program's layer 9, 3: Has, Volume, Section, Same.
-/
import Derived.Test.YtppomhgknhmceaaAe
import Derived.Test.YtppomhgknhmceaaIh
import Derived.Test.YtppomhgknhmceaaIb
import Derived.Shelf.Abstract
set_option linter.unusedVariables false
set_option maxRecDepth 100000
namespace Go.Proofs.Ytppomhgknhmceaa
open Go.RowKit

theorem bright_yes {A : Option Addr} {cap : Nat} {S : List Sl} {w : World} (h : SIn w A cap S) (hs : SolP S) : Calls Try.prog 23 #[.slice A S.length cap] w (BlIs true w) :=
  (bright_any A cap S w h).mono fun e w' ⟨b, hb, h'⟩ => by obtain rfl := hb.2 hs; exact h'
theorem bright_no {A : Option Addr} {cap : Nat} {S : List Sl} {w : World} (h : SIn w A cap S) (hs : ¬ SolP S) : Calls Try.prog 23 #[.slice A S.length cap] w (BlIs false w) :=
  (bright_any A cap S w h).mono fun e w' ⟨b, hb, h'⟩ => by
    cases b with
    | false => exact h'
    | true => exact absurd (hb.1 rfl) hs
theorem sol_reg {S : List Sl} (h : SolP S) (z : Int) : RegP (secS S z) := by
  refine ⟨sec_form h.form z, ?_⟩
  by_cases e : secS S z = []
  · rw [e]; simp
  · obtain ⟨s, hs, _, _, k⟩ := sec_mem e
    rw [← k]; exact h.rects s hs
noncomputable def hasGS (S : List Sl) (x y z : Int) : Bool := @decide (SolP S) (Classical.propDecidable _) && hasB (secS S z) x y
theorem hasGS_yes {S : List Sl} (h : SolP S) (x y z : Int) : hasGS S x y z = hasB (secS S z) x y := by unfold hasGS; rw [@decide_eq_true _ (Classical.propDecidable _) h, Bool.true_and]
theorem hasGS_no {S : List Sl} (h : ¬ SolP S) (x y z : Int) : hasGS S x y z = false := by unfold hasGS; rw [@decide_eq_false _ (Classical.propDecidable _) h, Bool.false_and]
/-! ### the volume -/
theorem volS_next (S : List Sl) (k : Nat) (h : k < S.length) : volS (S.take (k + 1)) = volS (S.take k) + areaL S[k].ar * (S[k].z1 - S[k].z0) := by
  rw [List.take_succ_eq_append_getElem h, volS_append]; simp [volS]
def Vx (p : Nat) (u : Sl) (A : Option Addr) (c : Nat) (w0 w : World) : Prop := w.cell? ⟨p, 0, none⟩ = some (.int .i64 u.z0) ∧ w.cell? ⟨p, 1, none⟩ = some (.int .i64 u.z1) ∧ w.cell? ⟨p, 2, none⟩ = some (.slice A u.ar.length c) ∧ p < w.heap.size ∧ Hid (Below w0.heap.size w0 w)
theorem Vx.go {p : Nat} {u : Sl} {A : Option Addr} {c : Nat} {w0 w w' : World} (h : Vx p u A c w0 w) (hb : Below w.heap.size w w') : Vx p u A c w0 w' := by
  obtain ⟨h0, h1, h2, h6, h8⟩ := h
  have cp := fun i => hb.cell (p := ⟨p, i, none⟩) h6
  exact ⟨(cp _).trans h0, (cp _).trans h1, (cp _).trans h2, Nat.lt_of_lt_of_le h6 hb.size, Lib.hid (h8.out.trans (hb.mono h8.out.size))⟩
theorem Vx.drewN {p : Nat} {u : Sl} {A : Option Addr} {c : Nat} {w0 w : World} (h : Vx p u A c w0 w) (n : Nat) : Vx p u A c w0 (w.drewN n) := h.go (below_drewN (Below.refl _ _) n)
noncomputable def volG (S : List Sl) : Int := @ite _ (SolP S) (Classical.propDecidable _) (volS S) 0
theorem prod_bd {a d : Int} (h0 : 0 ≤ a) (h1 : a ≤ 1099511627776) (h2 : 0 ≤ d) (h3 : d ≤ 4096) : 0 ≤ a * d ∧ a * d ≤ 4503599627370496 := by
  refine ⟨Int.mul_nonneg h0 h2, Int.le_trans (Int.mul_le_mul h1 h3 h2 (by omega)) (by decide)⟩
theorem sumN_le {n : Nat} {f : Nat → Nat} {b : Nat} (h : ∀ i, i < n → f i ≤ b) : sumN n f ≤ n * b := by
  induction n with
  | zero => simp [sumN]
  | succ n ih =>
    have h1 := ih (fun i hi => h i (by omega))
    have h2 := h n (by omega)
    have e : sumN (n + 1) f = sumN n f + f n := rfl
    rw [e, Nat.add_mul]; omega
/-- a form's area is at most that of the grid. -/
theorem form_grid {l : List Rc} (h : IsForm l) : areaL l ≤ 1099511627776 := by
  rw [form_area h]
  have : cntC 1048576 (hasD l) ≤ 1048576 * 1048576 := sumN_le (fun i _ => by
    have := sumN_le (n := 1048576) (b := 1) (f := fun y : Nat => if hasD l (i : Int) (y : Int) = true then 1 else 0) (fun j _ => by split <;> omega)
    omega)
  omega
theorem vol_bd {S : List Sl} (h : SForm S) : 0 ≤ volS S ∧ volS S ≤ S.length * 4503599627370496 := by
  have key : ∀ T : List Sl, (∀ s ∈ T, SlOk s) → 0 ≤ volS T ∧ volS T ≤ T.length * 4503599627370496 := by
    intro T
    induction T with
    | nil => intro _; simp [volS]
    | cons s T ih =>
      intro hT
      have k := ih (fun s hs => hT s (List.mem_cons_of_mem _ hs))
      have hs := hT s List.mem_cons_self
      have hh := hs.h
      unfold HOk at hh
      have h1 := prod_bd (area_nnL s.ar) (form_grid hs.form) (d := s.z1 - s.z0) (by omega) (by omega)
      rw [volS, List.length_cons]
      omega
  exact key S h.each
end Go.Proofs.Ytppomhgknhmceaa
