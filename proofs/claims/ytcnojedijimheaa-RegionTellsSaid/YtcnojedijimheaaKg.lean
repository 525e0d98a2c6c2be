/-
  What the contracts of region say of sets of cells (the lemmas of RegionAlgebra's text Id, without its walk).
-/
import Derived.Test.YtcnojedijimheaaIb
set_option linter.unusedVariables false
set_option maxRecDepth 100000
namespace Go.Proofs.Ytcnojedijimheaa
open Go.RowKit

theorem raw_or {a b : List Rc} (ha : ∀ r ∈ a, ROk r) (hb : ∀ r ∈ b, ROk r) : FS (formO or a b) (fun x y => HasL a x y ∨ HasL b x y) := by
  obtain ⟨f1, f2⟩ := formO_is (op := or) rfl ha hb
  exact ⟨f1, fun x y => by rw [f2, Bool.or_eq_true, hasB_iff, hasB_iff]⟩
theorem raw_and {a b : List Rc} (ha : ∀ r ∈ a, ROk r) (hb : ∀ r ∈ b, ROk r) : FS (formO and a b) (fun x y => HasL a x y ∧ HasL b x y) := by
  obtain ⟨f1, f2⟩ := formO_is (op := and) rfl ha hb
  exact ⟨f1, fun x y => by rw [f2, Bool.and_eq_true, hasB_iff, hasB_iff]⟩
theorem raw_not {a b : List Rc} (ha : ∀ r ∈ a, ROk r) (hb : ∀ r ∈ b, ROk r) : FS (formO andnot a b) (fun x y => HasL a x y ∧ ¬ HasL b x y) := by
  obtain ⟨f1, f2⟩ := formO_is (op := andnot) rfl ha hb
  refine ⟨f1, fun x y => ?_⟩
  rw [f2]
  unfold andnot
  rw [Bool.and_eq_true, hasB_iff, Bool.not_eq_true', ← Bool.not_eq_true, hasB_iff]
theorem fs_nil : FS [] (fun _ _ => False) := ⟨⟨[], trivial, rfl⟩, fun x y => ⟨fun ⟨r, hr, _⟩ => (by cases hr), fun h => h.elim⟩⟩
theorem con_of {l : List Rc} {R : List Rc} {er : Int} (he : ofR l = (R, er)) (hR : R.length ≤ 1099511627776) (w' : World) (A1 : Option Addr) (c1 : Nat) (h : RIn w' A1 c1 l) : Calls Try.prog 11 #[.slice A1 l.length c1] w' (RR R R.length er w') := by
  have := gof_any A1 c1 l w' h.row h.len
  rw [he] at this
  exact this.mono fun e w2 h2 => h2.rr hR
theorem con_union {P Q R : List Rc} {er : Int} (he : opR or P Q = (R, er)) (hR : R.length ≤ 1099511627776) (w' : World) (A1 : Option Addr) (c1 : Nat) (A2 : Option Addr) (c2 : Nat) (h : RIn w' A1 c1 P) (h2 : RIn w' A2 c2 Q) : Calls Try.prog 38 #[.slice A1 P.length c1, .slice A2 Q.length c2] w' (RR R R.length er w') := by
  have := gunion_any A1 c1 A2 c2 P Q w' h h2
  rw [he] at this
  exact this.mono fun e w2 h2 => h2.rr hR
theorem con_common {P Q R : List Rc} {er : Int} (he : opR and P Q = (R, er)) (hR : R.length ≤ 1099511627776) (w' : World) (A1 : Option Addr) (c1 : Nat) (A2 : Option Addr) (c2 : Nat) (h : RIn w' A1 c1 P) (h2 : RIn w' A2 c2 Q) : Calls Try.prog 40 #[.slice A1 P.length c1, .slice A2 Q.length c2] w' (RR R R.length er w') := by
  have := gcommon_any A1 c1 A2 c2 P Q w' h h2
  rw [he] at this
  exact this.mono fun e w2 h2 => h2.rr hR
theorem con_minus {P Q R : List Rc} {er : Int} (he : opR andnot P Q = (R, er)) (hR : R.length ≤ 1099511627776) (w' : World) (A1 : Option Addr) (c1 : Nat) (A2 : Option Addr) (c2 : Nat) (h : RIn w' A1 c1 P) (h2 : RIn w' A2 c2 Q) : Calls Try.prog 30 #[.slice A1 P.length c1, .slice A2 Q.length c2] w' (RR R R.length er w') := by
  have := gminus_any A1 c1 A2 c2 P Q w' h h2
  rw [he] at this
  exact this.mono fun e w2 h2 => h2.rr hR
theorem con_same (P : List Rc) (hP : P.length ≤ 1099511627776) (w' : World) (A1 : Option Addr) (c1 : Nat) (A2 : Option Addr) (c2 : Nat) (h : RIn w' A1 c1 P) (h2 : RIn w' A2 c2 P) : Calls Try.prog 13 #[.slice A1 P.length c1, .slice A2 P.length c2] w' (BlIs true w') := by
  have := vsame_any A1 c1 A2 c2 P P w' h.row h2.row hP hP
  rw [decide_eq_true rfl] at this; exact this
theorem con_area {P : List Rc} (hP : RegP P) (w' : World) (A1 : Option Addr) (c1 : Nat) (h : RIn w' A1 c1 P) : Calls Try.prog 32 #[.slice A1 P.length c1] w' (InIs (areaL P) w') := garea_yes A1 c1 P w' h hP
theorem area_room {P : List Rc} (h : RegP P) : 0 ≤ areaL P ∧ areaL P ≤ 1000000000000000 := by
  have h1 := areaL_bd P
  have h2 := h.2
  refine ⟨h1.1, Int.le_trans h1.2 ?_⟩
  omega
theorem capR_len (F : List Rc) : (capR F).1.length ≤ 1099511627776 := by unfold capR; split <;> simp <;> omega
theorem sq_le {m n k : Nat} (h : m ≤ n * n) (hn : n ≤ k) : m ≤ k * k := Nat.le_trans h (Nat.mul_le_mul hn hn)
theorem of_two (l : List Rc) (h : l.length ≤ 4) : (∀ r ∈ l, ROk r) ∧ (ofR l).2 = 0 ∨ ¬ (∀ r ∈ l, ROk r) ∧ (ofR l).2 = 1 := by
  by_cases ho : ∀ r ∈ l, ROk r
  · refine Or.inl ⟨ho, ?_⟩
    unfold ofR
    rw [if_pos ho, if_pos (by omega), cap_le (Nat.le_trans (sq_le (k := 4) (form_sq ho) h) (by omega))]
  · refine Or.inr ⟨ho, ?_⟩
    unfold ofR
    rw [if_neg ho]
theorem ofR_len (l : List Rc) : (ofR l).1.length ≤ 1099511627776 := by
  unfold ofR
  split
  · split
    · exact capR_len _
    · simp
  · simp
end Go.Proofs.Ytcnojedijimheaa
