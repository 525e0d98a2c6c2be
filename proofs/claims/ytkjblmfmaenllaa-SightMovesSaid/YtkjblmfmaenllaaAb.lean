/-
  Plain mathematics of solids (layer 9), 2: boxes, the solid of a list of boxes, the operations, sets of cubes, the volume. No program in this text.
-/
import Derived.Test.YtkjblmfmaenllaaAa
import Derived.Test.YtkjblmfmaenllaaIa
set_option linter.unusedVariables false
namespace Go.Proofs.Ytkjblmfmaenllaa

/-- a box: base and heights. -/
structure Bx where
  r : Rc
  z0 : Int
  z1 : Int
def BOk (b : Bx) : Prop := ROk b.r ∧ HOk b.z0 b.z1
instance (b : Bx) : Decidable (BOk b) := by unfold BOk; infer_instance
instance (l : List Bx) : Decidable (∀ b ∈ l, BOk b) := List.decidableBAll (fun b => BOk b) l
def basesB : List Bx → Int → List Rc
  | [], _ => []
  | b :: l, z => if b.z0 ≤ z ∧ z < b.z1 then b.r :: basesB l z else basesB l z
theorem bases_append (l m : List Bx) (z : Int) : basesB (l ++ m) z = basesB l z ++ basesB m z := by
  induction l with
  | nil => rfl
  | cons b l ih =>
    rw [List.cons_append, basesB, basesB, ih]
    split
    · rw [List.cons_append]
    · rfl
theorem bases_mem {l : List Bx} {z : Int} {r : Rc} : r ∈ basesB l z ↔ ∃ b ∈ l, b.r = r ∧ b.z0 ≤ z ∧ z < b.z1 := by
  induction l with
  | nil => simp [basesB]
  | cons b l ih =>
    rw [basesB]
    split
    · next c =>
      rw [List.mem_cons, ih]
      constructor
      · rintro (rfl | ⟨d, hd, k⟩)
        · exact ⟨b, List.mem_cons_self, rfl, c⟩
        · exact ⟨d, List.mem_cons_of_mem _ hd, k⟩
      · rintro ⟨d, hd, k⟩
        rcases List.mem_cons.1 hd with rfl | hd
        · exact Or.inl k.1.symm
        · exact Or.inr ⟨d, hd, k⟩
    · next c =>
      rw [ih]
      constructor
      · rintro ⟨d, hd, k⟩; exact ⟨d, List.mem_cons_of_mem _ hd, k⟩
      · rintro ⟨d, hd, k⟩
        rcases List.mem_cons.1 hd with rfl | hd
        · exact absurd k.2 c
        · exact ⟨d, hd, k⟩
theorem bases_len (l : List Bx) (z : Int) : (basesB l z).length ≤ l.length := by
  induction l with
  | nil => exact Nat.le_refl _
  | cons b l ih => rw [basesB]; split <;> simp only [List.length_cons] <;> omega
theorem bases_ok {l : List Bx} (h : ∀ b ∈ l, BOk b) (z : Int) : ∀ r ∈ basesB l z, ROk r := by
  intro r hr
  obtain ⟨b, hb, rfl, _⟩ := bases_mem.1 hr
  exact (h b hb).1
def htB (l : List Bx) : List Int := l.flatMap fun b => [b.z0, b.z1]
theorem htB_mem {l : List Bx} {z : Int} : z ∈ htB l ↔ ∃ b ∈ l, z = b.z0 ∨ z = b.z1 := by simp [htB]
theorem htB_len (l : List Bx) : (htB l).length = 2 * l.length := by
  induction l with
  | nil => rfl
  | cons b l ih => rw [show htB (b :: l) = b.z0 :: b.z1 :: htB l from rfl, List.length_cons, List.length_cons, ih, List.length_cons]; omega
theorem htB_next (l : List Bx) (k : Nat) (h : k < l.length) : htB (l.take (k + 1)) = htB (l.take k) ++ [l[k].z0, l[k].z1] := by
  unfold htB; rw [List.take_succ_eq_append_getElem h, List.flatMap_append]; simp
theorem htB_in {l : List Bx} (h : ∀ b ∈ l, BOk b) : InZ (htB l) := by
  intro z hz
  obtain ⟨b, hb, e⟩ := htB_mem.1 hz
  have := (h b hb).2
  unfold HOk at this
  omega
def secB (l : List Bx) (z : Int) : List Rc := formL (basesB l z)
theorem form_nil : formL [] = [] := by decide
theorem secB_form {l : List Bx} (h : ∀ b ∈ l, BOk b) (z : Int) : IsForm (secB l z) := (formL_is (bases_ok h z)).1
theorem bases_same {l : List Bx} {z z' : Int} (h1 : z ≤ z') (h : ∀ x ∈ htB l, ¬ (z < x ∧ x ≤ z')) : basesB l z = basesB l z' := by
  induction l with
  | nil => rfl
  | cons b l ih =>
    have e : htB (b :: l) = b.z0 :: b.z1 :: htB l := rfl
    rw [e] at h
    have k0 := h b.z0 List.mem_cons_self
    have k1 := h b.z1 (List.mem_cons_of_mem _ List.mem_cons_self)
    have ih := ih (fun x hx => h x (List.mem_cons_of_mem _ (List.mem_cons_of_mem _ hx)))
    rw [basesB, basesB, ih]
    by_cases c : b.z0 ≤ z ∧ z < b.z1
    · rw [if_pos c, if_pos (by omega)]
    · rw [if_neg c, if_neg (by omega)]
theorem bases_out {l : List Bx} {z : Int} (h : ∀ b ∈ l, ¬ (b.z0 ≤ z ∧ z < b.z1)) : basesB l z = [] := by
  induction l with
  | nil => rfl
  | cons b l ih =>
    rw [basesB, if_neg (h b List.mem_cons_self)]
    exact ih (fun d hd => h d (List.mem_cons_of_mem _ hd))
theorem chgB (l : List Bx) : Chg (secB l) (htB l) := by
  refine ⟨fun z z' h1 h2 => by unfold secB; rw [bases_same h1 h2], fun z h => ?_, fun z h => ?_⟩
  · unfold secB
    rw [bases_out (fun b hb => by have := h b.z0 (htB_mem.2 ⟨b, hb, Or.inl rfl⟩); omega), form_nil]
  · unfold secB
    rw [bases_out (fun b hb => by have := h b.z1 (htB_mem.2 ⟨b, hb, Or.inr rfl⟩); omega), form_nil]
/-- the solid of a list of boxes. -/
def solB (l : List Bx) : List Sl := solGo (secB l) [] (sortS (htB l))
theorem solB_is {l : List Bx} (h : ∀ b ∈ l, BOk b) : SForm (solB l) ∧ ∀ z, secS (solB l) z = secB l z := by
  obtain ⟨s1, s2⟩ := sortS_is (htB l)
  exact sol_is (secB_form h) s1 (fun x hx => htB_in h x ((s2 x).1 hx)) ((chgB l).of (fun z => (s2 z).symm))
def ofS (l : List Bx) : List Sl × Int := if ∀ b ∈ l, BOk b then (if l.length ≤ 200 then capS (solB l) else ([], 6)) else ([], 1)
/-! ### the operations -/
def htS (S : List Sl) : List Int := S.flatMap fun s => [s.z0, s.z1]
theorem htS_mem {S : List Sl} {z : Int} : z ∈ htS S ↔ ∃ s ∈ S, z = s.z0 ∨ z = s.z1 := by simp [htS]
theorem htS_len (S : List Sl) : (htS S).length = 2 * S.length := by
  induction S with
  | nil => rfl
  | cons b l ih => rw [show htS (b :: l) = b.z0 :: b.z1 :: htS l from rfl, List.length_cons, List.length_cons, ih, List.length_cons]; omega
theorem htS_next (S : List Sl) (k : Nat) (h : k < S.length) : htS (S.take (k + 1)) = htS (S.take k) ++ [S[k].z0, S[k].z1] := by
  unfold htS; rw [List.take_succ_eq_append_getElem h, List.flatMap_append]; simp
theorem htS_in {S : List Sl} (h : SForm S) : InZ (htS S) := by
  intro z hz
  obtain ⟨b, hb, e⟩ := htS_mem.1 hz
  have := (h.each b hb).h
  unfold HOk at this
  omega
theorem sec_same {S : List Sl} {z z' : Int} (h1 : z ≤ z') (h : ∀ x ∈ htS S, ¬ (z < x ∧ x ≤ z')) : secS S z = secS S z' := by
  induction S with
  | nil => rfl
  | cons b l ih =>
    have e : htS (b :: l) = b.z0 :: b.z1 :: htS l := rfl
    rw [e] at h
    have k0 := h b.z0 List.mem_cons_self
    have k1 := h b.z1 (List.mem_cons_of_mem _ List.mem_cons_self)
    have ih := ih (fun x hx => h x (List.mem_cons_of_mem _ (List.mem_cons_of_mem _ hx)))
    rw [sec_cons, sec_cons, ih]
    by_cases c : b.z0 ≤ z ∧ z < b.z1
    · rw [if_pos c, if_pos (by omega)]
    · rw [if_neg c, if_neg (by omega)]
def secO (op : Bool → Bool → Bool) (a b : List Sl) (z : Int) : List Rc := formO op (secS a z) (secS b z)
theorem sec_ok {S : List Sl} (h : SForm S) (z : Int) : ∀ r ∈ secS S z, ROk r := form_ok (sec_form h z)
theorem nil_form : IsForm [] := ⟨[], trivial, rfl⟩
theorem no_has (x y : Int) : ¬ HasL [] x y := by rintro ⟨r, hr, _⟩; cases hr
theorem formO_nil {op : Bool → Bool → Bool} (h0 : op false false = false) : formO op [] [] = [] := by
  obtain ⟨f1, f2⟩ := formO_is h0 (a := []) (b := []) (fun r hr => by cases hr) (fun r hr => by cases hr)
  refine form_eq f1 nil_form (fun x y => ?_)
  rw [f2]
  have e : hasB [] x y = false := by rw [← Bool.not_eq_true, hasB_iff]; exact no_has x y
  rw [e, h0]
  exact ⟨fun h => by simp at h, fun h => absurd h (no_has x y)⟩
theorem secO_form {op : Bool → Bool → Bool} (h0 : op false false = false) {a b : List Sl} (ha : SForm a) (hb : SForm b) (z : Int) : IsForm (secO op a b z) := (formO_is h0 (sec_ok ha z) (sec_ok hb z)).1
theorem chgO {op : Bool → Bool → Bool} (h0 : op false false = false) {a b : List Sl} (ha : SForm a) (hb : SForm b) : Chg (secO op a b) (htS a ++ htS b) := by
  have low : ∀ {S : List Sl}, SForm S → ∀ z, (∀ x ∈ htS S, z < x) → secS S z = [] := fun {S} hS z h => sec_below (fun u hu => h u.z0 (htS_mem.2 ⟨u, hu, Or.inl rfl⟩))
  have high : ∀ {S : List Sl}, SForm S → ∀ z, (∀ x ∈ htS S, x ≤ z) → secS S z = [] := fun {S} hS z h => sec_above (fun u hu => h u.z1 (htS_mem.2 ⟨u, hu, Or.inr rfl⟩))
  refine ⟨fun z z' h1 h2 => ?_, fun z h => ?_, fun z h => ?_⟩
  · unfold secO
    rw [sec_same h1 (fun x hx => h2 x (List.mem_append_left _ hx)), sec_same h1 (fun x hx => h2 x (List.mem_append_right _ hx))]
  · unfold secO
    rw [low ha z (fun x hx => h x (List.mem_append_left _ hx)), low hb z (fun x hx => h x (List.mem_append_right _ hx)), formO_nil h0]
  · unfold secO
    rw [high ha z (fun x hx => h x (List.mem_append_left _ hx)), high hb z (fun x hx => h x (List.mem_append_right _ hx)), formO_nil h0]
def solO (op : Bool → Bool → Bool) (a b : List Sl) : List Sl := solGo (secO op a b) [] (sortS (htS a ++ htS b))
theorem solO_is {op : Bool → Bool → Bool} (h0 : op false false = false) {a b : List Sl} (ha : SForm a) (hb : SForm b) : SForm (solO op a b) ∧ ∀ z, secS (solO op a b) z = secO op a b z := by
  obtain ⟨s1, s2⟩ := sortS_is (htS a ++ htS b)
  exact sol_is (secO_form h0 ha hb) s1 (fun x hx => by
    rcases List.mem_append.1 ((s2 x).1 hx) with h | h
    · exact htS_in ha x h
    · exact htS_in hb x h) ((chgO h0 ha hb).of (fun z => (s2 z).symm))
noncomputable def opS (op : Bool → Bool → Bool) (a b : List Sl) : List Sl × Int := @ite _ (SolP a ∧ SolP b) (Classical.propDecidable _) (capS (solO op a b)) ([], 1)
theorem opS_cap {op : Bool → Bool → Bool} {a b : List Sl} (ha : SolP a) (hb : SolP b) : opS op a b = capS (solO op a b) := if_pos ⟨ha, hb⟩
theorem opS_arg {op : Bool → Bool → Bool} {a b : List Sl} (h : ¬ (SolP a ∧ SolP b)) : opS op a b = ([], 1) := if_neg h
/-! ### sets of cubes -/
structure CS (S : List Sl) (P : Int → Int → Int → Prop) : Prop where
  form : SForm S
  cubes : ∀ x y z, HasL (secS S z) x y ↔ P x y z
theorem CS.eq {S T : List Sl} {P Q : Int → Int → Int → Prop} (h : CS S P) (k : CS T Q) (e : ∀ x y z, P x y z ↔ Q x y z) : S = T :=
  solid_eq h.form k.form (fun z => form_eq (sec_form h.form z) (sec_form k.form z) (fun x y => by rw [h.cubes, k.cubes, e]))
theorem CS.self {S : List Sl} (h : SForm S) : CS S (fun x y z => HasL (secS S z) x y) := ⟨h, fun _ _ _ => Iff.rfl⟩
theorem CS.of {S : List Sl} {P Q : Int → Int → Int → Prop} (h : CS S P) (e : ∀ x y z, P x y z ↔ Q x y z) : CS S Q := ⟨h.form, fun x y z => by rw [h.cubes, e]⟩
theorem cs_or {a b : List Sl} {P Q : Int → Int → Int → Prop} (h : CS a P) (k : CS b Q) : CS (solO or a b) (fun x y z => P x y z ∨ Q x y z) := by
  obtain ⟨f1, f2⟩ := solO_is (op := or) rfl h.form k.form
  exact ⟨f1, fun x y z => by rw [f2]; unfold secO; rw [(formO_is (op := or) rfl (sec_ok h.form z) (sec_ok k.form z)).2, Bool.or_eq_true, hasB_iff, hasB_iff, h.cubes, k.cubes]⟩
theorem cs_and {a b : List Sl} {P Q : Int → Int → Int → Prop} (h : CS a P) (k : CS b Q) : CS (solO and a b) (fun x y z => P x y z ∧ Q x y z) := by
  obtain ⟨f1, f2⟩ := solO_is (op := and) rfl h.form k.form
  exact ⟨f1, fun x y z => by rw [f2]; unfold secO; rw [(formO_is (op := and) rfl (sec_ok h.form z) (sec_ok k.form z)).2, Bool.and_eq_true, hasB_iff, hasB_iff, h.cubes, k.cubes]⟩
theorem cs_not {a b : List Sl} {P Q : Int → Int → Int → Prop} (h : CS a P) (k : CS b Q) : CS (solO andnot a b) (fun x y z => P x y z ∧ ¬ Q x y z) := by
  obtain ⟨f1, f2⟩ := solO_is (op := andnot) rfl h.form k.form
  refine ⟨f1, fun x y z => ?_⟩
  rw [f2]; unfold secO
  rw [(formO_is (op := andnot) rfl (sec_ok h.form z) (sec_ok k.form z)).2]
  unfold andnot
  rw [Bool.and_eq_true, hasB_iff, h.cubes, Bool.not_eq_true', ← Bool.not_eq_true, hasB_iff, k.cubes]
/-- a cube of some boxes. -/
def HasB (l : List Bx) (x y z : Int) : Prop := ∃ b ∈ l, HasR b.r x y ∧ b.z0 ≤ z ∧ z < b.z1
theorem bases_has (l : List Bx) (x y z : Int) : HasL (basesB l z) x y ↔ HasB l x y z := by
  constructor
  · rintro ⟨r, hr, h⟩
    obtain ⟨b, hb, rfl, k⟩ := bases_mem.1 hr
    exact ⟨b, hb, h, k⟩
  · rintro ⟨b, hb, h, k⟩
    exact ⟨b.r, bases_mem.2 ⟨b, hb, rfl, k⟩, h⟩
theorem cs_b {l : List Bx} (h : ∀ b ∈ l, BOk b) : CS (solB l) (HasB l) := by
  obtain ⟨f1, f2⟩ := solB_is h
  exact ⟨f1, fun x y z => by rw [f2]; unfold secB; rw [(formL_is (bases_ok h z)).2, bases_has]⟩
/-! ### sizes -/
theorem asc_sub_len : ∀ {X Y : List Int}, Asc X → (∀ x ∈ X, x ∈ Y) → X.length ≤ Y.length := by
  intro X
  induction X with
  | nil => intro Y _ _; exact Nat.zero_le _
  | cons x X ih =>
    intro Y h hs
    have hx := hs x List.mem_cons_self
    have h1 := ih (Y := Y.erase x) h.tail (fun y hy => by
      have := h.lt y hy
      exact (List.mem_erase_of_ne (by omega)).2 (hs y (List.mem_cons_of_mem _ hy)))
    have h2 := List.length_erase_of_mem hx
    have h3 := List.length_pos_of_mem hx
    rw [List.length_cons]; omega
theorem solB_len (l : List Bx) : (solB l).length ≤ 2 * l.length - 1 := by
  have h1 := (solGo_len (secB l) (sortS (htB l)) []).2
  obtain ⟨s1, s2⟩ := sortS_is (htB l)
  have h2 := asc_sub_len s1 (fun x hx => (s2 x).1 hx)
  rw [htB_len] at h2
  simp only [List.length_nil] at h1
  unfold solB
  omega
theorem solO_len (op : Bool → Bool → Bool) (a b : List Sl) : (solO op a b).length ≤ 2 * (a.length + b.length) - 1 := by
  have h1 := (solGo_len (secO op a b) (sortS (htS a ++ htS b)) []).2
  obtain ⟨s1, s2⟩ := sortS_is (htS a ++ htS b)
  have h2 := asc_sub_len s1 (fun x hx => (s2 x).1 hx)
  rw [List.length_append, htS_len, htS_len] at h2
  simp only [List.length_nil] at h1
  unfold solO
  omega
/-! ### the volume -/
def sumI : Nat → (Int → Int) → Int
  | 0, _ => 0
  | n + 1, f => sumI n f + f n
theorem sumI_congr {n : Nat} {f g : Int → Int} (h : ∀ i : Nat, i < n → f i = g i) : sumI n f = sumI n g := by
  induction n with
  | zero => rfl
  | succ n ih => rw [sumI, sumI, ih (fun i hi => h i (by omega)), h n (by omega)]
theorem sumI_add (n : Nat) (f g : Int → Int) : sumI n (fun i => f i + g i) = sumI n f + sumI n g := by
  induction n with
  | zero => rfl
  | succ n ih => rw [sumI, sumI, sumI, ih]; omega
theorem sumI_zero (n : Nat) : sumI n (fun _ => 0) = 0 := by
  induction n with
  | zero => rfl
  | succ n ih => rw [sumI, ih]; rfl
theorem sumI_span {a b k : Int} (h0 : 0 ≤ a) (h1 : a ≤ b) : ∀ {n : Nat}, b ≤ (n : Int) → sumI n (fun i => if a ≤ i ∧ i < b then k else 0) = (b - a) * k := by
  intro n
  induction n generalizing b with
  | zero => intro h2; obtain rfl : a = b := by omega
            simp [sumI]
  | succ n ih =>
    intro h2
    rw [sumI]
    by_cases c : b ≤ (n : Int)
    · rw [ih h1 c, if_neg (by omega)]; omega
    · have e : b = (n : Int) + 1 := by omega
      by_cases d : a = b
      · rw [if_neg (by omega), sumI_congr (g := fun _ => 0) (fun i hi => if_neg (by omega)), sumI_zero, d]; simp
      · rw [if_pos (by omega), sumI_congr (g := fun i => if a ≤ i ∧ i < (n : Int) then k else 0) (fun i hi => by
          by_cases q : a ≤ (i : Int)
          · rw [if_pos (by omega), if_pos (by omega)]
          · rw [if_neg (by omega), if_neg (by omega)]), ih (by omega) (Int.le_refl _), e]
        have : (n : Int) + 1 - a = ((n : Int) - a) + 1 := by omega
        rw [this, Int.add_mul]; omega
def volS : List Sl → Int
  | [] => 0
  | s :: S => areaL s.ar * (s.z1 - s.z0) + volS S
theorem volS_append (S T : List Sl) : volS (S ++ T) = volS S + volS T := by
  induction S with
  | nil => simp [volS]
  | cons s S ih => rw [List.cons_append, volS, volS, ih]; omega
theorem vol_sum : ∀ {S : List Sl}, SForm S → volS S = sumI 4096 (fun z => areaL (secS S z)) := by
  intro S
  induction S with
  | nil => intro _; rw [show (fun z => areaL (secS [] z)) = fun _ => 0 from rfl, sumI_zero]; rfl
  | cons s S ih =>
    intro h
    have hh := h.head.h
    unfold HOk at hh
    have e : sumI 4096 (fun z => areaL (secS (s :: S) z)) = sumI 4096 (fun z => (if s.z0 ≤ z ∧ z < s.z1 then areaL s.ar else 0) + areaL (secS S z)) := sumI_congr (fun i _ => by
      rw [sec_cons]
      by_cases c : s.z0 ≤ (i : Int) ∧ (i : Int) < s.z1
      · rw [if_pos c, if_pos c, sec_low h c.2]; simp [areaL]
      · rw [if_neg c, if_neg c]; omega)
    rw [volS, ih h.tail, e, sumI_add, sumI_span hh.1 (by omega) (by omega), Int.mul_comm]
theorem vol_adds {a b u i : List Sl} (ha : SForm a) (hb : SForm b) (hu : SForm u) (hi : SForm i) (h1 : ∀ x y z, HasL (secS u z) x y ↔ HasL (secS a z) x y ∨ HasL (secS b z) x y) (h2 : ∀ x y z, HasL (secS i z) x y ↔ HasL (secS a z) x y ∧ HasL (secS b z) x y) : volS u + volS i = volS a + volS b := by
  rw [vol_sum ha, vol_sum hb, vol_sum hu, vol_sum hi, ← sumI_add, ← sumI_add]
  exact sumI_congr (fun z _ => area_adds (sec_form ha z) (sec_form hb z) (sec_form hu z) (sec_form hi z) (fun x y => h1 x y z) (fun x y => h2 x y z))
theorem area_nnL (l : List Rc) : 0 ≤ areaL l := by
  induction l with
  | nil => exact Int.le_refl _
  | cons r l ih =>
    have h1 := area_nn r
    have e : areaL (r :: l) = areaR r + areaL l := rfl
    omega
end Go.Proofs.Ytkjblmfmaenllaa
