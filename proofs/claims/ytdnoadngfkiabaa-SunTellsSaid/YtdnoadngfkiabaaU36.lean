/-
  SolidSections: plain mathematics; the contract of rects.
  Layer 12: the mathematics of the sun: straight up and the top; the list of free directions and its laws. No program in it.
-/
import Derived.Test.YtdnoadngfkiabaaU35
import Derived.BigQuiet
import Derived.Test.YtdnoadngfkiabaaU27
import Derived.Test.YtdnoadngfkiabaaU31
set_option linter.unusedVariables false
set_option maxRecDepth 100000
namespace Go.Proofs.Ytdnoadngfkiabaa
open Go.RowKit

def TopIs (P : Int → Prop) (t : Int) : Prop := (t = 0 ∧ ∀ z, ¬ P z) ∨ (P (t - 1) ∧ ∀ z, t ≤ z → ¬ P z)
theorem TopIs.eq {P : Int → Prop} {t u : Int} (h : TopIs P t) (k : TopIs P u) : t = u := by
  rcases h with ⟨h1, h2⟩ | ⟨h1, h2⟩
  · rcases k with ⟨k1, k2⟩ | ⟨k1, k2⟩
    · omega
    · exact absurd k1 (h2 _)
  · rcases k with ⟨k1, k2⟩ | ⟨k1, k2⟩
    · exact absurd h1 (k2 _)
    · rcases Int.lt_trichotomy t u with c | c | c
      · exact absurd k1 (h2 _ (by omega))
      · exact c
      · exact absurd h1 (k2 _ (by omega))
theorem TopIs.of {P Q : Int → Prop} {t : Int} (h : TopIs P t) (e : ∀ z, P z ↔ Q z) : TopIs Q t := by
  rcases h with ⟨h1, h2⟩ | ⟨h1, h2⟩
  · exact Or.inl ⟨h1, fun z hz => h2 z ((e z).2 hz)⟩
  · exact Or.inr ⟨(e _).1 h1, fun z hz k => h2 z hz ((e z).2 k)⟩
def InXY (b : Bx) (x y : Int) : Prop := b.r.X0 ≤ x ∧ x < b.r.X1 ∧ b.r.Y0 ≤ y ∧ y < b.r.Y1
instance (b : Bx) (x y : Int) : Decidable (InXY b x y) := by unfold InXY; exact inferInstance
/-! ### neighbouring slabs differ -/
end Go.Proofs.Ytdnoadngfkiabaa
namespace Go.Proofs.Ytdnoadngfkiabaa

/-- a direction of a table. -/
def SdOk (d : V3) : Prop := (-4096 ≤ d.x ∧ d.x ≤ 4096) ∧ (-4096 ≤ d.y ∧ d.y ≤ 4096) ∧ (1 ≤ d.z ∧ d.z ≤ 4096)
instance (d : V3) : Decidable (SdOk d) := by unfold SdOk; infer_instance
def TabOk (T : List V3) : Prop := (∀ d ∈ T, SdOk d) ∧ T.length ≤ 24
instance (T : List V3) : Decidable (TabOk T) := by unfold TabOk; infer_instance
/-- which directions are free. -/
noncomputable def frB (S : List Sl) (p : V3) (T : List V3) : List Bool := T.map fun d => !ryB S p d
theorem frB_len (S : List Sl) (p : V3) (T : List V3) : (frB S p T).length = T.length := List.length_map _
def both2 (l m : List Bool) : List Bool := List.zipWith (fun a b => a && b) l m
theorem ry_nil (p d : V3) : ryB [] p d = false := by
  cases c : ryB [] p d with
  | false => rfl
  | true =>
    unfold ryB at c
    simp only [Bool.and_eq_true] at c
    exact absurd c.2.2.2 (by simp [boxesS, meetB])
theorem sfr_nil (p : V3) (T : List V3) : frB [] p T = List.replicate T.length true := by
  unfold frB
  induction T with
  | nil => rfl
  | cons d T ih => rw [List.map_cons, ih, ry_nil]; rfl
theorem sfr_take (S : List Sl) (p : V3) (T : List V3) (i : Nat) (hi : i < T.length) : frB S p (T.take (i + 1)) = frB S p (T.take i) ++ [!ryB S p T[i]] := by
  unfold frB
  rw [List.take_add_one, List.getElem?_eq_getElem hi, List.map_append]; rfl
/-- one more direction in the mask. -/
theorem msk_step (S : List Sl) (p : V3) (T : List V3) (i : Nat) (hi : i < T.length) : mskN (frB S p (T.take (i + 1))) = mskN (frB S p (T.take i)) + (if ryB S p T[i] = true then 0 else 2 ^ i) := by
  rw [sfr_take S p T i hi, mskN_snoc, frB_len, List.length_take, Nat.min_eq_left (by omega)]
  cases ryB S p T[i] <;> rfl
/-- the directions that several solids leave. -/
noncomputable def frL (L : List (List Sl)) (p : V3) (T : List V3) : List Bool := L.foldl (fun m S => both2 m (frB S p T)) (frB [] p T)
theorem both_map (T : List V3) (f g : V3 → Bool) : both2 (T.map f) (T.map g) = T.map (fun d => f d && g d) := by
  unfold both2
  induction T with
  | nil => rfl
  | cons d T ih => simp only [List.map_cons, List.zipWith_cons_cons]; rw [ih]
/-- .. direction by direction. -/
theorem frL_all (L : List (List Sl)) (p : V3) (T : List V3) : frL L p T = T.map (fun d => L.all (fun S => !ryB S p d)) := by
  have k : ∀ (L : List (List Sl)) (f : V3 → Bool), L.foldl (fun m S => both2 m (frB S p T)) (T.map f) = T.map (fun d => f d && L.all (fun S => !ryB S p d)) := by
    intro L
    induction L with
    | nil => intro f; simp
    | cons S L ih =>
      intro f
      rw [List.foldl_cons]
      unfold frB at ih ⊢
      rw [both_map, ih]
      simp only [List.all_cons, Bool.and_assoc]
  unfold frL
  have e : frB [] p T = T.map (fun _ => true) := by unfold frB; exact List.map_congr_left (fun d _ => by rw [ry_nil]; rfl)
  rw [e, k]
  simp
end Go.Proofs.Ytdnoadngfkiabaa
