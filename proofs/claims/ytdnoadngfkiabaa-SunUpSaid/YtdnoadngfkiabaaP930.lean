/-
  SolidSections: plain mathematics; the contract of rects.
  Layer 12: the mathematics of the sun: straight up and the top; the list of free directions and its laws. No program in it.
-/
import Derived.Test.YtdnoadngfkiabaaP929
import Derived.BigQuiet
import Derived.Test.YtdnoadngfkiabaaP918
import Derived.Test.YtdnoadngfkiabaaP925
set_option linter.unusedVariables false
set_option maxRecDepth 100000
namespace Go.Proofs.Ytdnoadngfkiabaa
open Go.RowKit

theorem snoc_ind {α : Type} {P : List α → Prop} (h0 : P []) (h1 : ∀ T u, P T → P (T ++ [u])) : ∀ S, P S := by
  intro S
  rw [← S.reverse_reverse]
  generalize S.reverse = R
  induction R with
  | nil => exact h0
  | cons a R ih => rw [List.reverse_cons]; exact h1 _ _ ih
theorem before_last {u : Sl} : ∀ {S : List Sl}, SForm (S ++ [u]) → ∀ t ∈ S, t.z1 ≤ u.z0 := by
  intro S
  induction S with
  | nil => intro _ t ht; cases ht
  | cons s S ih =>
    intro h t ht
    rcases List.mem_cons.1 ht with rfl | ht
    · exact SForm.after (s := t) (S := S ++ [u]) h u (by simp)
    · exact ih (SForm.tail (s := s) (S := S ++ [u]) h) t ht
def TopIs (P : Int → Prop) (t : Int) : Prop := (t = 0 ∧ ∀ z, ¬ P z) ∨ (P (t - 1) ∧ ∀ z, t ≤ z → ¬ P z)
theorem TopIs.eq {P : Int → Prop} {t u : Int} (h : TopIs P t) (k : TopIs P u) : t = u := by
  rcases h with ⟨h1, h2⟩ | ⟨h1, h2⟩
  · rcases k with ⟨k1, k2⟩ | ⟨k1, k2⟩
    · omega
    · exact absurd k1 (h2 _)
  · rcases k with ⟨k1, k2⟩ | ⟨k1, k2⟩
    · exact absurd h1 (k2 _)
    · rcases Int.lt_trichotomy t u with c | c | c
      · exact absurd k1 (h2 _ (by omega))
      · exact c
      · exact absurd h1 (k2 _ (by omega))
theorem TopIs.of {P Q : Int → Prop} {t : Int} (h : TopIs P t) (e : ∀ z, P z ↔ Q z) : TopIs Q t := by
  rcases h with ⟨h1, h2⟩ | ⟨h1, h2⟩
  · exact Or.inl ⟨h1, fun z hz => h2 z ((e z).2 hz)⟩
  · exact Or.inr ⟨(e _).1 h1, fun z hz k => h2 z hz ((e z).2 k)⟩
theorem topS_is (x y : Int) : ∀ S : List Sl, SForm S → TopIs (fun z => HasL (secS S z) x y) (topS S x y) := by
  refine snoc_ind (fun _ => Or.inl ⟨rfl, fun z => no_has x y⟩) (fun T u ih h => ?_)
  obtain ⟨hT, hu, _⟩ := h.init
  have hb := before_last h
  have hh := hu.h
  unfold HOk at hh
  have ht : topS (T ++ [u]) x y = if hasD u.ar x y = true then u.z1 else topS T x y := by
    unfold topS; rw [List.foldl_append]; rfl
  have hs : ∀ z, secS (T ++ [u]) z = if u.z0 ≤ z ∧ z < u.z1 then u.ar else secS T z := fun z => sec_snoc hb z
  have hn : ∀ z, u.z0 ≤ z → secS T z = [] := fun z hz => sec_above (fun t ht => by have := hb t ht; omega)
  rw [ht]
  by_cases c : hasD u.ar x y = true
  · rw [if_pos c]
    refine Or.inr ⟨?_, fun z hz => ?_⟩
    · show HasL (secS (T ++ [u]) (u.z1 - 1)) x y
      rw [hs, if_pos (by omega)]
      exact (hasD_iff _ _ _).1 c
    · show ¬ HasL (secS (T ++ [u]) z) x y
      rw [hs, if_neg (by omega), hn z (by omega)]
      exact no_has x y
  · rw [if_neg c]
    refine (ih hT).of (fun z => ?_)
    show HasL (secS T z) x y ↔ HasL (secS (T ++ [u]) z) x y
    rw [hs]
    by_cases d : u.z0 ≤ z ∧ z < u.z1
    · rw [if_pos d, hn z d.1]
      exact ⟨fun k => absurd k (no_has x y), fun k => absurd ((hasD_iff _ _ _).2 k) c⟩
    · rw [if_neg d]
def InXY (b : Bx) (x y : Int) : Prop := b.r.X0 ≤ x ∧ x < b.r.X1 ∧ b.r.Y0 ≤ y ∧ y < b.r.Y1
instance (b : Bx) (x y : Int) : Decidable (InXY b x y) := by unfold InXY; exact inferInstance
/-! ### neighbouring slabs differ -/
end Go.Proofs.Ytdnoadngfkiabaa
namespace Go.Proofs.Ytdnoadngfkiabaa

theorem up_iff {P : Int → Int → Int → Prop} (p : V3) {k : Int} (hk : 1 ≤ k) : RayP P p ⟨0, 0, k⟩ ↔ ∃ z, p.z ≤ z ∧ P p.x p.y z := by
  constructor
  · rintro ⟨n, m, hm, hn, h⟩
    unfold HitAt at h
    simp only [Int.mul_zero, Int.add_zero, Int.mul_ediv_cancel _ (show m ≠ 0 by omega)] at h
    have hnk : 0 ≤ n * k := Int.mul_nonneg (by omega) (by omega)
    exact ⟨_, Int.le_ediv_of_mul_le hm (by omega), h⟩
  · rintro ⟨z, hz, h⟩
    refine ⟨2 * (z - p.z) + 1, 2 * k, by omega, by omega, ?_⟩
    unfold HitAt
    have hk0 : 2 * k ≠ 0 := by omega
    have e : (p.z * (2 * k) + (2 * (z - p.z) + 1) * k) / (2 * k) = z := by
      have e1 : p.z * (2 * k) + (2 * (z - p.z) + 1) * k = k + z * (2 * k) := by
        rw [Int.add_mul, Int.mul_assoc 2, Int.sub_mul, ← Int.mul_assoc p.z 2 k, ← Int.mul_assoc z 2 k, Int.mul_comm p.z 2, Int.mul_comm z 2, Int.mul_assoc, Int.mul_assoc]
        omega
      rw [e1, Int.add_mul_ediv_right _ _ hk0, Int.ediv_eq_zero_of_lt (by omega) (by omega), Int.zero_add]
    simp only [Int.mul_zero, Int.add_zero, Int.mul_ediv_cancel _ hk0, e]
    exact h
/-- straight up the ray meets the solid exactly below its top. -/
theorem up_top {S : List Sl} (h : SolP S) {p : V3} (hp : PtOk p) {k : Int} (h1 : 1 ≤ k) (h2 : k ≤ 4096) : ryB S p ⟨0, 0, k⟩ = decide (p.z < topS S p.x p.y) := by
  have ht := topS_is p.x p.y S h.form
  rw [Bool.eq_iff_iff, ry_iff h, decide_eq_true_iff, up_iff p h1]
  constructor
  · rintro ⟨_, _, z, hz, hc⟩
    rcases ht with ⟨_, hn⟩ | ⟨_, hn⟩
    · exact absurd hc (hn z)
    · by_cases c : topS S p.x p.y ≤ z
      · exact absurd hc (hn z c)
      · omega
  · intro hlt
    refine ⟨hp, ⟨Or.inr (Or.inr (by show k ≠ 0; omega)), ⟨by show (-1048576 : Int) ≤ 0; omega, by show (0 : Int) ≤ 1048576; omega⟩, ⟨by show (-1048576 : Int) ≤ 0; omega, by show (0 : Int) ≤ 1048576; omega⟩, ⟨by show -1048576 ≤ k; omega, by show k ≤ 1048576; omega⟩⟩, ?_⟩
    rcases ht with ⟨h0, _⟩ | ⟨hc, _⟩
    · have := hp.2.2.1; omega
    · exact ⟨_, by omega, hc⟩
/-- a direction of a table. -/
def SdOk (d : V3) : Prop := (-4096 ≤ d.x ∧ d.x ≤ 4096) ∧ (-4096 ≤ d.y ∧ d.y ≤ 4096) ∧ (1 ≤ d.z ∧ d.z ≤ 4096)
instance (d : V3) : Decidable (SdOk d) := by unfold SdOk; infer_instance
def TabOk (T : List V3) : Prop := (∀ d ∈ T, SdOk d) ∧ T.length ≤ 24
instance (T : List V3) : Decidable (TabOk T) := by unfold TabOk; infer_instance
/-- which directions are free. -/
noncomputable def frB (S : List Sl) (p : V3) (T : List V3) : List Bool := T.map fun d => !ryB S p d
theorem frB_len (S : List Sl) (p : V3) (T : List V3) : (frB S p T).length = T.length := List.length_map _
def both2 (l m : List Bool) : List Bool := List.zipWith (fun a b => a && b) l m
theorem sfr_or {a b u : List Sl} (ha : SolP a) (hb : SolP b) (hu : SolP u) (h : ∀ x y z, cubS u x y z ↔ cubS a x y z ∨ cubS b x y z) (p : V3) (T : List V3) : frB u p T = both2 (frB a p T) (frB b p T) := by
  unfold frB both2
  induction T with
  | nil => rfl
  | cons d T ih =>
    simp only [List.map_cons, List.zipWith_cons_cons]
    rw [ih, ry_or ha hb hu h p d, Bool.not_or]
theorem sfr_sub {s t : List Sl} (hs : SolP s) (ht : SolP t) (h : ∀ x y z, cubS s x y z → cubS t x y z) (p : V3) (T : List V3) : frB t p T = both2 (frB s p T) (frB t p T) :=
  sfr_or hs ht ht (fun x y z => ⟨Or.inr, fun k => k.elim (h x y z) id⟩) p T
theorem ry_nil (p d : V3) : ryB [] p d = false := by
  cases c : ryB [] p d with
  | false => rfl
  | true =>
    unfold ryB at c
    simp only [Bool.and_eq_true] at c
    exact absurd c.2.2.2 (by simp [boxesS, meetB])
theorem sfr_nil (p : V3) (T : List V3) : frB [] p T = List.replicate T.length true := by
  unfold frB
  induction T with
  | nil => rfl
  | cons d T ih => rw [List.map_cons, ih, ry_nil]; rfl
theorem sfr_rev (S : List Sl) (p : V3) (T : List V3) : frB S p T.reverse = (frB S p T).reverse := List.map_reverse ..
theorem sfr_move {S U : List Sl} (hS : SolP S) (hU : SolP U) {b : V3} (h : ∀ x y z, cubS U (x + b.x) (y + b.y) (z + b.z) ↔ cubS S x y z) {p : V3} (hp : PtOk p) (hp2 : PtOk (p.add b)) (T : List V3) : frB U (p.add b) T = frB S p T := by
  unfold frB
  induction T with
  | nil => rfl
  | cons d T ih => rw [List.map_cons, List.map_cons, ih, ry_move hS hU h hp hp2]
theorem sfr_mul {S : List Sl} (h : SolP S) {p : V3} (hp : PtOk p) {k : Int} (h1 : 1 ≤ k) (h2 : k ≤ 40) (T : List V3) (hT : ∀ d ∈ T, (-1000 ≤ d.x ∧ d.x ≤ 1000) ∧ (-1000 ≤ d.y ∧ d.y ≤ 1000) ∧ (-1000 ≤ d.z ∧ d.z ≤ 1000)) : frB S p (T.map fun d => d.mul k) = frB S p T := by
  unfold frB
  induction T with
  | nil => rfl
  | cons d T ih =>
    have hd := hT d (by simp)
    rw [List.map_cons, List.map_cons, List.map_cons, ih (fun e he => hT e (by simp [he])), rays_eq h hp h1 h2 hd.1 hd.2.1 hd.2.2]
/-- the directions that several solids leave. -/
noncomputable def frL (L : List (List Sl)) (p : V3) (T : List V3) : List Bool := L.foldl (fun m S => both2 m (frB S p T)) (frB [] p T)
theorem both_map (T : List V3) (f g : V3 → Bool) : both2 (T.map f) (T.map g) = T.map (fun d => f d && g d) := by
  unfold both2
  induction T with
  | nil => rfl
  | cons d T ih => simp only [List.map_cons, List.zipWith_cons_cons]; rw [ih]
/-- .. direction by direction. -/
theorem frL_all (L : List (List Sl)) (p : V3) (T : List V3) : frL L p T = T.map (fun d => L.all (fun S => !ryB S p d)) := by
  have k : ∀ (L : List (List Sl)) (f : V3 → Bool), L.foldl (fun m S => both2 m (frB S p T)) (T.map f) = T.map (fun d => f d && L.all (fun S => !ryB S p d)) := by
    intro L
    induction L with
    | nil => intro f; simp
    | cons S L ih =>
      intro f
      rw [List.foldl_cons]
      unfold frB at ih ⊢
      rw [both_map, ih]
      simp only [List.all_cons, Bool.and_assoc]
  unfold frL
  have e : frB [] p T = T.map (fun _ => true) := by unfold frB; exact List.map_congr_left (fun d _ => by rw [ry_nil]; rfl)
  rw [e, k]
  simp
end Go.Proofs.Ytdnoadngfkiabaa
