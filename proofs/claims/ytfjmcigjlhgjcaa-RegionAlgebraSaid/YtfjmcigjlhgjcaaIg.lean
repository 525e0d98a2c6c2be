/-
  PROVED HERE: RegionAlgebra: for every three lists of rectangles that can be read, if none has more than four: the regions of these lists exist unless a rectangle is not right; union and intersection of them do not depend on the order or on the grouping of their arguments and are distributive, what is taken away is in neither part, taking away two is taking away their union, and the areas of the union and the intersection add up to those of both; the law returns true and its arguments read as before.
  CONDITIONS: none: for every input that can be read.
-/
import Derived.Test.YtfjmcigjlhgjcaaIe
import Derived.Test.YtfjmcigjlhgjcaaIf
set_option linter.unusedVariables false
namespace Go.Proofs.Ytfjmcigjlhgjcaa
open Go.RowKit Go.ChangeShapes Go.WideShapes Go.ChangeAt

set_option maxRecDepth 100000 in
theorem regionAlgebra_lifted (os : Os) (started : os.Started) (H : Type) (enc : TypeId × Value → H) :
    ReturnsInHanded {} Try.checked os 5 .any (Rows.regionAlgebraSpec.pre6 enc Try.prog Try.f5 Rows.regionAlgebraRow.domain false) (Rows.regionAlgebraSpec.post enc Try.prog Try.f5 false true false false) := by
  refine returnsInHanded_of_change (C := Try.checked) own started (by kernel_rfl) Try.func5
    (ChangeSpec.witness6 (enc := enc) (C := Try.checked) false ⟨#[], #[.slice none 0 0, .slice none 0 0, .slice none 0 0], []⟩ 8 (by kernel_rfl) (by kernel_rfl) (by kernel_rfl) (by kernel_rfl)) ?_
  intro W base args ds gs before hval0 hW hcnd _
  have hval : ∀ (j : Nat) t v, Try.f5.params[j]? = some t → args[j]? = some v → Value.okWide Try.prog W .any base t v := hval0
  have hW' := hW
  obtain ⟨p, q, hA0, hV, rfl, hfz, hnd⟩ := hW
  have hA : DataW.TrodAll enc Try.prog W 0 (fun _ => true) true Try.f5.params.toList args.toList ds p := hA0
  rw [Try.params5] at hA hval
  obtain ⟨v0, vs0, d0, ds0, p0, q0, hargs, rfl, rfl, h0, r0⟩ := trodAll_cons hA
  obtain ⟨v1, vs1, d1, ds1, p1, q1, rfl, rfl, rfl, h1, r1⟩ := trodAll_cons r0
  obtain ⟨v2, vs2, d2, ds2, p2, q2, rfl, rfl, rfl, h2, r2⟩ := trodAll_cons r1
  obtain ⟨rfl, rfl, rfl⟩ := trodAll_nil r2
  obtain rfl : args = #[v0, v1, v2] := by cases args; simp_all
  obtain ⟨rfl, rfl⟩ := trodVars_none hV
  have k0 := h0
  have lt0 : ∀ x ∈ p0, x.block < W.heap.size := by obtain ⟨m, hm⟩ := k0; exact DataW.trod_lt m _ _ _ hm
  have k1 := h1
  have lt1 : ∀ x ∈ p1, x.block < W.heap.size := by obtain ⟨m, hm⟩ := k1; exact DataW.trod_lt m _ _ _ hm
  have k2 := h2
  have lt2 : ∀ x ∈ p2, x.block < W.heap.size := by obtain ⟨m, hm⟩ := k2; exact DataW.trod_lt m _ _ _ hm
  obtain ⟨Aa, ca, a, rfl, hAa, oka, hla, hra, hsa, hna⟩ := open_rects2 (hval 0 22 v0 rfl rfl) h0
  obtain ⟨Ab, cb, b, rfl, hAb, okb, hlb, hrb, hsb, hnb⟩ := open_rects2 (hval 1 22 v1 rfl rfl) h1
  obtain ⟨Ac, cc, c, rfl, hAc, okc, hlc, hrc, hsc, hnc⟩ := open_rects2 (hval 2 22 v2 rfl rfl) h2
  clear hA0 hval0
  refine (algebra_walk Aa Ab Ac ca cb cc a b c W hAa hAb hAc hla hlb hlc hra hrb hrc hsa hsb hsc hna hnb hnc).mono fun e W' ⟨he, bel⟩ => ?_
  subst he
  exact ⟨_, rfl, _, _, _, [], _, [], hW', trodAll_mk1 (shut_bool Try.underlying4 _), (trodAll_cons_mk (Below.trod laidOut (by kernel_rfl) (of_decide_eq_true (by kernel_rfl)) k0 bel lt0) (trodAll_cons_mk (Below.trod laidOut (by kernel_rfl) (of_decide_eq_true (by kernel_rfl)) k1 bel lt1) (trodAll_cons_mk (Below.trod laidOut (by kernel_rfl) (of_decide_eq_true (by kernel_rfl)) k2 bel lt2) trodAll_mk0))), rfl, bel.frame _, fun h => by cases h⟩

theorem regionAlgebra_holds : Rows.RegionAlgebraSaid :=
  OpenClaim.holds_of_wide 5 Try.f5 rfl rfl rfl rfl rfl rfl rfl ⟨rfl, rfl, rfl, rfl, rfl⟩ rfl rfl rfl rfl rfl (by kernel_rfl) Try.func5 (by kernel_rfl)
    (of_decide_eq_true (by kernel_rfl)) (by unfold Func.isWrapper; first | (rw [if_pos (by decide +kernel)]; kernel_rfl) | (rw [if_neg (by decide +kernel)]; exact ⟨rfl, rfl⟩))
    (fun os started H enc _ => regionAlgebra_lifted os started H enc)
#print axioms regionAlgebra_holds
end Go.Proofs.Ytfjmcigjlhgjcaa
