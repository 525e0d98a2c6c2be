/-
  The walk of RatioLaws: from the contracts to the core.
-/
import Derived.Test.YtlkpebcmdkmfjaaQn
set_option linter.unusedVariables false
set_option maxRecDepth 100000
namespace Go.Proofs.Ytlkpebcmdkmfjaa
open Go.RowKit

theorem laws_no1 (a b c : Fr) (ia : InF a) (k : okB ⟨a.N, a.D⟩ = false) (w : World) : Calls Try.prog 6 #[.agg #[.int .i64 a.N, .int .i64 a.D], .agg #[.int .i64 b.N, .int .i64 b.D], .agg #[.int .i64 c.N, .int .i64 c.D]] w (BlIs true w) := by
  obtain ⟨na, da⟩ := ia
  have K0 := Lib.hid (three' a b c w)
  go_enter Try.func6, Try.ntmps6
  go_wp2_with fail
  refine (small_any _).mono ?_
  rintro e w1 ⟨rfl, hb⟩
  have K1 := Lib.hid (K0.out.go hb); clear hb K0
  have c0a := K1.out.1.cell0; have c0b := K1.out.1.cell1; have c1a := K1.out.2.1.cell0; have c1b := K1.out.2.1.cell1; have c2a := K1.out.2.2.1.cell0; have c2b := K1.out.2.2.1.cell1
  go_wp2_with fail
  refine (rright_nd _ _ na da _).mono ?_
  rintro e w2 ⟨rfl, hb⟩
  have K2 := Lib.hid (K1.out.go hb); clear hb K1 c0a c0b c1a c1b c2a c2b
  go_wp2_with fail
  go_ret
  exact ⟨rfl, K2.out.below⟩
set_option maxHeartbeats 4000000 in
theorem laws_no2 (a b c : Fr) (ia : InF a) (ib : InF b) (ka : okB ⟨a.N, a.D⟩ = true) (k : okB ⟨b.N, b.D⟩ = false) (w : World) : Calls Try.prog 6 #[.agg #[.int .i64 a.N, .int .i64 a.D], .agg #[.int .i64 b.N, .int .i64 b.D], .agg #[.int .i64 c.N, .int .i64 c.D]] w (BlIs true w) := by
  obtain ⟨na, da⟩ := ia
  obtain ⟨nb, db⟩ := ib
  have K0 := Lib.hid (three' a b c w)
  go_enter Try.func6, Try.ntmps6
  go_wp2_with fail
  refine (small_any _).mono ?_
  rintro e w1 ⟨rfl, hb⟩
  have K1 := Lib.hid (K0.out.go hb); clear hb K0
  have c0a := K1.out.1.cell0; have c0b := K1.out.1.cell1; have c1a := K1.out.2.1.cell0; have c1b := K1.out.2.1.cell1; have c2a := K1.out.2.2.1.cell0; have c2b := K1.out.2.2.1.cell1
  go_wp2_with fail
  refine (rright_nd _ _ na da _).mono ?_
  rintro e w2 ⟨rfl, hb⟩
  have K2 := Lib.hid (K1.out.go hb); clear hb K1 c0a c0b c1a c1b c2a c2b
  have c0a := K2.out.1.cell0; have c0b := K2.out.1.cell1; have c1a := K2.out.2.1.cell0; have c1b := K2.out.2.1.cell1; have c2a := K2.out.2.2.1.cell0; have c2b := K2.out.2.2.1.cell1
  go_wp2_with fail
  refine (rright_nd _ _ nb db _).mono ?_
  rintro e w3 ⟨rfl, hb⟩
  have K3 := Lib.hid (K2.out.go hb); clear hb K2 c0a c0b c1a c1b c2a c2b
  go_wp2_with fail
  go_ret
  exact ⟨rfl, K3.out.below⟩
set_option maxHeartbeats 4000000 in
theorem laws_no3 (a b c : Fr) (ia : InF a) (ib : InF b) (ic : InF c) (ka : okB ⟨a.N, a.D⟩ = true) (kb : okB ⟨b.N, b.D⟩ = true) (k : okB ⟨c.N, c.D⟩ = false) (w : World) : Calls Try.prog 6 #[.agg #[.int .i64 a.N, .int .i64 a.D], .agg #[.int .i64 b.N, .int .i64 b.D], .agg #[.int .i64 c.N, .int .i64 c.D]] w (BlIs true w) := by
  obtain ⟨na, da⟩ := ia
  obtain ⟨nb, db⟩ := ib
  obtain ⟨nc, dc⟩ := ic
  have K0 := Lib.hid (three' a b c w)
  go_enter Try.func6, Try.ntmps6
  go_wp2_with fail
  refine (small_any _).mono ?_
  rintro e w1 ⟨rfl, hb⟩
  have K1 := Lib.hid (K0.out.go hb); clear hb K0
  have c0a := K1.out.1.cell0; have c0b := K1.out.1.cell1; have c1a := K1.out.2.1.cell0; have c1b := K1.out.2.1.cell1; have c2a := K1.out.2.2.1.cell0; have c2b := K1.out.2.2.1.cell1
  go_wp2_with fail
  refine (rright_nd _ _ na da _).mono ?_
  rintro e w2 ⟨rfl, hb⟩
  have K2 := Lib.hid (K1.out.go hb); clear hb K1 c0a c0b c1a c1b c2a c2b
  have c0a := K2.out.1.cell0; have c0b := K2.out.1.cell1; have c1a := K2.out.2.1.cell0; have c1b := K2.out.2.1.cell1; have c2a := K2.out.2.2.1.cell0; have c2b := K2.out.2.2.1.cell1
  go_wp2_with fail
  refine (rright_nd _ _ nb db _).mono ?_
  rintro e w3 ⟨rfl, hb⟩
  have K3 := Lib.hid (K2.out.go hb); clear hb K2 c0a c0b c1a c1b c2a c2b
  have c0a := K3.out.1.cell0; have c0b := K3.out.1.cell1; have c1a := K3.out.2.1.cell0; have c1b := K3.out.2.1.cell1; have c2a := K3.out.2.2.1.cell0; have c2b := K3.out.2.2.1.cell1
  go_wp2_with fail
  refine (rright_nd _ _ nc dc _).mono ?_
  rintro e w4 ⟨rfl, hb⟩
  have K4 := Lib.hid (K3.out.go hb); clear hb K3 c0a c0b c1a c1b c2a c2b
  go_wp2_with fail
  go_ret
  exact ⟨rfl, K4.out.below⟩
theorem laws_few (a b c : Fr) (ia : InF a) (ib : InF b) (ic : InF c) (w : World) (h : FOk a → FOk b → FOk c → Calls Try.prog 6 #[.agg #[.int .i64 a.N, .int .i64 a.D], .agg #[.int .i64 b.N, .int .i64 b.D], .agg #[.int .i64 c.N, .int .i64 c.D]] w (BlIs true w)) :
    Calls Try.prog 6 #[.agg #[.int .i64 a.N, .int .i64 a.D], .agg #[.int .i64 b.N, .int .i64 b.D], .agg #[.int .i64 c.N, .int .i64 c.D]] w (BlIs true w) := by
  by_cases ka : FOk a
  · by_cases kb : FOk b
    · by_cases kc : FOk c
      · exact h ka kb kc
      · exact laws_no3 a b c ia ib ic ((okB_iff a).2 ka) ((okB_iff b).2 kb) ((okB_no c).2 kc) w
    · exact laws_no2 a b c ia ib ((okB_iff a).2 ka) ((okB_no b).2 kb) w
  · exact laws_no1 a b c ia ((okB_no a).2 ka) w

theorem inF_add {a b : Fr} (ia : InF a) (ib : InF b) : InF (addF a b).1 := by
  by_cases h : (addF a b).2 = 0
  · unfold addF at h ⊢
    split at h
    · rename_i k; rw [if_pos k]; exact (mkF_ok h).1.inF
    · cases h
  · have : (addF a b).1 = zeroF := by
      unfold addF at h ⊢
      split
      · rename_i k; rw [if_pos k] at h; exact mkF_err h
      · rfl
    rw [this]; exact ⟨⟨by decide, by decide⟩, by decide, by decide⟩
theorem inF_mul {a b : Fr} (ia : InF a) (ib : InF b) : InF (mulF a b).1 := by
  by_cases h : (mulF a b).2 = 0
  · unfold mulF at h ⊢
    split at h
    · rename_i k; rw [if_pos k]; exact (mkF_ok h).1.inF
    · cases h
  · have : (mulF a b).1 = zeroF := by
      unfold mulF at h ⊢
      split
      · rename_i k; rw [if_pos k] at h; exact mkF_err h
      · rfl
    rw [this]; exact ⟨⟨by decide, by decide⟩, by decide, by decide⟩
theorem Fr.two {a b : Fr} (h : a = b) : a.N = b.N ∧ a.D = b.D := by subst h; exact ⟨rfl, rfl⟩

theorem laws_all (a b c : Fr) (ka : FOk a) (kb : FOk b) (kc : FOk c) (w : World) : Calls Try.prog 6 #[.agg #[.int .i64 a.N, .int .i64 a.D], .agg #[.int .i64 b.N, .int .i64 b.D], .agg #[.int .i64 c.N, .int .i64 c.D]] w (BlIs true w) := by
  have ia := ka.inF
  have ib := kb.inF
  have ic := kc.inF
  have Hab := fun w => add_any a b ia ib w
  have Hba := fun w => add_any b a ib ia w
  rw [add_comm' kb ka] at Hba
  have Hp := fun w => mul_any a b ia ib w
  have Hq := fun w => mul_any b a ib ia w
  rw [mul_comm' kb ka] at Hq
  have Hzero := fun w => add_any a zF ia zF_ok.inF w
  rw [add_zero' ka] at Hzero
  have Hone := fun w => mul_any a oF ia oF_ok.inF w
  rw [mul_one' ka] at Hone
  have Hnone := fun w => add_any a ⟨-a.N, a.D⟩ ia (neg_ok ka).inF w
  rw [add_neg' ka] at Hnone
  have Hbc := fun w => add_any b c ib ic w
  have Hl := fun w => add_any (addF a b).1 c (inF_add ia ib) ic w
  have Hr := fun w => add_any a (addF b c).1 ia (inF_add ib ic) w
  have Hac := fun w => mul_any a c ia ic w
  have Hbo := fun w => add_any (mulF a b).1 (mulF a c).1 (inF_mul ia ib) (inF_mul ia ic) w
  have Hwh := fun w => mul_any a (addF b c).1 ia (inF_add ib ic) w
  have Hx := fun w => mul_any (mulF a b).1 c (inF_mul ia ib) ic w
  have Hd := fun w => mul_any b c ib ic w
  have Hy := fun w => mul_any a (mulF b c).1 ia (inF_mul ib ic) w
  exact laws_core a.N a.D b.N b.D c.N c.D _ _ _ _ _ _ _ _ _ _ _ _ _ _ _ _ _ _ _ _ _ _ _ _ _ _ _ _ _ _ _ _ _ w ka.2.2.1 ka.2.2.2.1
    ((okB_iff a).2 ka) ((okB_iff b).2 kb) ((okB_iff c).2 kc) ia.1 ia.2 ib.1 ib.2 ic.1 ic.2
    Hab Hba Hp Hq Hzero Hone Hnone Hbc Hl Hr Hac Hbo Hwh Hx Hd Hy
    (fun h1 h2 h3 h4 => Fr.two (add_assoc' ka kb kc h1 h2 h3 h4)) (fun h1 h2 h3 h4 h5 => Fr.two (distr' ka kb kc h1 h2 h3 h4 h5)) (fun h1 h2 h3 h4 => Fr.two (mul_assoc' ka kb kc h1 h3 h2 h4))
theorem laws_walk (a b c : Fr) (ia : InF a) (ib : InF b) (ic : InF c) (w : World) : Calls Try.prog 6 #[.agg #[.int .i64 a.N, .int .i64 a.D], .agg #[.int .i64 b.N, .int .i64 b.D], .agg #[.int .i64 c.N, .int .i64 c.D]] w (BlIs true w) :=
  laws_few a b c ia ib ic w fun ka kb kc => laws_all a b c ka kb kc w
end Go.Proofs.Ytlkpebcmdkmfjaa
