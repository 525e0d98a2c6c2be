/-
  The walk of RatioOrders.
-/
import Derived.Test.YtlkpebcmdkmfjaaQm
set_option linter.unusedVariables false
set_option maxRecDepth 100000
namespace Go.Proofs.Ytlkpebcmdkmfjaa
open Go.RowKit

theorem orders_no1 (a b c : Fr) (ia : InF a) (k : okB ⟨a.N, a.D⟩ = false) (w : World) : Calls Try.prog 5 #[.agg #[.int .i64 a.N, .int .i64 a.D], .agg #[.int .i64 b.N, .int .i64 b.D], .agg #[.int .i64 c.N, .int .i64 c.D]] w (BlIs true w) := by
  obtain ⟨na, da⟩ := ia
  have K0 := Lib.hid (three a b c w)
  go_enter Try.func5, Try.ntmps5
  go_wp2_with fail
  refine (small_any _).mono ?_
  rintro e w1 ⟨rfl, hb⟩
  have K1 := Lib.hid (K0.out.go hb); clear hb K0
  have c0a := K1.out.1.cell0; have c0b := K1.out.1.cell1; have c1a := K1.out.2.1.cell0; have c1b := K1.out.2.1.cell1; have c2a := K1.out.2.2.1.cell0; have c2b := K1.out.2.2.1.cell1
  go_wp2_with fail
  refine (rright_nd _ _ na da _).mono ?_
  rintro e w2 ⟨rfl, hb⟩
  have K2 := Lib.hid (K1.out.go hb); clear hb K1 c0a c0b c1a c1b c2a c2b
  go_wp2_with fail
  go_ret
  exact ⟨rfl, K2.out.below⟩
set_option maxHeartbeats 4000000 in
theorem orders_no2 (a b c : Fr) (ia : InF a) (ib : InF b) (ka : okB ⟨a.N, a.D⟩ = true) (k : okB ⟨b.N, b.D⟩ = false) (w : World) : Calls Try.prog 5 #[.agg #[.int .i64 a.N, .int .i64 a.D], .agg #[.int .i64 b.N, .int .i64 b.D], .agg #[.int .i64 c.N, .int .i64 c.D]] w (BlIs true w) := by
  obtain ⟨na, da⟩ := ia
  obtain ⟨nb, db⟩ := ib
  have K0 := Lib.hid (three a b c w)
  go_enter Try.func5, Try.ntmps5
  go_wp2_with fail
  refine (small_any _).mono ?_
  rintro e w1 ⟨rfl, hb⟩
  have K1 := Lib.hid (K0.out.go hb); clear hb K0
  have c0a := K1.out.1.cell0; have c0b := K1.out.1.cell1; have c1a := K1.out.2.1.cell0; have c1b := K1.out.2.1.cell1; have c2a := K1.out.2.2.1.cell0; have c2b := K1.out.2.2.1.cell1
  go_wp2_with fail
  refine (rright_nd _ _ na da _).mono ?_
  rintro e w2 ⟨rfl, hb⟩
  have K2 := Lib.hid (K1.out.go hb); clear hb K1 c0a c0b c1a c1b c2a c2b
  have c0a := K2.out.1.cell0; have c0b := K2.out.1.cell1; have c1a := K2.out.2.1.cell0; have c1b := K2.out.2.1.cell1; have c2a := K2.out.2.2.1.cell0; have c2b := K2.out.2.2.1.cell1
  go_wp2_with fail
  refine (rright_nd _ _ nb db _).mono ?_
  rintro e w3 ⟨rfl, hb⟩
  have K3 := Lib.hid (K2.out.go hb); clear hb K2 c0a c0b c1a c1b c2a c2b
  go_wp2_with fail
  go_ret
  exact ⟨rfl, K3.out.below⟩
set_option maxHeartbeats 4000000 in
theorem orders_no3 (a b c : Fr) (ia : InF a) (ib : InF b) (ic : InF c) (ka : okB ⟨a.N, a.D⟩ = true) (kb : okB ⟨b.N, b.D⟩ = true) (k : okB ⟨c.N, c.D⟩ = false) (w : World) : Calls Try.prog 5 #[.agg #[.int .i64 a.N, .int .i64 a.D], .agg #[.int .i64 b.N, .int .i64 b.D], .agg #[.int .i64 c.N, .int .i64 c.D]] w (BlIs true w) := by
  obtain ⟨na, da⟩ := ia
  obtain ⟨nb, db⟩ := ib
  obtain ⟨nc, dc⟩ := ic
  have K0 := Lib.hid (three a b c w)
  go_enter Try.func5, Try.ntmps5
  go_wp2_with fail
  refine (small_any _).mono ?_
  rintro e w1 ⟨rfl, hb⟩
  have K1 := Lib.hid (K0.out.go hb); clear hb K0
  have c0a := K1.out.1.cell0; have c0b := K1.out.1.cell1; have c1a := K1.out.2.1.cell0; have c1b := K1.out.2.1.cell1; have c2a := K1.out.2.2.1.cell0; have c2b := K1.out.2.2.1.cell1
  go_wp2_with fail
  refine (rright_nd _ _ na da _).mono ?_
  rintro e w2 ⟨rfl, hb⟩
  have K2 := Lib.hid (K1.out.go hb); clear hb K1 c0a c0b c1a c1b c2a c2b
  have c0a := K2.out.1.cell0; have c0b := K2.out.1.cell1; have c1a := K2.out.2.1.cell0; have c1b := K2.out.2.1.cell1; have c2a := K2.out.2.2.1.cell0; have c2b := K2.out.2.2.1.cell1
  go_wp2_with fail
  refine (rright_nd _ _ nb db _).mono ?_
  rintro e w3 ⟨rfl, hb⟩
  have K3 := Lib.hid (K2.out.go hb); clear hb K2 c0a c0b c1a c1b c2a c2b
  have c0a := K3.out.1.cell0; have c0b := K3.out.1.cell1; have c1a := K3.out.2.1.cell0; have c1b := K3.out.2.1.cell1; have c2a := K3.out.2.2.1.cell0; have c2b := K3.out.2.2.1.cell1
  go_wp2_with fail
  refine (rright_nd _ _ nc dc _).mono ?_
  rintro e w4 ⟨rfl, hb⟩
  have K4 := Lib.hid (K3.out.go hb); clear hb K3 c0a c0b c1a c1b c2a c2b
  go_wp2_with fail
  go_ret
  exact ⟨rfl, K4.out.below⟩
theorem orders_few (a b c : Fr) (ia : InF a) (ib : InF b) (ic : InF c) (w : World) (h : FOk a → FOk b → FOk c → Calls Try.prog 5 #[.agg #[.int .i64 a.N, .int .i64 a.D], .agg #[.int .i64 b.N, .int .i64 b.D], .agg #[.int .i64 c.N, .int .i64 c.D]] w (BlIs true w)) :
    Calls Try.prog 5 #[.agg #[.int .i64 a.N, .int .i64 a.D], .agg #[.int .i64 b.N, .int .i64 b.D], .agg #[.int .i64 c.N, .int .i64 c.D]] w (BlIs true w) := by
  by_cases ka : FOk a
  · by_cases kb : FOk b
    · by_cases kc : FOk c
      · exact h ka kb kc
      · exact orders_no3 a b c ia ib ic ((okB_iff a).2 ka) ((okB_iff b).2 kb) ((okB_no c).2 kc) w
    · exact orders_no2 a b c ia ib ((okB_iff a).2 ka) ((okB_no b).2 kb) w
  · exact orders_no1 a b c ia ((okB_no a).2 ka) w

theorem pair_eq {a : Fr × Int} {x : Fr} (h : a.1 = x) : a = (⟨x.N, x.D⟩, a.2) := by subst h; rfl
theorem orders_all (a b c : Fr) (ka : FOk a) (kb : FOk b) (kc : FOk c) (w : World) : Calls Try.prog 5 #[.agg #[.int .i64 a.N, .int .i64 a.D], .agg #[.int .i64 b.N, .int .i64 b.D], .agg #[.int .i64 c.N, .int .i64 c.D]] w (BlIs true w) := by
  have oa : okB ⟨a.N, a.D⟩ = true := (okB_iff a).2 ka
  have ob : okB ⟨b.N, b.D⟩ = true := (okB_iff b).2 kb
  have oc : okB ⟨c.N, c.D⟩ = true := (okB_iff c).2 kc
  have HCab := fun w => compare_any a b ka.inF kb.inF w
  have HCba := fun w => compare_any b a kb.inF ka.inF w
  have HCbc := fun w => compare_any b c kb.inF kc.inF w
  have HCac := fun w => compare_any a c ka.inF kc.inF w
  have HMin := fun w => min_any a b ka.inF kb.inF w
  have HMax := fun w => max_any a b ka.inF kb.inF w
  have HSa := fun w => add_any a c ka.inF kc.inF w
  have HSb := fun w => add_any b c kb.inF kc.inF w
  have hz := fun h1 h2 => cmp_trans' ka kb kc h1 h2
  have hn := cmp_neg' ka kb
  have h0 := cmp_zero' ka kb
  have hbd := cmp_bd' a b
  have hmm := min_max' ka kb
  have hst : (addF a c).2 = 0 → (addF b c).2 = 0 → ∀ w, Calls Try.prog 18 #[.agg #[.int .i64 (addF a c).1.N, .int .i64 (addF a c).1.D], .agg #[.int .i64 (addF b c).1.N, .int .i64 (addF b c).1.D]] w (InIs (cmpF a b) w) := fun e1 e2 w => by
    have v1 := (FVal.self ka).add (FVal.self kc) e1
    have v2 := (FVal.self kb).add (FVal.self kc) e2
    have := compare_any (addF a c).1 (addF b c).1 v1.1.inF v2.1.inF w
    rwa [cmp_add' ka kb kc e1 e2] at this
  obtain ⟨na, da⟩ := ka.inF
  obtain ⟨nb, db⟩ := kb.inF
  obtain ⟨nc, dc⟩ := kc.inF
  rw [hn] at HCba hmm
  generalize addF a c = s at *
  generalize addF b c = t at *
  obtain ⟨⟨sn, sd⟩, es⟩ := s
  obtain ⟨⟨tn, td⟩, et⟩ := t
  by_cases hxz : cmpF a b = 0
  · have hab := h0.1 hxz
    subst hab
    rw [hxz] at HCab HCba hst hz
    have h1 : minF a a = a := by rcases hmm with h | h <;> exact h.1
    have h2 : maxF a a = a := by rcases hmm with h | h <;> exact h.2.1
    rw [h1] at HMin
    rw [h2] at HMax
    exact orders_same a.N a.D c.N c.D _ _ sn sd tn td es et w (fun h => hz (by omega) h) oa ob oc na da nb db nc dc HCab HCba HCbc HCac HMin HMax HSa HSb hst
  · have hx0 : (cmpF a b == 0) = false := by simp [hxz]
    have hne : ¬ a = b := fun h => hxz (h0.2 h)
    generalize cmpF a b = x at *
    by_cases hN : a.N = b.N
    · have hD : ¬ a.D = b.D := fun h => hne (Fr.eq hN h)
      obtain ⟨an, ad⟩ := a
      obtain ⟨bn, bd⟩ := b
      simp only [] at hN hD
      subst hN
      rcases hmm with ⟨h1, h2, h3⟩ | ⟨h1, h2, h3⟩
      · rw [h1] at HMin
        rw [h2] at HMax
        exact orders_d1 an ad bd c.N c.D x _ _ sn sd tn td es et w hD hx0 (by omega) h3 (fun h => hz h3 h) oa ob oc na da nb db nc dc HCab HCba HCbc HCac HMin HMax HSa HSb hst
      · rw [h1] at HMin
        rw [h2] at HMax
        exact orders_d2 an ad bd c.N c.D x _ _ sn sd tn td es et w hD (fun h => hD h.symm) hx0 (by omega) (by omega) oa ob oc na da nb db nc dc HCab HCba HCbc HCac HMin HMax HSa HSb hst
    · rcases hmm with ⟨h1, h2, h3⟩ | ⟨h1, h2, h3⟩
      · rw [h1] at HMin
        rw [h2] at HMax
        exact orders_n1 a.N a.D b.N b.D c.N c.D x _ _ sn sd tn td es et w hN hx0 (by omega) h3 (fun h => hz h3 h) oa ob oc na da nb db nc dc HCab HCba HCbc HCac HMin HMax HSa HSb hst
      · rw [h1] at HMin
        rw [h2] at HMax
        exact orders_n2 a.N a.D b.N b.D c.N c.D x _ _ sn sd tn td es et w hN (fun h => hN h.symm) hx0 (by omega) (by omega) oa ob oc na da nb db nc dc HCab HCba HCbc HCac HMin HMax HSa HSb hst
theorem orders_walk (a b c : Fr) (ia : InF a) (ib : InF b) (ic : InF c) (w : World) : Calls Try.prog 5 #[.agg #[.int .i64 a.N, .int .i64 a.D], .agg #[.int .i64 b.N, .int .i64 b.D], .agg #[.int .i64 c.N, .int .i64 c.D]] w (BlIs true w) :=
  orders_few a b c ia ib ic w fun ka kb kc => orders_all a b c ka kb kc w
end Go.Proofs.Ytlkpebcmdkmfjaa
