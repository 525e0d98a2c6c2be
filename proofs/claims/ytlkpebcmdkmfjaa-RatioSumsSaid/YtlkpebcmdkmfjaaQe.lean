/-
  Contracts of package ratio: Add, Mul.
-/
import Derived.Test.YtlkpebcmdkmfjaaQd
set_option linter.unusedVariables false
set_option maxRecDepth 100000
namespace Go.Proofs.Ytlkpebcmdkmfjaa
open Go.RowKit


theorem addF_no (a b : Fr) (k : ¬ (FOk a ∧ FOk b)) : addF a b = (zeroF, 1) := by
  unfold addF
  by_cases ha : FOk a
  · rw [(okB_iff a).2 ha, (okB_no b).2 (fun h => k ⟨ha, h⟩)]; rfl
  · rw [(okB_no a).2 ha]; rfl
theorem bothAdd_any (a b : Fr) (ia : InF a) (ib : InF b) (p q u v : Nat) (w : World) (A : FrAt w p a) (B : FrAt w q b) (S : FrAt w u zeroF) (E : NmAt 25 w v 1) (h1 : p < u) (h2 : q < u) (h3 : u < v) :
    Calls Try.prog 33 #[.agg #[.int .i64 a.N, .int .i64 a.D], .agg #[.int .i64 b.N, .int .i64 b.D], .func (.func 34) #[] #[.pointer (some ⟨p, 0, none⟩), .pointer (some ⟨q, 0, none⟩), .pointer (some ⟨u, 0, none⟩), .pointer (some ⟨v, 0, none⟩)]] w (AddPost 25 (addF a b) u v w) := by
  by_cases k : FOk a ∧ FOk b
  · obtain ⟨ka, kb⟩ := k
    refine (bothAdd_yes a b ka kb p q u v w (fun w1 w' => FrAt w' u (addF a b).1 ∧ NmAt 25 w' v (addF a b).2 ∧ Below u w1 w') (fun w1 hw => ?_)).mono ?_
    · exact addC_any a b zeroF 1 p q u v w1 ka kb (A.below hw A.lt) (B.below hw B.lt) (S.below hw S.lt) (E.below hw E.lt) h1 h2 h3
    · rintro e w' ⟨rfl, w1, hw, k1, k2, k3⟩
      exact ⟨rfl, k1, k2, (hw.mono (Nat.le_of_lt S.lt)).trans k3⟩
  · refine (bothAdd_no a b ia ib k p q u v w).mono ?_
    rintro e w' ⟨rfl, hw⟩
    rw [addF_no a b k]
    exact ⟨rfl, S.below hw S.lt, E.below hw E.lt, hw.mono (Nat.le_of_lt S.lt)⟩

set_option maxHeartbeats 4000000 in
theorem add_any (a b : Fr) (ia : InF a) (ib : InF b) (w : World) : Calls Try.prog 12 #[.agg #[.int .i64 a.N, .int .i64 a.D], .agg #[.int .i64 b.N, .int .i64 b.D]] w (FrIs (addF a b) w) := by
  have hm := fun W A B S E => bothAdd_any a b ia ib w.heap.size (w.heap.size + 1) (w.heap.size + 1 + 1 + 1) (w.heap.size + 1 + 1 + 1 + 1) W A B S E (by omega) (by omega) (by omega)
  generalize addF a b = x at *
  obtain ⟨x, xe⟩ := x
  have HM := Lib.hid hm; clear hm
  go_enter Try.func12, Try.ntmps12
  go_wp2_with fail
  refine (HM.out _ (((((FrAt.new' w a _ rfl).alloc _).alloc _).alloc _).alloc _) ((((FrAt.new' _ b _ (by simp)).alloc _).alloc _).alloc _) ((FrAt.new' _ zeroF _ (by simp)).alloc _) (NmAt.new' _ _ 1 _ (by simp))).mono ?_
  rintro e w1 ⟨rfl, hS, hE, hb⟩
  have hT : FrAt w1 (w.heap.size + 1 + 1) zeroF := (((FrAt.new' _ zeroF _ (by simp)).alloc _).alloc _).below hb (by omega)
  have hB : Below w.heap.size w w1 := by
    refine Below.trans ?_ (hb.mono (by omega))
    (repeat' first | exact Below.refl _ _ | assumption | (apply below_drewN) | (refine Below.setCell ?_ (by (try simp); (try omega)) _) | (refine Below.alloc ?_ (by (try simp); (try omega)) _) | (refine Below.trans ?_ (Below.mono (Hid.out (by assumption)) (by (try simp); (try omega)))))
  have s0 := hS.cell0; have s1 := hS.cell1; have e0 := hE.cell0
  have t0 := hT.cell0; have t1 := hT.cell1; have f0 := hT.froz 0; have f1 := hT.froz 1
  have HB := Lib.hid hB
  clear hS hE hT hb hB
  go_wp2
  go_region
  all_goals go_wp2
  all_goals exact bodyPost_ret (v := .tuple #[.agg #[.int .i64 x.N, .int .i64 x.D], .int .i64 xe]) (by simp [results, Try.results12, go_sem, t0, t1]) rfl (FrIs.of rfl rfl rfl (by have := HB.out; (repeat' first | exact Below.refl _ _ | assumption | (apply below_drewN) | (refine Below.setCell ?_ (by (try simp); (try omega)) _) | (refine Below.alloc ?_ (by (try simp); (try omega)) _) | (refine Below.trans ?_ (Below.mono (Hid.out (by assumption)) (by (try simp); (try omega)))))))

set_option maxHeartbeats 4000000 in
theorem mulC_any (a b z : Fr) (c : Int) (ba bb bs be : Nat) (w : World) (ha : FOk a) (hb : FOk b) (A : FrAt w ba a) (B : FrAt w bb b) (S : FrAt w bs z) (E : NmAt 25 w be c) (h1 : ba < bs) (h2 : bb < bs) (h3 : bs < be) :
    Calls Try.prog 35 #[.pointer (some ⟨ba, 0, none⟩), .pointer (some ⟨bb, 0, none⟩), .pointer (some ⟨bs, 0, none⟩), .pointer (some ⟨be, 0, none⟩)] w (AddPost 25 (mulF a b) bs be w) := by
  have m1 := mul_bd ha.abs.1 hb.abs.1
  have m3 := mul_bd ha.abs.2 hb.abs.2
  have hm := fun w => make_any (a.N * b.N) (a.D * b.D) ⟨by omega, by omega⟩ ⟨by omega, by omega⟩ w
  rw [← mulF_ok ha hb] at hm
  generalize mulF a b = x at *
  obtain ⟨x, xe⟩ := x
  have HM := Lib.hid hm; clear hm ha hb
  have a0 := A.cell0; have a1 := A.cell1; have b0 := B.cell0; have b1 := B.cell1
  have s0 := S.froz 0; have s1 := S.froz 1; have e0 := E.froz 0
  have sc0 := S.cell0; have sc1 := S.cell1; have ec0 := E.cell0
  have ls := S.lt; have le := E.lt
  have HS := Lib.hid S; have HE := Lib.hid E; clear A B S E
  go_enter Try.func35, Try.ntmps35
  go_wp2_with (go_at_call 10; refine (HM.out _).mono ?_; rintro e w1 ⟨rfl, hb⟩; obtain ⟨hc, hf⟩ := bcell hb; have hz := hb.size; have HBl := Lib.hid hb; clear hb)
  go_end0
  exact ⟨rfl, ((HS.out.below HBl.out ls).set x).far (by omega), (((HE.out.below HBl.out le).far (by omega)).far (by omega)).set xe, by (repeat' first | exact Below.refl _ _ | assumption | (apply below_drewN) | (refine Below.setCell ?_ (by (try simp); (try omega)) _) | (refine Below.alloc ?_ (by (try simp); (try omega)) _) | (refine Below.trans ?_ (Below.mono (Hid.out (by assumption)) (by (try simp); (try omega)))))⟩

theorem mulF_no (a b : Fr) (k : ¬ (FOk a ∧ FOk b)) : mulF a b = (zeroF, 1) := by
  unfold mulF
  by_cases ha : FOk a
  · rw [(okB_iff a).2 ha, (okB_no b).2 (fun h => k ⟨ha, h⟩)]; rfl
  · rw [(okB_no a).2 ha]; rfl
theorem bothMul_any (a b : Fr) (ia : InF a) (ib : InF b) (p q u v : Nat) (w : World) (A : FrAt w p a) (B : FrAt w q b) (S : FrAt w u zeroF) (E : NmAt 25 w v 1) (h1 : p < u) (h2 : q < u) (h3 : u < v) :
    Calls Try.prog 33 #[.agg #[.int .i64 a.N, .int .i64 a.D], .agg #[.int .i64 b.N, .int .i64 b.D], .func (.func 35) #[] #[.pointer (some ⟨p, 0, none⟩), .pointer (some ⟨q, 0, none⟩), .pointer (some ⟨u, 0, none⟩), .pointer (some ⟨v, 0, none⟩)]] w (AddPost 25 (mulF a b) u v w) := by
  by_cases k : FOk a ∧ FOk b
  · obtain ⟨ka, kb⟩ := k
    refine (bothMul_yes a b ka kb p q u v w (fun w1 w' => FrAt w' u (mulF a b).1 ∧ NmAt 25 w' v (mulF a b).2 ∧ Below u w1 w') (fun w1 hw => ?_)).mono ?_
    · exact mulC_any a b zeroF 1 p q u v w1 ka kb (A.below hw A.lt) (B.below hw B.lt) (S.below hw S.lt) (E.below hw E.lt) h1 h2 h3
    · rintro e w' ⟨rfl, w1, hw, k1, k2, k3⟩
      exact ⟨rfl, k1, k2, (hw.mono (Nat.le_of_lt S.lt)).trans k3⟩
  · refine (bothMul_no a b ia ib k p q u v w).mono ?_
    rintro e w' ⟨rfl, hw⟩
    rw [mulF_no a b k]
    exact ⟨rfl, S.below hw S.lt, E.below hw E.lt, hw.mono (Nat.le_of_lt S.lt)⟩

set_option maxHeartbeats 4000000 in
theorem mul_any (a b : Fr) (ia : InF a) (ib : InF b) (w : World) : Calls Try.prog 14 #[.agg #[.int .i64 a.N, .int .i64 a.D], .agg #[.int .i64 b.N, .int .i64 b.D]] w (FrIs (mulF a b) w) := by
  have hm := fun W A B S E => bothMul_any a b ia ib w.heap.size (w.heap.size + 1) (w.heap.size + 1 + 1 + 1) (w.heap.size + 1 + 1 + 1 + 1) W A B S E (by omega) (by omega) (by omega)
  generalize mulF a b = x at *
  obtain ⟨x, xe⟩ := x
  have HM := Lib.hid hm; clear hm
  go_enter Try.func14, Try.ntmps14
  go_wp2_with fail
  refine (HM.out _ (((((FrAt.new' w a _ rfl).alloc _).alloc _).alloc _).alloc _) ((((FrAt.new' _ b _ (by simp)).alloc _).alloc _).alloc _) ((FrAt.new' _ zeroF _ (by simp)).alloc _) (NmAt.new' _ _ 1 _ (by simp))).mono ?_
  rintro e w1 ⟨rfl, hS, hE, hb⟩
  have hT : FrAt w1 (w.heap.size + 1 + 1) zeroF := (((FrAt.new' _ zeroF _ (by simp)).alloc _).alloc _).below hb (by omega)
  have hB : Below w.heap.size w w1 := by
    refine Below.trans ?_ (hb.mono (by omega))
    (repeat' first | exact Below.refl _ _ | assumption | (apply below_drewN) | (refine Below.setCell ?_ (by (try simp); (try omega)) _) | (refine Below.alloc ?_ (by (try simp); (try omega)) _) | (refine Below.trans ?_ (Below.mono (Hid.out (by assumption)) (by (try simp); (try omega)))))
  have s0 := hS.cell0; have s1 := hS.cell1; have e0 := hE.cell0
  have t0 := hT.cell0; have t1 := hT.cell1; have f0 := hT.froz 0; have f1 := hT.froz 1
  have HB := Lib.hid hB
  clear hS hE hT hb hB
  go_wp2
  go_region
  all_goals go_wp2
  all_goals exact bodyPost_ret (v := .tuple #[.agg #[.int .i64 x.N, .int .i64 x.D], .int .i64 xe]) (by simp [results, Try.results14, go_sem, t0, t1]) rfl (FrIs.of rfl rfl rfl (by have := HB.out; (repeat' first | exact Below.refl _ _ | assumption | (apply below_drewN) | (refine Below.setCell ?_ (by (try simp); (try omega)) _) | (refine Below.alloc ?_ (by (try simp); (try omega)) _) | (refine Below.trans ?_ (Below.mono (Hid.out (by assumption)) (by (try simp); (try omega)))))))
end Go.Proofs.Ytlkpebcmdkmfjaa
