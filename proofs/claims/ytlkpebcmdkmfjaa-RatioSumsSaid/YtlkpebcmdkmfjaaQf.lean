/-
  Contracts of package ratio: Compare, Min, Max.
-/
import Derived.Test.YtlkpebcmdkmfjaaQe
set_option linter.unusedVariables false
set_option maxRecDepth 100000
namespace Go.Proofs.Ytlkpebcmdkmfjaa
open Go.RowKit

def CPost (t : TypeId) (x : Int) (bo : Nat) (w : World) (e : Ending) (w' : World) : Prop := e = .returned (.tuple #[]) ∧ NmAt t w' bo x ∧ Below bo w w'
def FPost (bs : Nat) (x : Fr) (w : World) (e : Ending) (w' : World) : Prop := e = .returned (.tuple #[]) ∧ FrAt w' bs x ∧ Below bs w w'
/-- one fraction, in new memory. -/
def FIs (x : Fr) (w : World) (e : Ending) (w' : World) : Prop := e = .returned (.agg #[.int .i64 x.N, .int .i64 x.D]) ∧ Below w.heap.size w w'

set_option maxHeartbeats 4000000 in
theorem cmpC_any (a b : Fr) (c : Int) (ba bb bo : Nat) (w : World) (ha : FOk a) (hb : FOk b) (A : FrAt w ba a) (B : FrAt w bb b) (S : NmAt 3 w bo c) (h1 : ba < bo) (h2 : bb < bo) :
    Calls Try.prog 36 #[.pointer (some ⟨ba, 0, none⟩), .pointer (some ⟨bb, 0, none⟩), .pointer (some ⟨bo, 0, none⟩)] w (CPost 3 (cmpI (a.N * b.D) (b.N * a.D)) bo w) := by
  have m1 := mul_bd ha.abs.1 hb.abs.2
  have m2 := mul_bd hb.abs.1 ha.abs.2
  have HM := Lib.hid (fun w => cmp_any (a.N * b.D) (b.N * a.D) w)
  generalize cmpI (a.N * b.D) (b.N * a.D) = x at *
  have a0 := A.cell0; have a1 := A.cell1; have b0 := B.cell0; have b1 := B.cell1
  have s0 := S.froz 0; have sc0 := S.cell0
  have HS := Lib.hid S; clear A B S ha hb
  go_enter Try.func36, Try.ntmps36
  go_wp2_with (go_at_call 37; refine (HM.out _).mono ?_; rintro e w1 ⟨rfl, rfl⟩)
  go_end0
  exact ⟨rfl, HS.out.set x, by (repeat' first | exact Below.refl _ _ | assumption | (apply below_drewN) | (refine Below.setCell ?_ (by (try simp); (try omega)) _) | (refine Below.alloc ?_ (by (try simp); (try omega)) _) | (refine Below.trans ?_ (Below.mono (Hid.out (by assumption)) (by (try simp); (try omega)))))⟩
theorem cmpF_no (a b : Fr) (k : ¬ (FOk a ∧ FOk b)) : cmpF a b = 0 := by
  unfold cmpF
  by_cases ha : FOk a
  · rw [(okB_iff a).2 ha, (okB_no b).2 (fun h => k ⟨ha, h⟩)]; rfl
  · rw [(okB_no a).2 ha]; rfl
theorem bothCmp_any (a b : Fr) (ia : InF a) (ib : InF b) (p q u : Nat) (w : World) (A : FrAt w p a) (B : FrAt w q b) (S : NmAt 3 w u 0) (h1 : p < u) (h2 : q < u) :
    Calls Try.prog 33 #[.agg #[.int .i64 a.N, .int .i64 a.D], .agg #[.int .i64 b.N, .int .i64 b.D], .func (.func 36) #[] #[.pointer (some ⟨p, 0, none⟩), .pointer (some ⟨q, 0, none⟩), .pointer (some ⟨u, 0, none⟩)]] w (CPost 3 (cmpF a b) u w) := by
  by_cases k : FOk a ∧ FOk b
  · obtain ⟨ka, kb⟩ := k
    rw [cmpF_ok ka kb]
    refine (bothCmp_yes a b ka kb p q u w (fun w1 w' => NmAt 3 w' u (cmpI (a.N * b.D) (b.N * a.D)) ∧ Below u w1 w') (fun w1 hw => ?_)).mono ?_
    · exact cmpC_any a b 0 p q u w1 ka kb (A.below hw A.lt) (B.below hw B.lt) (S.below hw S.lt) h1 h2
    · rintro e w' ⟨rfl, w1, hw, k1, k3⟩
      exact ⟨rfl, k1, (hw.mono (Nat.le_of_lt S.lt)).trans k3⟩
  · refine (bothCmp_no a b ia ib k p q u w).mono ?_
    rintro e w' ⟨rfl, hw⟩
    rw [cmpF_no a b k]
    exact ⟨rfl, S.below hw S.lt, hw.mono (Nat.le_of_lt S.lt)⟩
set_option maxHeartbeats 4000000 in
theorem compare_any (a b : Fr) (ia : InF a) (ib : InF b) (w : World) : Calls Try.prog 18 #[.agg #[.int .i64 a.N, .int .i64 a.D], .agg #[.int .i64 b.N, .int .i64 b.D]] w (InIs (cmpF a b) w) := by
  have hm := fun W A B S => bothCmp_any a b ia ib w.heap.size (w.heap.size + 1) (w.heap.size + 1 + 1) W A B S (by omega) (by omega)
  generalize cmpF a b = x at *
  have HM := Lib.hid hm; clear hm
  go_enter Try.func18, Try.ntmps18
  go_wp2_with fail
  refine (HM.out _ (((FrAt.new' w a _ rfl).alloc _).alloc _) ((FrAt.new' _ b _ (by simp)).alloc _) (NmAt.new' _ _ 0 _ (by simp))).mono ?_
  rintro e w1 ⟨rfl, hS, hb⟩
  have hB : Below w.heap.size w w1 := by
    refine Below.trans ?_ (hb.mono (by omega))
    (repeat' first | exact Below.refl _ _ | assumption | (apply below_drewN) | (refine Below.setCell ?_ (by (try simp); (try omega)) _) | (refine Below.alloc ?_ (by (try simp); (try omega)) _) | (refine Below.trans ?_ (Below.mono (Hid.out (by assumption)) (by (try simp); (try omega)))))
  have s0 := hS.cell0
  have HB := Lib.hid hB
  clear hS hb hB
  go_wp2
  go_ret
  exact ⟨rfl, HB.out⟩

def minR (a b : Fr) : Fr := if cmpF b a < 0 then b else a
theorem minF_ok {a b : Fr} (ha : FOk a) (hb : FOk b) : minF a b = minR a b := by unfold minF minR; rw [(okB_iff a).2 ha, (okB_iff b).2 hb]; rfl
theorem minF_no (a b : Fr) (k : ¬ (FOk a ∧ FOk b)) : minF a b = zeroF := by
  unfold minF
  by_cases ha : FOk a
  · rw [(okB_iff a).2 ha, (okB_no b).2 (fun h => k ⟨ha, h⟩)]; rfl
  · rw [(okB_no a).2 ha]; rfl
set_option maxHeartbeats 4000000 in
theorem minC_any (a b z : Fr) (ba bs bb : Nat) (w : World) (ha : FOk a) (hb : FOk b) (A : FrAt w ba a) (B : FrAt w bb b) (S : FrAt w bs z) (h1 : ba < bs) (h2 : bb < bs) :
    Calls Try.prog 38 #[.pointer (some ⟨ba, 0, none⟩), .pointer (some ⟨bs, 0, none⟩), .pointer (some ⟨bb, 0, none⟩)] w (FPost bs (minR a b) w) := by
  have HM := Lib.hid (fun w => compare_any b a hb.inF ha.inF w)
  have a0 := A.cell0; have a1 := A.cell1; have b0 := B.cell0; have b1 := B.cell1
  have s0 := S.froz 0; have s1 := S.froz 1
  have sc0 := S.cell0; have sc1 := S.cell1
  have ls := S.lt; have la := A.lt; have lb := B.lt
  have n1 : ba ≠ bs := by omega
  have n2 : bb ≠ bs := by omega
  have HS := Lib.hid S; have HA := Lib.hid A; have HB := Lib.hid B; clear A B S ha hb
  by_cases hcmp : cmpF b a < 0
  · have hR : minR a b = b := if_pos hcmp
    rw [hR]; clear hR
    generalize cmpF b a = c at *
    go_enter Try.func38, Try.ntmps38
    go_wp2_with (go_at_call 18; refine (HM.out _).mono ?_; rintro e w1 ⟨rfl, hb⟩; obtain ⟨hc, hf⟩ := bcell hb; have hz := hb.size; (try simp at hz); have la1 : ba < w1.heap.size := (by omega); have lb1 : bb < w1.heap.size := (by omega); have ls1 : bs < w1.heap.size := (by omega); have HBl := Lib.hid hb; clear hb)
    go_end0
    exact ⟨rfl, ((HS.out.set a).below HBl.out (by simp; omega)).set b, by (repeat' first | exact Below.refl _ _ | assumption | (apply below_drewN) | (refine Below.setCell ?_ (by (try simp); (try omega)) _) | (refine Below.alloc ?_ (by (try simp); (try omega)) _) | (refine Below.trans ?_ (Below.mono (Hid.out (by assumption)) (by (try simp); (try omega)))))⟩
  · have hR : minR a b = a := if_neg hcmp
    rw [hR]; clear hR
    generalize cmpF b a = c at *
    go_enter Try.func38, Try.ntmps38
    go_wp2_with (go_at_call 18; refine (HM.out _).mono ?_; rintro e w1 ⟨rfl, hb⟩; obtain ⟨hc, hf⟩ := bcell hb; have hz := hb.size; (try simp at hz); have la1 : ba < w1.heap.size := (by omega); have lb1 : bb < w1.heap.size := (by omega); have ls1 : bs < w1.heap.size := (by omega); have HBl := Lib.hid hb; clear hb)
    go_end0
    exact ⟨rfl, (HS.out.set a).below HBl.out (by simp; omega), by (repeat' first | exact Below.refl _ _ | assumption | (apply below_drewN) | (refine Below.setCell ?_ (by (try simp); (try omega)) _) | (refine Below.alloc ?_ (by (try simp); (try omega)) _) | (refine Below.trans ?_ (Below.mono (Hid.out (by assumption)) (by (try simp); (try omega)))))⟩
theorem bothMin_any (a b : Fr) (ia : InF a) (ib : InF b) (p q u : Nat) (w : World) (A : FrAt w p a) (B : FrAt w q b) (S : FrAt w u zeroF) (h1 : p < u) (h2 : q < u) :
    Calls Try.prog 33 #[.agg #[.int .i64 a.N, .int .i64 a.D], .agg #[.int .i64 b.N, .int .i64 b.D], .func (.func 38) #[] #[.pointer (some ⟨p, 0, none⟩), .pointer (some ⟨u, 0, none⟩), .pointer (some ⟨q, 0, none⟩)]] w (FPost u (minF a b) w) := by
  by_cases k : FOk a ∧ FOk b
  · obtain ⟨ka, kb⟩ := k
    rw [minF_ok ka kb]
    refine (bothMin_yes a b ka kb p u q w (fun w1 w' => FrAt w' u (minR a b) ∧ Below u w1 w') (fun w1 hw => ?_)).mono ?_
    · exact minC_any a b zeroF p u q w1 ka kb (A.below hw A.lt) (B.below hw B.lt) (S.below hw S.lt) h1 h2
    · rintro e w' ⟨rfl, w1, hw, k1, k3⟩
      exact ⟨rfl, k1, (hw.mono (Nat.le_of_lt S.lt)).trans k3⟩
  · refine (bothMin_no a b ia ib k p u q w).mono ?_
    rintro e w' ⟨rfl, hw⟩
    rw [minF_no a b k]
    exact ⟨rfl, S.below hw S.lt, hw.mono (Nat.le_of_lt S.lt)⟩

set_option maxHeartbeats 4000000 in
theorem min_any (a b : Fr) (ia : InF a) (ib : InF b) (w : World) : Calls Try.prog 20 #[.agg #[.int .i64 a.N, .int .i64 a.D], .agg #[.int .i64 b.N, .int .i64 b.D]] w (FIs (minF a b) w) := by
  have hm := fun W A B S => bothMin_any a b ia ib w.heap.size (w.heap.size + 1) (w.heap.size + 1 + 1 + 1) W A B S (by omega) (by omega)
  generalize minF a b = x at *
  have HM := Lib.hid hm; clear hm
  go_enter Try.func20, Try.ntmps20
  go_wp2_with fail
  refine (HM.out _ ((((FrAt.new' w a _ rfl).alloc _).alloc _).alloc _) (((FrAt.new' _ b _ (by simp)).alloc _).alloc _) (FrAt.new' _ zeroF _ (by simp))).mono ?_
  rintro e w1 ⟨rfl, hS, hb⟩
  have hT : FrAt w1 (w.heap.size + 1 + 1) zeroF := ((FrAt.new' _ zeroF _ (by simp)).alloc _).below hb (by omega)
  have hB : Below w.heap.size w w1 := by
    refine Below.trans ?_ (hb.mono (by omega))
    (repeat' first | exact Below.refl _ _ | assumption | (apply below_drewN) | (refine Below.setCell ?_ (by (try simp); (try omega)) _) | (refine Below.alloc ?_ (by (try simp); (try omega)) _) | (refine Below.trans ?_ (Below.mono (Hid.out (by assumption)) (by (try simp); (try omega)))))
  have s0 := hS.cell0; have s1 := hS.cell1
  have t0 := hT.cell0; have t1 := hT.cell1; have f0 := hT.froz 0; have f1 := hT.froz 1
  have HB := Lib.hid hB
  clear hS hT hb hB
  go_wp2
  exact bodyPost_ret (v := .agg #[.int .i64 x.N, .int .i64 x.D]) (by simp [results, Try.results20, go_sem, t0, t1]) rfl ⟨rfl, by have := HB.out; (repeat' first | exact Below.refl _ _ | assumption | (apply below_drewN) | (refine Below.setCell ?_ (by (try simp); (try omega)) _) | (refine Below.alloc ?_ (by (try simp); (try omega)) _) | (refine Below.trans ?_ (Below.mono (Hid.out (by assumption)) (by (try simp); (try omega)))))⟩

def maxR (a b : Fr) : Fr := if 0 < cmpF b a then b else a
theorem maxF_ok {a b : Fr} (ha : FOk a) (hb : FOk b) : maxF a b = maxR a b := by unfold maxF maxR; rw [(okB_iff a).2 ha, (okB_iff b).2 hb]; rfl
theorem maxF_no (a b : Fr) (k : ¬ (FOk a ∧ FOk b)) : maxF a b = zeroF := by
  unfold maxF
  by_cases ha : FOk a
  · rw [(okB_iff a).2 ha, (okB_no b).2 (fun h => k ⟨ha, h⟩)]; rfl
  · rw [(okB_no a).2 ha]; rfl
set_option maxHeartbeats 4000000 in
theorem maxC_any (a b z : Fr) (ba bs bb : Nat) (w : World) (ha : FOk a) (hb : FOk b) (A : FrAt w ba a) (B : FrAt w bb b) (S : FrAt w bs z) (h1 : ba < bs) (h2 : bb < bs) :
    Calls Try.prog 39 #[.pointer (some ⟨ba, 0, none⟩), .pointer (some ⟨bs, 0, none⟩), .pointer (some ⟨bb, 0, none⟩)] w (FPost bs (maxR a b) w) := by
  have HM := Lib.hid (fun w => compare_any b a hb.inF ha.inF w)
  have a0 := A.cell0; have a1 := A.cell1; have b0 := B.cell0; have b1 := B.cell1
  have s0 := S.froz 0; have s1 := S.froz 1
  have sc0 := S.cell0; have sc1 := S.cell1
  have ls := S.lt; have la := A.lt; have lb := B.lt
  have n1 : ba ≠ bs := by omega
  have n2 : bb ≠ bs := by omega
  have HS := Lib.hid S; have HA := Lib.hid A; have HB := Lib.hid B; clear A B S ha hb
  by_cases hcmp : 0 < cmpF b a
  · have hR : maxR a b = b := if_pos hcmp
    rw [hR]; clear hR
    generalize cmpF b a = c at *
    go_enter Try.func39, Try.ntmps39
    go_wp2_with (go_at_call 18; refine (HM.out _).mono ?_; rintro e w1 ⟨rfl, hb⟩; obtain ⟨hc, hf⟩ := bcell hb; have hz := hb.size; (try simp at hz); have la1 : ba < w1.heap.size := (by omega); have lb1 : bb < w1.heap.size := (by omega); have ls1 : bs < w1.heap.size := (by omega); have HBl := Lib.hid hb; clear hb)
    go_end0
    exact ⟨rfl, ((HS.out.set a).below HBl.out (by simp; omega)).set b, by (repeat' first | exact Below.refl _ _ | assumption | (apply below_drewN) | (refine Below.setCell ?_ (by (try simp); (try omega)) _) | (refine Below.alloc ?_ (by (try simp); (try omega)) _) | (refine Below.trans ?_ (Below.mono (Hid.out (by assumption)) (by (try simp); (try omega)))))⟩
  · have hR : maxR a b = a := if_neg hcmp
    rw [hR]; clear hR
    generalize cmpF b a = c at *
    go_enter Try.func39, Try.ntmps39
    go_wp2_with (go_at_call 18; refine (HM.out _).mono ?_; rintro e w1 ⟨rfl, hb⟩; obtain ⟨hc, hf⟩ := bcell hb; have hz := hb.size; (try simp at hz); have la1 : ba < w1.heap.size := (by omega); have lb1 : bb < w1.heap.size := (by omega); have ls1 : bs < w1.heap.size := (by omega); have HBl := Lib.hid hb; clear hb)
    go_end0
    exact ⟨rfl, (HS.out.set a).below HBl.out (by simp; omega), by (repeat' first | exact Below.refl _ _ | assumption | (apply below_drewN) | (refine Below.setCell ?_ (by (try simp); (try omega)) _) | (refine Below.alloc ?_ (by (try simp); (try omega)) _) | (refine Below.trans ?_ (Below.mono (Hid.out (by assumption)) (by (try simp); (try omega)))))⟩
theorem bothMax_any (a b : Fr) (ia : InF a) (ib : InF b) (p q u : Nat) (w : World) (A : FrAt w p a) (B : FrAt w q b) (S : FrAt w u zeroF) (h1 : p < u) (h2 : q < u) :
    Calls Try.prog 33 #[.agg #[.int .i64 a.N, .int .i64 a.D], .agg #[.int .i64 b.N, .int .i64 b.D], .func (.func 39) #[] #[.pointer (some ⟨p, 0, none⟩), .pointer (some ⟨u, 0, none⟩), .pointer (some ⟨q, 0, none⟩)]] w (FPost u (maxF a b) w) := by
  by_cases k : FOk a ∧ FOk b
  · obtain ⟨ka, kb⟩ := k
    rw [maxF_ok ka kb]
    refine (bothMax_yes a b ka kb p u q w (fun w1 w' => FrAt w' u (maxR a b) ∧ Below u w1 w') (fun w1 hw => ?_)).mono ?_
    · exact maxC_any a b zeroF p u q w1 ka kb (A.below hw A.lt) (B.below hw B.lt) (S.below hw S.lt) h1 h2
    · rintro e w' ⟨rfl, w1, hw, k1, k3⟩
      exact ⟨rfl, k1, (hw.mono (Nat.le_of_lt S.lt)).trans k3⟩
  · refine (bothMax_no a b ia ib k p u q w).mono ?_
    rintro e w' ⟨rfl, hw⟩
    rw [maxF_no a b k]
    exact ⟨rfl, S.below hw S.lt, hw.mono (Nat.le_of_lt S.lt)⟩

set_option maxHeartbeats 4000000 in
theorem max_any (a b : Fr) (ia : InF a) (ib : InF b) (w : World) : Calls Try.prog 22 #[.agg #[.int .i64 a.N, .int .i64 a.D], .agg #[.int .i64 b.N, .int .i64 b.D]] w (FIs (maxF a b) w) := by
  have hm := fun W A B S => bothMax_any a b ia ib w.heap.size (w.heap.size + 1) (w.heap.size + 1 + 1 + 1) W A B S (by omega) (by omega)
  generalize maxF a b = x at *
  have HM := Lib.hid hm; clear hm
  go_enter Try.func22, Try.ntmps22
  go_wp2_with fail
  refine (HM.out _ ((((FrAt.new' w a _ rfl).alloc _).alloc _).alloc _) (((FrAt.new' _ b _ (by simp)).alloc _).alloc _) (FrAt.new' _ zeroF _ (by simp))).mono ?_
  rintro e w1 ⟨rfl, hS, hb⟩
  have hT : FrAt w1 (w.heap.size + 1 + 1) zeroF := ((FrAt.new' _ zeroF _ (by simp)).alloc _).below hb (by omega)
  have hB : Below w.heap.size w w1 := by
    refine Below.trans ?_ (hb.mono (by omega))
    (repeat' first | exact Below.refl _ _ | assumption | (apply below_drewN) | (refine Below.setCell ?_ (by (try simp); (try omega)) _) | (refine Below.alloc ?_ (by (try simp); (try omega)) _) | (refine Below.trans ?_ (Below.mono (Hid.out (by assumption)) (by (try simp); (try omega)))))
  have s0 := hS.cell0; have s1 := hS.cell1
  have t0 := hT.cell0; have t1 := hT.cell1; have f0 := hT.froz 0; have f1 := hT.froz 1
  have HB := Lib.hid hB
  clear hS hT hb hB
  go_wp2
  exact bodyPost_ret (v := .agg #[.int .i64 x.N, .int .i64 x.D]) (by simp [results, Try.results22, go_sem, t0, t1]) rfl ⟨rfl, by have := HB.out; (repeat' first | exact Below.refl _ _ | assumption | (apply below_drewN) | (refine Below.setCell ?_ (by (try simp); (try omega)) _) | (refine Below.alloc ?_ (by (try simp); (try omega)) _) | (refine Below.trans ?_ (Below.mono (Hid.out (by assumption)) (by (try simp); (try omega)))))⟩
end Go.Proofs.Ytlkpebcmdkmfjaa
