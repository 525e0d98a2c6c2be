/-
  Contracts of package ratio: the closures of Compare, Add, Mul, Min, Max.
-/
import Derived.Test.YtlkpebcmdkmfjaaQc
import Derived.BigRegion
set_option linter.unusedVariables false
set_option maxRecDepth 100000
namespace Go.Proofs.Ytlkpebcmdkmfjaa
open Go.RowKit

theorem right_nd (N D : Int) (hN : In64 N) (hD : In64 D) (w : World) : Calls Try.prog 16 #[.agg #[.int .i64 N, .int .i64 D]] w (BlIs (okB ⟨N, D⟩) w) := right_any ⟨N, D⟩ ⟨hN, hD⟩ w

theorem mul_bd {x y : Int} (hx : x.natAbs ≤ 1073741824) (hy : y.natAbs ≤ 1073741824) : -1152921504606846976 ≤ x * y ∧ x * y ≤ 1152921504606846976 := by
  have h := Nat.mul_le_mul hx hy
  rw [← Int.natAbs_mul] at h
  omega
theorem FOk.abs {r : Fr} (h : FOk r) : r.N.natAbs ≤ 1073741824 ∧ r.D.natAbs ≤ 1073741824 := by obtain ⟨h1, h2, h3, h4, _⟩ := h; omega

/-- block b holds the fraction r. -/
def FrAt (w : World) (b : Nat) (r : Fr) : Prop := w.heap[b]? = some (.cells #[.int .i64 r.N, .int .i64 r.D] 23 (0, 0))
/-- block b holds the number n, of type t. -/
def NmAt (t : TypeId) (w : World) (b : Nat) (n : Int) : Prop := w.heap[b]? = some (.cells #[.int .i64 n] t (0, 0))
section
variable {t : TypeId} {w w' : World} {b : Nat} {r : Fr} {n : Int}
theorem lt_of_get {α : Type} {x : Array α} {i : Nat} {a : α} (h : x[i]? = some a) : i < x.size := (Array.getElem?_eq_some_iff.1 h).1
theorem FrAt.lt (h : FrAt w b r) : b < w.heap.size := lt_of_get h
theorem NmAt.lt (h : NmAt t w b n) : b < w.heap.size := lt_of_get h
theorem FrAt.cell0 (h : FrAt w b r) : w.cell? ⟨b, 0, none⟩ = some (.int .i64 r.N) := by rw [Lib.cell_of_heap h]; rfl
theorem FrAt.cell1 (h : FrAt w b r) : w.cell? ⟨b, 1, none⟩ = some (.int .i64 r.D) := by rw [Lib.cell_of_heap h]; rfl
theorem NmAt.cell0 (h : NmAt t w b n) : w.cell? ⟨b, 0, none⟩ = some (.int .i64 n) := by rw [Lib.cell_of_heap h]; rfl
theorem FrAt.froz (h : FrAt w b r) (i : Nat) : w.frozen? ⟨b, i, none⟩ = false := Lib.frozen_of_heap h i
theorem NmAt.froz (h : NmAt t w b n) (i : Nat) : w.frozen? ⟨b, i, none⟩ = false := Lib.frozen_of_heap h i
theorem FrAt.set (h : FrAt w b r) (s : Fr) : FrAt ((w.setCell ⟨b, 0, none⟩ (.int .i64 s.N)).setCell ⟨b, 1, none⟩ (.int .i64 s.D)) b s := by
  unfold FrAt at h ⊢
  simp [World.setCell, Array.getElem?_modify, h]
theorem NmAt.set (h : NmAt t w b n) (m : Int) : NmAt t (w.setCell ⟨b, 0, none⟩ (.int .i64 m)) b m := by
  unfold NmAt at h ⊢
  simp [World.setCell, Array.getElem?_modify, h]
theorem FrAt.far (h : FrAt w b r) {c i : Nat} {v : Value} (hc : b ≠ c) : FrAt (w.setCell ⟨c, i, none⟩ v) b r := by
  unfold FrAt at h ⊢
  simp [World.setCell, Array.getElem?_modify, h, hc.symm]
theorem NmAt.far (h : NmAt t w b n) {c i : Nat} {v : Value} (hc : b ≠ c) : NmAt t (w.setCell ⟨c, i, none⟩ v) b n := by
  unfold NmAt at h ⊢
  simp [World.setCell, Array.getElem?_modify, h, hc.symm]
theorem FrAt.below {B : Nat} (h : FrAt w b r) (hg : Below B w w') (hr : b < B) : FrAt w' b r := (hg.block b hr).trans h
theorem NmAt.below {B : Nat} (h : NmAt t w b n) (hg : Below B w w') (hr : b < B) : NmAt t w' b n := (hg.block b hr).trans h
theorem FrAt.alloc (h : FrAt w b r) (o : Obj) : FrAt (w.alloc o) b r := h.below ((Below.refl _ _).alloc (Nat.le_refl _) o) h.lt
theorem NmAt.alloc (h : NmAt t w b n) (o : Obj) : NmAt t (w.alloc o) b n := h.below ((Below.refl _ _).alloc (Nat.le_refl _) o) h.lt
theorem FrAt.drewN (h : FrAt w b r) (k : Nat) : FrAt (w.drewN k) b r := h
theorem NmAt.drewN (h : NmAt t w b n) (k : Nat) : NmAt t (w.drewN k) b n := h
theorem FrAt.new (w : World) (r : Fr) : FrAt (w.alloc (.cells #[.int .i64 r.N, .int .i64 r.D] 23)) w.heap.size r := heap_alloc_new w _
theorem NmAt.new (t : TypeId) (w : World) (n : Int) : NmAt t (w.alloc (.cells #[.int .i64 n] t)) w.heap.size n := heap_alloc_new w _
end

theorem FrAt.new' (w : World) (r : Fr) (k : Nat) (h : k = w.heap.size) : FrAt (w.alloc (.cells #[.int .i64 r.N, .int .i64 r.D] 23)) k r := by subst h; exact FrAt.new w r
theorem NmAt.new' (t : TypeId) (w : World) (n : Int) (k : Nat) (h : k = w.heap.size) : NmAt t (w.alloc (.cells #[.int .i64 n] t)) k n := by subst h; exact NmAt.new t w n

def AddPost (t : TypeId) (x : Fr × Int) (bs be : Nat) (w : World) (e : Ending) (w' : World) : Prop := e = .returned (.tuple #[]) ∧ FrAt w' bs x.1 ∧ NmAt t w' be x.2 ∧ Below bs w w'

set_option maxHeartbeats 4000000 in
theorem addC_any (a b z : Fr) (c : Int) (ba bb bs be : Nat) (w : World) (ha : FOk a) (hb : FOk b) (A : FrAt w ba a) (B : FrAt w bb b) (S : FrAt w bs z) (E : NmAt 25 w be c) (h1 : ba < bs) (h2 : bb < bs) (h3 : bs < be) :
    Calls Try.prog 34 #[.pointer (some ⟨ba, 0, none⟩), .pointer (some ⟨bb, 0, none⟩), .pointer (some ⟨bs, 0, none⟩), .pointer (some ⟨be, 0, none⟩)] w (AddPost 25 (addF a b) bs be w) := by
  have m1 := mul_bd ha.abs.1 hb.abs.2
  have m2 := mul_bd hb.abs.1 ha.abs.2
  have m3 := mul_bd ha.abs.2 hb.abs.2
  have hm := fun w => make_any (a.N * b.D + b.N * a.D) (a.D * b.D) ⟨by omega, by omega⟩ ⟨by omega, by omega⟩ w
  rw [← addF_ok ha hb] at hm
  generalize addF a b = x at *
  obtain ⟨x, xe⟩ := x
  have HM := Lib.hid hm; clear hm ha hb
  have a0 := A.cell0; have a1 := A.cell1; have b0 := B.cell0; have b1 := B.cell1
  have s0 := S.froz 0; have s1 := S.froz 1; have e0 := E.froz 0
  have sc0 := S.cell0; have sc1 := S.cell1; have ec0 := E.cell0
  have ls := S.lt; have le := E.lt
  have HS := Lib.hid S; have HE := Lib.hid E; clear A B S E
  go_enter Try.func34, Try.ntmps34
  go_wp2_with (go_at_call 10; refine (HM.out _).mono ?_; rintro e w1 ⟨rfl, hb⟩; obtain ⟨hc, hf⟩ := bcell hb; have hz := hb.size; have HBl := Lib.hid hb; clear hb)
  go_end0
  exact ⟨rfl, ((HS.out.below HBl.out ls).set x).far (by omega), (((HE.out.below HBl.out le).far (by omega)).far (by omega)).set xe, by (repeat' first | exact Below.refl _ _ | assumption | (apply below_drewN) | (refine Below.setCell ?_ (by (try simp); (try omega)) _) | (refine Below.alloc ?_ (by (try simp); (try omega)) _) | (refine Below.trans ?_ (Below.mono (Hid.out (by assumption)) (by (try simp); (try omega)))))⟩


set_option maxHeartbeats 4000000 in
theorem bothAdd_yes (a b : Fr) (ka : FOk a) (kb : FOk b) (p q u v : Nat) (w : World) (Q : World → World → Prop)
    (hcl : ∀ w1, Below w.heap.size w w1 → Calls Try.prog 34 #[.pointer (some ⟨p, 0, none⟩), .pointer (some ⟨q, 0, none⟩), .pointer (some ⟨u, 0, none⟩), .pointer (some ⟨v, 0, none⟩)] w1 fun e w' => e = .returned (.tuple #[]) ∧ Q w1 w') :
    Calls Try.prog 33 #[.agg #[.int .i64 a.N, .int .i64 a.D], .agg #[.int .i64 b.N, .int .i64 b.D], .func (.func 34) #[] #[.pointer (some ⟨p, 0, none⟩), .pointer (some ⟨q, 0, none⟩), .pointer (some ⟨u, 0, none⟩), .pointer (some ⟨v, 0, none⟩)]] w fun e w' => e = .returned (.tuple #[]) ∧ ∃ w1, Below w.heap.size w w1 ∧ Q w1 w' := by
  have oa : okB ⟨a.N, a.D⟩ = true := (okB_iff a).2 ka
  have ob : okB ⟨b.N, b.D⟩ = true := (okB_iff b).2 kb
  obtain ⟨na, da⟩ := ka.inF
  obtain ⟨nb, db⟩ := kb.inF
  have HC := Lib.hid hcl; clear hcl ka kb
  go_enter Try.func33, Try.ntmps33
  go_wp2_with (go_at_call 16; refine (right_nd _ _ (by assumption) (by assumption) _).mono ?_; rintro e w1 ⟨rfl, hb⟩; obtain ⟨hc, hf⟩ := bcell hb; have hz := hb.size; (try simp at hz); have hz0 : w.heap.size < w1.heap.size := (by omega); have hz1 : w.heap.size + 1 < w1.heap.size := (by omega); have HBl := Lib.hid hb; clear hb)
  have hW : Below w.heap.size w w1 := by (repeat' first | exact Below.refl _ _ | assumption | (apply below_drewN) | (refine Below.setCell ?_ (by (try simp); (try omega)) _) | (refine Below.alloc ?_ (by (try simp); (try omega)) _) | (refine Below.trans ?_ (Below.mono (Hid.out (by assumption)) (by (try simp); (try omega)))))
  have HW := Lib.hid hW; clear hW
  refine (HC.out _ HW.out).mono ?_
  rintro e w2 ⟨rfl, hq⟩
  have HQ := Lib.hid hq; clear hq
  go_wp2
  go_end0
  exact ⟨rfl, _, HW.out, HQ.out⟩

set_option maxHeartbeats 4000000 in
theorem bothAdd_no (a b : Fr) (ia : InF a) (ib : InF b) (k : ¬ (FOk a ∧ FOk b)) (p q u v : Nat) (w : World) :
    Calls Try.prog 33 #[.agg #[.int .i64 a.N, .int .i64 a.D], .agg #[.int .i64 b.N, .int .i64 b.D], .func (.func 34) #[] #[.pointer (some ⟨p, 0, none⟩), .pointer (some ⟨q, 0, none⟩), .pointer (some ⟨u, 0, none⟩), .pointer (some ⟨v, 0, none⟩)]] w fun e w' => e = .returned (.tuple #[]) ∧ Below w.heap.size w w' := by
  obtain ⟨na, da⟩ := ia
  obtain ⟨nb, db⟩ := ib
  by_cases ka : FOk a
  · have oa : okB ⟨a.N, a.D⟩ = true := (okB_iff a).2 ka
    have ob : okB ⟨b.N, b.D⟩ = false := (okB_no b).2 (fun h => k ⟨ka, h⟩)
    clear ka k
    go_enter Try.func33, Try.ntmps33
    go_wp2_with (go_at_call 16; refine (right_nd _ _ (by assumption) (by assumption) _).mono ?_; rintro e w1 ⟨rfl, hb⟩; obtain ⟨hc, hf⟩ := bcell hb; have hz := hb.size; (try simp at hz); have hz0 : w.heap.size < w1.heap.size := (by omega); have hz1 : w.heap.size + 1 < w1.heap.size := (by omega); have HBl := Lib.hid hb; clear hb)
    go_end0
    exact ⟨rfl, by (repeat' first | exact Below.refl _ _ | assumption | (apply below_drewN) | (refine Below.setCell ?_ (by (try simp); (try omega)) _) | (refine Below.alloc ?_ (by (try simp); (try omega)) _) | (refine Below.trans ?_ (Below.mono (Hid.out (by assumption)) (by (try simp); (try omega)))))⟩
  · have oa : okB ⟨a.N, a.D⟩ = false := (okB_no a).2 ka
    clear ka k
    go_enter Try.func33, Try.ntmps33
    go_wp2_with (go_at_call 16; refine (right_nd _ _ (by assumption) (by assumption) _).mono ?_; rintro e w1 ⟨rfl, hb⟩; obtain ⟨hc, hf⟩ := bcell hb; have hz := hb.size; (try simp at hz); have hz0 : w.heap.size < w1.heap.size := (by omega); have hz1 : w.heap.size + 1 < w1.heap.size := (by omega); have HBl := Lib.hid hb; clear hb)
    go_end0
    exact ⟨rfl, by (repeat' first | exact Below.refl _ _ | assumption | (apply below_drewN) | (refine Below.setCell ?_ (by (try simp); (try omega)) _) | (refine Below.alloc ?_ (by (try simp); (try omega)) _) | (refine Below.trans ?_ (Below.mono (Hid.out (by assumption)) (by (try simp); (try omega)))))⟩

set_option maxHeartbeats 4000000 in
theorem bothMul_yes (a b : Fr) (ka : FOk a) (kb : FOk b) (p q u v : Nat) (w : World) (Q : World → World → Prop)
    (hcl : ∀ w1, Below w.heap.size w w1 → Calls Try.prog 35 #[.pointer (some ⟨p, 0, none⟩), .pointer (some ⟨q, 0, none⟩), .pointer (some ⟨u, 0, none⟩), .pointer (some ⟨v, 0, none⟩)] w1 fun e w' => e = .returned (.tuple #[]) ∧ Q w1 w') :
    Calls Try.prog 33 #[.agg #[.int .i64 a.N, .int .i64 a.D], .agg #[.int .i64 b.N, .int .i64 b.D], .func (.func 35) #[] #[.pointer (some ⟨p, 0, none⟩), .pointer (some ⟨q, 0, none⟩), .pointer (some ⟨u, 0, none⟩), .pointer (some ⟨v, 0, none⟩)]] w fun e w' => e = .returned (.tuple #[]) ∧ ∃ w1, Below w.heap.size w w1 ∧ Q w1 w' := by
  have oa : okB ⟨a.N, a.D⟩ = true := (okB_iff a).2 ka
  have ob : okB ⟨b.N, b.D⟩ = true := (okB_iff b).2 kb
  obtain ⟨na, da⟩ := ka.inF
  obtain ⟨nb, db⟩ := kb.inF
  have HC := Lib.hid hcl; clear hcl ka kb
  go_enter Try.func33, Try.ntmps33
  go_wp2_with (go_at_call 16; refine (right_nd _ _ (by assumption) (by assumption) _).mono ?_; rintro e w1 ⟨rfl, hb⟩; obtain ⟨hc, hf⟩ := bcell hb; have hz := hb.size; (try simp at hz); have hz0 : w.heap.size < w1.heap.size := (by omega); have hz1 : w.heap.size + 1 < w1.heap.size := (by omega); have HBl := Lib.hid hb; clear hb)
  have hW : Below w.heap.size w w1 := by (repeat' first | exact Below.refl _ _ | assumption | (apply below_drewN) | (refine Below.setCell ?_ (by (try simp); (try omega)) _) | (refine Below.alloc ?_ (by (try simp); (try omega)) _) | (refine Below.trans ?_ (Below.mono (Hid.out (by assumption)) (by (try simp); (try omega)))))
  have HW := Lib.hid hW; clear hW
  refine (HC.out _ HW.out).mono ?_
  rintro e w2 ⟨rfl, hq⟩
  have HQ := Lib.hid hq; clear hq
  go_wp2
  go_end0
  exact ⟨rfl, _, HW.out, HQ.out⟩

set_option maxHeartbeats 4000000 in
theorem bothMul_no (a b : Fr) (ia : InF a) (ib : InF b) (k : ¬ (FOk a ∧ FOk b)) (p q u v : Nat) (w : World) :
    Calls Try.prog 33 #[.agg #[.int .i64 a.N, .int .i64 a.D], .agg #[.int .i64 b.N, .int .i64 b.D], .func (.func 35) #[] #[.pointer (some ⟨p, 0, none⟩), .pointer (some ⟨q, 0, none⟩), .pointer (some ⟨u, 0, none⟩), .pointer (some ⟨v, 0, none⟩)]] w fun e w' => e = .returned (.tuple #[]) ∧ Below w.heap.size w w' := by
  obtain ⟨na, da⟩ := ia
  obtain ⟨nb, db⟩ := ib
  by_cases ka : FOk a
  · have oa : okB ⟨a.N, a.D⟩ = true := (okB_iff a).2 ka
    have ob : okB ⟨b.N, b.D⟩ = false := (okB_no b).2 (fun h => k ⟨ka, h⟩)
    clear ka k
    go_enter Try.func33, Try.ntmps33
    go_wp2_with (go_at_call 16; refine (right_nd _ _ (by assumption) (by assumption) _).mono ?_; rintro e w1 ⟨rfl, hb⟩; obtain ⟨hc, hf⟩ := bcell hb; have hz := hb.size; (try simp at hz); have hz0 : w.heap.size < w1.heap.size := (by omega); have hz1 : w.heap.size + 1 < w1.heap.size := (by omega); have HBl := Lib.hid hb; clear hb)
    go_end0
    exact ⟨rfl, by (repeat' first | exact Below.refl _ _ | assumption | (apply below_drewN) | (refine Below.setCell ?_ (by (try simp); (try omega)) _) | (refine Below.alloc ?_ (by (try simp); (try omega)) _) | (refine Below.trans ?_ (Below.mono (Hid.out (by assumption)) (by (try simp); (try omega)))))⟩
  · have oa : okB ⟨a.N, a.D⟩ = false := (okB_no a).2 ka
    clear ka k
    go_enter Try.func33, Try.ntmps33
    go_wp2_with (go_at_call 16; refine (right_nd _ _ (by assumption) (by assumption) _).mono ?_; rintro e w1 ⟨rfl, hb⟩; obtain ⟨hc, hf⟩ := bcell hb; have hz := hb.size; (try simp at hz); have hz0 : w.heap.size < w1.heap.size := (by omega); have hz1 : w.heap.size + 1 < w1.heap.size := (by omega); have HBl := Lib.hid hb; clear hb)
    go_end0
    exact ⟨rfl, by (repeat' first | exact Below.refl _ _ | assumption | (apply below_drewN) | (refine Below.setCell ?_ (by (try simp); (try omega)) _) | (refine Below.alloc ?_ (by (try simp); (try omega)) _) | (refine Below.trans ?_ (Below.mono (Hid.out (by assumption)) (by (try simp); (try omega)))))⟩

set_option maxHeartbeats 4000000 in
theorem bothCmp_yes (a b : Fr) (ka : FOk a) (kb : FOk b) (p q u : Nat) (w : World) (Q : World → World → Prop)
    (hcl : ∀ w1, Below w.heap.size w w1 → Calls Try.prog 36 #[.pointer (some ⟨p, 0, none⟩), .pointer (some ⟨q, 0, none⟩), .pointer (some ⟨u, 0, none⟩)] w1 fun e w' => e = .returned (.tuple #[]) ∧ Q w1 w') :
    Calls Try.prog 33 #[.agg #[.int .i64 a.N, .int .i64 a.D], .agg #[.int .i64 b.N, .int .i64 b.D], .func (.func 36) #[] #[.pointer (some ⟨p, 0, none⟩), .pointer (some ⟨q, 0, none⟩), .pointer (some ⟨u, 0, none⟩)]] w fun e w' => e = .returned (.tuple #[]) ∧ ∃ w1, Below w.heap.size w w1 ∧ Q w1 w' := by
  have oa : okB ⟨a.N, a.D⟩ = true := (okB_iff a).2 ka
  have ob : okB ⟨b.N, b.D⟩ = true := (okB_iff b).2 kb
  obtain ⟨na, da⟩ := ka.inF
  obtain ⟨nb, db⟩ := kb.inF
  have HC := Lib.hid hcl; clear hcl ka kb
  go_enter Try.func33, Try.ntmps33
  go_wp2_with (go_at_call 16; refine (right_nd _ _ (by assumption) (by assumption) _).mono ?_; rintro e w1 ⟨rfl, hb⟩; obtain ⟨hc, hf⟩ := bcell hb; have hz := hb.size; (try simp at hz); have hz0 : w.heap.size < w1.heap.size := (by omega); have hz1 : w.heap.size + 1 < w1.heap.size := (by omega); have HBl := Lib.hid hb; clear hb)
  have hW : Below w.heap.size w w1 := by (repeat' first | exact Below.refl _ _ | assumption | (apply below_drewN) | (refine Below.setCell ?_ (by (try simp); (try omega)) _) | (refine Below.alloc ?_ (by (try simp); (try omega)) _) | (refine Below.trans ?_ (Below.mono (Hid.out (by assumption)) (by (try simp); (try omega)))))
  have HW := Lib.hid hW; clear hW
  refine (HC.out _ HW.out).mono ?_
  rintro e w2 ⟨rfl, hq⟩
  have HQ := Lib.hid hq; clear hq
  go_wp2
  go_end0
  exact ⟨rfl, _, HW.out, HQ.out⟩

set_option maxHeartbeats 4000000 in
theorem bothCmp_no (a b : Fr) (ia : InF a) (ib : InF b) (k : ¬ (FOk a ∧ FOk b)) (p q u : Nat) (w : World) :
    Calls Try.prog 33 #[.agg #[.int .i64 a.N, .int .i64 a.D], .agg #[.int .i64 b.N, .int .i64 b.D], .func (.func 36) #[] #[.pointer (some ⟨p, 0, none⟩), .pointer (some ⟨q, 0, none⟩), .pointer (some ⟨u, 0, none⟩)]] w fun e w' => e = .returned (.tuple #[]) ∧ Below w.heap.size w w' := by
  obtain ⟨na, da⟩ := ia
  obtain ⟨nb, db⟩ := ib
  by_cases ka : FOk a
  · have oa : okB ⟨a.N, a.D⟩ = true := (okB_iff a).2 ka
    have ob : okB ⟨b.N, b.D⟩ = false := (okB_no b).2 (fun h => k ⟨ka, h⟩)
    clear ka k
    go_enter Try.func33, Try.ntmps33
    go_wp2_with (go_at_call 16; refine (right_nd _ _ (by assumption) (by assumption) _).mono ?_; rintro e w1 ⟨rfl, hb⟩; obtain ⟨hc, hf⟩ := bcell hb; have hz := hb.size; (try simp at hz); have hz0 : w.heap.size < w1.heap.size := (by omega); have hz1 : w.heap.size + 1 < w1.heap.size := (by omega); have HBl := Lib.hid hb; clear hb)
    go_end0
    exact ⟨rfl, by (repeat' first | exact Below.refl _ _ | assumption | (apply below_drewN) | (refine Below.setCell ?_ (by (try simp); (try omega)) _) | (refine Below.alloc ?_ (by (try simp); (try omega)) _) | (refine Below.trans ?_ (Below.mono (Hid.out (by assumption)) (by (try simp); (try omega)))))⟩
  · have oa : okB ⟨a.N, a.D⟩ = false := (okB_no a).2 ka
    clear ka k
    go_enter Try.func33, Try.ntmps33
    go_wp2_with (go_at_call 16; refine (right_nd _ _ (by assumption) (by assumption) _).mono ?_; rintro e w1 ⟨rfl, hb⟩; obtain ⟨hc, hf⟩ := bcell hb; have hz := hb.size; (try simp at hz); have hz0 : w.heap.size < w1.heap.size := (by omega); have hz1 : w.heap.size + 1 < w1.heap.size := (by omega); have HBl := Lib.hid hb; clear hb)
    go_end0
    exact ⟨rfl, by (repeat' first | exact Below.refl _ _ | assumption | (apply below_drewN) | (refine Below.setCell ?_ (by (try simp); (try omega)) _) | (refine Below.alloc ?_ (by (try simp); (try omega)) _) | (refine Below.trans ?_ (Below.mono (Hid.out (by assumption)) (by (try simp); (try omega)))))⟩

set_option maxHeartbeats 4000000 in
theorem bothMin_yes (a b : Fr) (ka : FOk a) (kb : FOk b) (p q u : Nat) (w : World) (Q : World → World → Prop)
    (hcl : ∀ w1, Below w.heap.size w w1 → Calls Try.prog 38 #[.pointer (some ⟨p, 0, none⟩), .pointer (some ⟨q, 0, none⟩), .pointer (some ⟨u, 0, none⟩)] w1 fun e w' => e = .returned (.tuple #[]) ∧ Q w1 w') :
    Calls Try.prog 33 #[.agg #[.int .i64 a.N, .int .i64 a.D], .agg #[.int .i64 b.N, .int .i64 b.D], .func (.func 38) #[] #[.pointer (some ⟨p, 0, none⟩), .pointer (some ⟨q, 0, none⟩), .pointer (some ⟨u, 0, none⟩)]] w fun e w' => e = .returned (.tuple #[]) ∧ ∃ w1, Below w.heap.size w w1 ∧ Q w1 w' := by
  have oa : okB ⟨a.N, a.D⟩ = true := (okB_iff a).2 ka
  have ob : okB ⟨b.N, b.D⟩ = true := (okB_iff b).2 kb
  obtain ⟨na, da⟩ := ka.inF
  obtain ⟨nb, db⟩ := kb.inF
  have HC := Lib.hid hcl; clear hcl ka kb
  go_enter Try.func33, Try.ntmps33
  go_wp2_with (go_at_call 16; refine (right_nd _ _ (by assumption) (by assumption) _).mono ?_; rintro e w1 ⟨rfl, hb⟩; obtain ⟨hc, hf⟩ := bcell hb; have hz := hb.size; (try simp at hz); have hz0 : w.heap.size < w1.heap.size := (by omega); have hz1 : w.heap.size + 1 < w1.heap.size := (by omega); have HBl := Lib.hid hb; clear hb)
  have hW : Below w.heap.size w w1 := by (repeat' first | exact Below.refl _ _ | assumption | (apply below_drewN) | (refine Below.setCell ?_ (by (try simp); (try omega)) _) | (refine Below.alloc ?_ (by (try simp); (try omega)) _) | (refine Below.trans ?_ (Below.mono (Hid.out (by assumption)) (by (try simp); (try omega)))))
  have HW := Lib.hid hW; clear hW
  refine (HC.out _ HW.out).mono ?_
  rintro e w2 ⟨rfl, hq⟩
  have HQ := Lib.hid hq; clear hq
  go_wp2
  go_end0
  exact ⟨rfl, _, HW.out, HQ.out⟩

set_option maxHeartbeats 4000000 in
theorem bothMin_no (a b : Fr) (ia : InF a) (ib : InF b) (k : ¬ (FOk a ∧ FOk b)) (p q u : Nat) (w : World) :
    Calls Try.prog 33 #[.agg #[.int .i64 a.N, .int .i64 a.D], .agg #[.int .i64 b.N, .int .i64 b.D], .func (.func 38) #[] #[.pointer (some ⟨p, 0, none⟩), .pointer (some ⟨q, 0, none⟩), .pointer (some ⟨u, 0, none⟩)]] w fun e w' => e = .returned (.tuple #[]) ∧ Below w.heap.size w w' := by
  obtain ⟨na, da⟩ := ia
  obtain ⟨nb, db⟩ := ib
  by_cases ka : FOk a
  · have oa : okB ⟨a.N, a.D⟩ = true := (okB_iff a).2 ka
    have ob : okB ⟨b.N, b.D⟩ = false := (okB_no b).2 (fun h => k ⟨ka, h⟩)
    clear ka k
    go_enter Try.func33, Try.ntmps33
    go_wp2_with (go_at_call 16; refine (right_nd _ _ (by assumption) (by assumption) _).mono ?_; rintro e w1 ⟨rfl, hb⟩; obtain ⟨hc, hf⟩ := bcell hb; have hz := hb.size; (try simp at hz); have hz0 : w.heap.size < w1.heap.size := (by omega); have hz1 : w.heap.size + 1 < w1.heap.size := (by omega); have HBl := Lib.hid hb; clear hb)
    go_end0
    exact ⟨rfl, by (repeat' first | exact Below.refl _ _ | assumption | (apply below_drewN) | (refine Below.setCell ?_ (by (try simp); (try omega)) _) | (refine Below.alloc ?_ (by (try simp); (try omega)) _) | (refine Below.trans ?_ (Below.mono (Hid.out (by assumption)) (by (try simp); (try omega)))))⟩
  · have oa : okB ⟨a.N, a.D⟩ = false := (okB_no a).2 ka
    clear ka k
    go_enter Try.func33, Try.ntmps33
    go_wp2_with (go_at_call 16; refine (right_nd _ _ (by assumption) (by assumption) _).mono ?_; rintro e w1 ⟨rfl, hb⟩; obtain ⟨hc, hf⟩ := bcell hb; have hz := hb.size; (try simp at hz); have hz0 : w.heap.size < w1.heap.size := (by omega); have hz1 : w.heap.size + 1 < w1.heap.size := (by omega); have HBl := Lib.hid hb; clear hb)
    go_end0
    exact ⟨rfl, by (repeat' first | exact Below.refl _ _ | assumption | (apply below_drewN) | (refine Below.setCell ?_ (by (try simp); (try omega)) _) | (refine Below.alloc ?_ (by (try simp); (try omega)) _) | (refine Below.trans ?_ (Below.mono (Hid.out (by assumption)) (by (try simp); (try omega)))))⟩

set_option maxHeartbeats 4000000 in
theorem bothMax_yes (a b : Fr) (ka : FOk a) (kb : FOk b) (p q u : Nat) (w : World) (Q : World → World → Prop)
    (hcl : ∀ w1, Below w.heap.size w w1 → Calls Try.prog 39 #[.pointer (some ⟨p, 0, none⟩), .pointer (some ⟨q, 0, none⟩), .pointer (some ⟨u, 0, none⟩)] w1 fun e w' => e = .returned (.tuple #[]) ∧ Q w1 w') :
    Calls Try.prog 33 #[.agg #[.int .i64 a.N, .int .i64 a.D], .agg #[.int .i64 b.N, .int .i64 b.D], .func (.func 39) #[] #[.pointer (some ⟨p, 0, none⟩), .pointer (some ⟨q, 0, none⟩), .pointer (some ⟨u, 0, none⟩)]] w fun e w' => e = .returned (.tuple #[]) ∧ ∃ w1, Below w.heap.size w w1 ∧ Q w1 w' := by
  have oa : okB ⟨a.N, a.D⟩ = true := (okB_iff a).2 ka
  have ob : okB ⟨b.N, b.D⟩ = true := (okB_iff b).2 kb
  obtain ⟨na, da⟩ := ka.inF
  obtain ⟨nb, db⟩ := kb.inF
  have HC := Lib.hid hcl; clear hcl ka kb
  go_enter Try.func33, Try.ntmps33
  go_wp2_with (go_at_call 16; refine (right_nd _ _ (by assumption) (by assumption) _).mono ?_; rintro e w1 ⟨rfl, hb⟩; obtain ⟨hc, hf⟩ := bcell hb; have hz := hb.size; (try simp at hz); have hz0 : w.heap.size < w1.heap.size := (by omega); have hz1 : w.heap.size + 1 < w1.heap.size := (by omega); have HBl := Lib.hid hb; clear hb)
  have hW : Below w.heap.size w w1 := by (repeat' first | exact Below.refl _ _ | assumption | (apply below_drewN) | (refine Below.setCell ?_ (by (try simp); (try omega)) _) | (refine Below.alloc ?_ (by (try simp); (try omega)) _) | (refine Below.trans ?_ (Below.mono (Hid.out (by assumption)) (by (try simp); (try omega)))))
  have HW := Lib.hid hW; clear hW
  refine (HC.out _ HW.out).mono ?_
  rintro e w2 ⟨rfl, hq⟩
  have HQ := Lib.hid hq; clear hq
  go_wp2
  go_end0
  exact ⟨rfl, _, HW.out, HQ.out⟩

set_option maxHeartbeats 4000000 in
theorem bothMax_no (a b : Fr) (ia : InF a) (ib : InF b) (k : ¬ (FOk a ∧ FOk b)) (p q u : Nat) (w : World) :
    Calls Try.prog 33 #[.agg #[.int .i64 a.N, .int .i64 a.D], .agg #[.int .i64 b.N, .int .i64 b.D], .func (.func 39) #[] #[.pointer (some ⟨p, 0, none⟩), .pointer (some ⟨q, 0, none⟩), .pointer (some ⟨u, 0, none⟩)]] w fun e w' => e = .returned (.tuple #[]) ∧ Below w.heap.size w w' := by
  obtain ⟨na, da⟩ := ia
  obtain ⟨nb, db⟩ := ib
  by_cases ka : FOk a
  · have oa : okB ⟨a.N, a.D⟩ = true := (okB_iff a).2 ka
    have ob : okB ⟨b.N, b.D⟩ = false := (okB_no b).2 (fun h => k ⟨ka, h⟩)
    clear ka k
    go_enter Try.func33, Try.ntmps33
    go_wp2_with (go_at_call 16; refine (right_nd _ _ (by assumption) (by assumption) _).mono ?_; rintro e w1 ⟨rfl, hb⟩; obtain ⟨hc, hf⟩ := bcell hb; have hz := hb.size; (try simp at hz); have hz0 : w.heap.size < w1.heap.size := (by omega); have hz1 : w.heap.size + 1 < w1.heap.size := (by omega); have HBl := Lib.hid hb; clear hb)
    go_end0
    exact ⟨rfl, by (repeat' first | exact Below.refl _ _ | assumption | (apply below_drewN) | (refine Below.setCell ?_ (by (try simp); (try omega)) _) | (refine Below.alloc ?_ (by (try simp); (try omega)) _) | (refine Below.trans ?_ (Below.mono (Hid.out (by assumption)) (by (try simp); (try omega)))))⟩
  · have oa : okB ⟨a.N, a.D⟩ = false := (okB_no a).2 ka
    clear ka k
    go_enter Try.func33, Try.ntmps33
    go_wp2_with (go_at_call 16; refine (right_nd _ _ (by assumption) (by assumption) _).mono ?_; rintro e w1 ⟨rfl, hb⟩; obtain ⟨hc, hf⟩ := bcell hb; have hz := hb.size; (try simp at hz); have hz0 : w.heap.size < w1.heap.size := (by omega); have hz1 : w.heap.size + 1 < w1.heap.size := (by omega); have HBl := Lib.hid hb; clear hb)
    go_end0
    exact ⟨rfl, by (repeat' first | exact Below.refl _ _ | assumption | (apply below_drewN) | (refine Below.setCell ?_ (by (try simp); (try omega)) _) | (refine Below.alloc ?_ (by (try simp); (try omega)) _) | (refine Below.trans ?_ (Below.mono (Hid.out (by assumption)) (by (try simp); (try omega)))))⟩
end Go.Proofs.Ytlkpebcmdkmfjaa
