/-
  SightSamples: the walk of the law.
-/
import Derived.Test.YtkjblmfmaenllaaYt
import Derived.Test.YtkjblmfmaenllaaYo
import Derived.Test.YtkjblmfmaenllaaYg
set_option linter.unusedVariables false
set_option maxRecDepth 100000
namespace Go.Proofs.Ytkjblmfmaenllaa
open Go.RowKit

/-- a point at a block. -/
def P3At (w : World) (b : Nat) (v : V3) : Prop := w.heap[b]? = some (.cells #[.int .i64 v.x, .int .i64 v.y, .int .i64 v.z] 24 (0, 0))
section
variable {w w' : World} {b : Nat} {v : V3}
theorem P3At.lt (h : P3At w b v) : b < w.heap.size := (Array.getElem?_eq_some_iff.1 h).1
theorem P3At.c0 (h : P3At w b v) : w.cell? ⟨b, 0, none⟩ = some (.int .i64 v.x) := by rw [Lib.cell_of_heap h]; rfl
theorem P3At.c1 (h : P3At w b v) : w.cell? ⟨b, 1, none⟩ = some (.int .i64 v.y) := by rw [Lib.cell_of_heap h]; rfl
theorem P3At.c2 (h : P3At w b v) : w.cell? ⟨b, 2, none⟩ = some (.int .i64 v.z) := by rw [Lib.cell_of_heap h]; rfl
theorem P3At.go (h : P3At w b v) (hb : Below w.heap.size w w') : P3At w' b v := (hb.block _ h.lt).trans h
end
theorem dright_b (A : Option Addr) (cap : Nat) (S : List Sl) (w : World) (h : SIn w A cap S) : Calls Try.prog 15 #[.slice A S.length cap] w (BlIs (solPB S) w) := by
  by_cases hs : SolP S
  · rw [solPB_yes hs]; exact dright_yes h hs
  · rw [solPB_no hs]; exact dright_no h hs
theorem mul_rng2 {a b : Int} {A B : Nat} (ha : a.natAbs ≤ A) (hb : b.natAbs ≤ B) : (a * b).natAbs ≤ A * B := by rw [Int.natAbs_mul]; exact Nat.mul_le_mul ha hb
theorem down_eq {n b : Int} (hb : 0 < b) : -((b - 1 - n) / b) = n / b := by
  have h0 := Int.ediv_mul_le (b - 1 - n) (show b ≠ 0 by omega)
  have h1 := Int.lt_ediv_add_one_mul_self (b - 1 - n) hb
  generalize (b - 1 - n) / b = q at *
  have e1 : (q + 1) * b = q * b + b := by rw [Int.add_mul]; omega
  exact (ediv_at hb (by rw [Int.neg_mul]; omega) (by rw [Int.add_mul, Int.neg_mul]; omega)).symm
set_option maxHeartbeats 4000000 in
theorem jdown_any (n b : Int) (hb : 0 < b ∧ b ≤ 100000) (hn : -100000 ≤ n ∧ n ≤ 100000) (w : World) : Calls Try.prog 19 #[.int .i64 n, .int .i64 b] w fun e w' => e = .returned (.int .i64 (n / b)) ∧ w' = w := by
  have hz : (b == 0) = false := by simp; omega
  have hne : ¬ b = 0 := by omega
  by_cases c : 0 ≤ n
  · obtain ⟨q, hq⟩ : ∃ q, n / b = q := ⟨_, rfl⟩
    have e1 : n.tdiv b = q := by rw [Int.tdiv_eq_ediv_of_nonneg c]; exact hq
    have b0 : 0 ≤ q := by rw [← hq]; exact Int.ediv_nonneg c (by omega)
    have b1 : q ≤ n := by rw [← hq]; exact Int.ediv_le_self _ c
    have e2 : IntKind.i64.wrap q = q := IntWalk.i64_in _ (by omega)
    rw [hq]
    go_enter Try.func19, Try.ntmps19
    go_wp2
    go_ret
    exact ⟨rfl, rfl⟩
  · have hd := down_eq (n := n) hb.1
    obtain ⟨m, hm⟩ : ∃ m, b - 1 - n = m := ⟨_, rfl⟩
    have m0 : 0 ≤ m := by omega
    rw [hm] at hd
    obtain ⟨q, hq⟩ : ∃ q, m / b = q := ⟨_, rfl⟩
    rw [hq] at hd
    have e0 : IntKind.i64.wrap (b - 1 - n) = m := (IntWalk.i64_in _ (by omega)).trans hm
    have e1 : m.tdiv b = q := by rw [Int.tdiv_eq_ediv_of_nonneg m0]; exact hq
    have b0 : 0 ≤ q := by rw [← hq]; exact Int.ediv_nonneg m0 (by omega)
    have b1 : q ≤ m := by rw [← hq]; exact Int.ediv_le_self _ m0
    have e2 : IntKind.i64.wrap q = q := IntWalk.i64_in _ (by omega)
    have e3 : IntKind.i64.wrap (-q) = -q := IntWalk.i64_in _ (by omega)
    rw [← hd]
    clear hd hq hm
    go_enter Try.func19, Try.ntmps19
    go_wp2
    go_ret
    exact ⟨rfl, rfl⟩
set_option maxHeartbeats 4000000 in
theorem jparts_any (n : Int) (hn : -100000 ≤ n ∧ n ≤ 100000) (w : World) : Calls Try.prog 17 #[.int .i64 n] w fun e w' => e = .returned (.int .i64 (ptN n)) ∧ w' = w := by
  by_cases c : n < 0
  · rw [show ptN n = -n from by unfold ptN; rw [if_pos c]]
    go_enter Try.func17, Try.ntmps17
    go_wp2
    go_ret
    exact ⟨rfl, rfl⟩
  · by_cases c2 : n < 1
    · rw [show ptN n = 1 from by unfold ptN; rw [if_neg c]; omega]
      go_enter Try.func17, Try.ntmps17
      go_wp2
      go_ret
      exact ⟨ret_i64 (by omega), rfl⟩
    · rw [show ptN n = n from by unfold ptN; rw [if_neg c]; omega]
      go_enter Try.func17, Try.ntmps17
      go_wp2
      go_ret
      exact ⟨ret_i64 (by omega), rfl⟩
/-- whether a box has a cube. -/
def inBB (x y z : Int) (b : Bx) : Bool := decide (b.r.X0 ≤ x) && (decide (x < b.r.X1) && (decide (b.r.Y0 ≤ y) && (decide (y < b.r.Y1) && (decide (b.z0 ≤ z) && decide (z < b.z1)))))
theorem inBB_has {l : List Bx} (h : ∀ b ∈ l, BOk b) (x y z : Int) : l.any (inBB x y z) = true ↔ HasB l x y z := by
  rw [List.any_eq_true]
  unfold inBB HasB HasR
  simp only [Bool.and_eq_true, decide_eq_true_eq]
  constructor
  · rintro ⟨b, hb, a0, a1, a2, a3, a4, a5⟩; exact ⟨b, hb, ⟨(h b hb).1, a0, a1, a2, a3⟩, a4, a5⟩
  · rintro ⟨b, hb, ⟨_, a0, a1, a2, a3⟩, a4, a5⟩; exact ⟨b, hb, a0, a1, a2, a3, a4, a5⟩
theorem any_next (f : Bx → Bool) (l : List Bx) (j : Nat) (h : j < l.length) : (l.take (j + 1)).any f = ((l.take j).any f || f l[j]) := by
  rw [List.take_succ_eq_append_getElem h, List.any_append]; simp
/-- found so far. -/
def Fd11 (l : List Bx) (p v : V3) (N : Int) (kk : Int) (f : Bool) : Prop := f = true ↔ ∃ j, 1 ≤ j ∧ j < kk ∧ HitAt (HasB l) p v j N
theorem Fd11.start (l : List Bx) (p v : V3) (N : Int) : Fd11 l p v N 1 false := ⟨fun h => (by cases h), fun ⟨j, a, b, _⟩ => by omega⟩
theorem Fd11.next {l : List Bx} {p v : V3} {N kk : Int} (h : Fd11 l p v N kk false) (hk : 1 ≤ kk) {f : Bool} (hf : f = true ↔ HitAt (HasB l) p v kk N) : Fd11 l p v N (kk + 1) f := by
  constructor
  · intro e; exact ⟨kk, hk, by omega, hf.1 e⟩
  · rintro ⟨j, a, b, c⟩
    by_cases e : j = kk
    · subst e; exact hf.2 c
    · have := h.2 ⟨j, a, by omega, c⟩
      cases this
set_option maxHeartbeats 40000000 in
theorem samples11_in (A : Option Addr) (cap : Nat) (S : List Sl) (p q : V3) (w : World) (hl : SlRow0 w A S) (hc : S.length ≤ cap) (hs : cap ≤ 9223372036854775807) (hf : Few11 S) (so : SolP S) (hin : ¬ (p.x < 0 ∨ 6 < p.x ∨ p.y < 0 ∨ 6 < p.y ∨ p.z < 0 ∨ 6 < p.z ∨ q.x < 0 ∨ 6 < q.x ∨ q.y < 0 ∨ 6 < q.y ∨ q.z < 0 ∨ 6 < q.z)) : Calls Try.prog 4 #[.slice A S.length cap, .agg #[.int .i64 p.x, .int .i64 p.y, .int .i64 p.z], .agg #[.int .i64 q.x, .int .i64 q.y, .int .i64 q.z]] w (BlIs true w) := by
  have HSM := Lib.hid (fun w' => jsmall_any w')
  have HFW := Lib.hid (fun w' (hb : Below w.heap.size w w') => jfew_any A cap S w' (slrow0_below hl hb) (Nat.le_trans hc hs))
  rw [few11_yes hf] at HFW
  have HSI := Lib.hid (few11_in hl hc hs hf)
  have HR := Lib.hid (fun w' (hb : Below w.heap.size w w') => dright_b A cap S w' (HSI.out.below hb))
  clear hl hc hs hf
  rw [solPB_yes so] at HR
  have cpx : ¬ p.x < 0 := fun h => hin (by omega)
  have cpX : ¬ 6 < p.x := fun h => hin (by omega)
  have cpy : ¬ p.y < 0 := fun h => hin (by omega)
  have cpY : ¬ 6 < p.y := fun h => hin (by omega)
  have cpz : ¬ p.z < 0 := fun h => hin (by omega)
  have cpZ : ¬ 6 < p.z := fun h => hin (by omega)
  have cqx : ¬ q.x < 0 := fun h => hin (by omega)
  have cqX : ¬ 6 < q.x := fun h => hin (by omega)
  have cqy : ¬ q.y < 0 := fun h => hin (by omega)
  have cqY : ¬ 6 < q.y := fun h => hin (by omega)
  have cqz : ¬ q.z < 0 := fun h => hin (by omega)
  have cqZ : ¬ 6 < q.z := fun h => hin (by omega)
  clear hin
  have cp : PtOk p := ⟨⟨by omega, by omega⟩, ⟨by omega, by omega⟩, by omega, by omega⟩
  have cq : PtOk q := ⟨⟨by omega, by omega⟩, ⟨by omega, by omega⟩, by omega, by omega⟩
  have HSA := Lib.hid (samples_iff so cp cq)
  have HBL := Lib.hid (fun w' (hb : Below w.heap.size w w') => sblocked_any A cap S p q w' (HSI.out.below hb))
  have HDB := Lib.hid (fun w' (hb : Below w.heap.size w w') => dboxes_yes (HSI.out.below hb) so)
  have HOB := Lib.hid (boxes_ok so.form)
  have hlen : (boxesS S).length ≤ 16000 := by
    have h1 := boxesS_len (S := S) so.rects
    have h2 := Nat.mul_le_mul_right 200 so.len
    omega
  have HA := Lib.hid (fun x y z w' => jat_any x y z w')
  clear HSI so cp cq
  generalize boxesS S = l at *
  obtain ⟨v, hv⟩ : ∃ v, q.sub p = v := ⟨_, rfl⟩
  rw [hv] at HSA
  have hvx : q.x - p.x = v.x := by rw [← hv]; rfl
  have hvy : q.y - p.y = v.y := by rw [← hv]; rfl
  have hvz : q.z - p.z = v.z := by rw [← hv]; rfl
  have t1x : IntKind.i64.wrap (q.x - p.x) = v.x := (IntWalk.i64_in _ (by omega)).trans hvx
  have t1y : IntKind.i64.wrap (q.y - p.y) = v.y := (IntWalk.i64_in _ (by omega)).trans hvy
  have t1z : IntKind.i64.wrap (q.z - p.z) = v.z := (IntWalk.i64_in _ (by omega)).trans hvz
  have vb : (-6 ≤ v.x ∧ v.x ≤ 6) ∧ (-6 ≤ v.y ∧ v.y ≤ 6) ∧ (-6 ≤ v.z ∧ v.z ≤ 6) := ⟨by omega, by omega, by omega⟩
  have HE : Hid (∀ a : Int, -6 ≤ a ∧ a ≤ 6 → 1 ≤ ptN a ∧ ptN a ≤ 6) := Lib.hid (fun a h => by unfold ptN; split <;> omega)
  have px := HE.out v.x vb.1
  have py := HE.out v.y vb.2.1
  have pz := HE.out v.z vb.2.2
  obtain ⟨N, hN⟩ : ∃ N, sampN v = N := ⟨_, rfl⟩
  rw [hN] at HSA
  unfold sampN at hN
  obtain ⟨a1, ha1⟩ : ∃ a1, ptN v.x = a1 := ⟨_, rfl⟩
  obtain ⟨a2, ha2⟩ : ∃ a2, ptN v.y = a2 := ⟨_, rfl⟩
  obtain ⟨a3, ha3⟩ : ∃ a3, ptN v.z = a3 := ⟨_, rfl⟩
  rw [ha1] at hN px; rw [ha2] at hN py; rw [ha3] at hN pz
  obtain ⟨vbx, vby, vbz⟩ := vb
  obtain ⟨s1, hs1⟩ : ∃ s1, 2 * a1 = s1 := ⟨_, rfl⟩
  obtain ⟨s2, hs2⟩ : ∃ s2, s1 * a2 = s2 := ⟨_, rfl⟩
  rw [hs1, hs2] at hN
  have r2 : 1 ≤ s2 ∧ s2 ≤ 72 := by
    have h1 := Int.mul_le_mul (show s1 ≤ 12 by omega) py.2 (by omega) (by omega)
    have h2 := Int.mul_pos (show 0 < s1 by omega) (show 0 < a2 by omega)
    omega
  have r3 : 2 ≤ N ∧ N ≤ 432 := by
    have h1 := Int.mul_le_mul (show s2 ≤ 72 by omega) pz.2 (by omega) (by omega)
    have h2 : 2 ≤ s2 := by have := Int.mul_le_mul (show (2 : Int) ≤ s1 by omega) py.1 (by omega) (by omega); omega
    have h3 := Int.mul_le_mul h2 pz.1 (by omega) (by omega)
    omega
  have u1 : IntKind.i64.wrap (2 * ptN v.x) = s1 := by rw [ha1]; exact (IntWalk.i64_in _ (by omega)).trans hs1
  have u2 : IntKind.i64.wrap (s1 * ptN v.y) = s2 := by rw [ha2]; exact (IntWalk.i64_in _ (by rw [hs2]; omega)).trans hs2
  have u3 : IntKind.i64.wrap (s2 * ptN v.z) = N := by rw [ha3]; exact (IntWalk.i64_in _ (by rw [hN]; omega)).trans hN
  clear hs1 hs2 hN HE hv hvx hvy hvz ha1 ha2 ha3 px py pz r2
  go_enter Try.func4, Try.ntmps4
  go_upto_region 1 with fail
  obtain ⟨w0, hw0⟩ : ∃ w0, w0 = (w.alloc (.cells #[.int .i64 p.x, .int .i64 p.y, .int .i64 p.z] 24)).alloc (.cells #[.int .i64 q.x, .int .i64 q.y, .int .i64 q.z] 24) := ⟨_, rfl⟩
  have HB : Hid (Below w.heap.size w w0) := Lib.hid (by rw [hw0]; exact ((Below.refl _ _).alloc (Nat.le_refl _) _).alloc (by simp) _)
  have Hp : Hid (P3At w0 w.heap.size p) := Lib.hid (by rw [hw0]; exact (heap2 w _ _).1)
  have Hq : Hid (P3At w0 (w.heap.size + 1) q) := Lib.hid (by rw [hw0]; exact (heap2 w _ _).2)
  rw [← hw0]
  clear hw0
  generalize w.heap.size + 1 = gq at *
  obtain ⟨gp, hgp⟩ : ∃ gp, gp = w.heap.size := ⟨_, rfl⟩
  rw [← hgp] at Hp
  simp only [← hgp]
  clear hgp
  have p0 := Hp.out.c0; have p1 := Hp.out.c1; have p2 := Hp.out.c2; have pl := Hp.out.lt
  have q0 := Hq.out.c0; have q1 := Hq.out.c1; have q2 := Hq.out.c2; have ql := Hq.out.lt
  go_wp2_with fail
  with_reducible refine Calls.mono (HSM.out _) ?_
  rintro e w1 ⟨rfl, hb⟩
  replace Hp := Lib.hid (Hp.out.go hb)
  replace Hq := Lib.hid (Hq.out.go hb)
  replace HB := Lib.hid (HB.out.trans (hb.mono HB.out.size))
  clear hb HSM
  clear p0 p1 p2 pl q0 q1 q2 ql
  have p0 := Hp.out.c0; have p1 := Hp.out.c1; have p2 := Hp.out.c2; have pl := Hp.out.lt
  have q0 := Hq.out.c0; have q1 := Hq.out.c1; have q2 := Hq.out.c2; have ql := Hq.out.lt
  go_wp2_with fail
  with_reducible refine Calls.mono (HFW.out _ HB.out) ?_
  rintro e w2 ⟨rfl, hb⟩
  replace Hp := Lib.hid (Hp.out.go hb)
  replace Hq := Lib.hid (Hq.out.go hb)
  replace HB := Lib.hid (HB.out.trans (hb.mono HB.out.size))
  clear hb HFW
  clear p0 p1 p2 pl q0 q1 q2 ql
  have p0 := Hp.out.c0; have p1 := Hp.out.c1; have p2 := Hp.out.c2; have pl := Hp.out.lt
  have q0 := Hq.out.c0; have q1 := Hq.out.c1; have q2 := Hq.out.c2; have ql := Hq.out.lt
  go_wp2_with fail
  with_reducible refine Calls.mono (HR.out _ HB.out) ?_
  rintro e w3 ⟨rfl, hb⟩
  replace Hp := Lib.hid (Hp.out.go hb)
  replace Hq := Lib.hid (Hq.out.go hb)
  replace HB := Lib.hid (HB.out.trans (hb.mono HB.out.size))
  clear hb HR
  clear p0 p1 p2 pl q0 q1 q2 ql
  have p0 := Hp.out.c0; have p1 := Hp.out.c1; have p2 := Hp.out.c2; have pl := Hp.out.lt
  have q0 := Hq.out.c0; have q1 := Hq.out.c1; have q2 := Hq.out.c2; have ql := Hq.out.lt
  go_wp2_with fail
  with_reducible refine Calls.mono (HA.out _ _ _ _) ?_
  rintro e w4 ⟨rfl, hb⟩
  replace Hp := Lib.hid (Hp.out.go hb)
  replace Hq := Lib.hid (Hq.out.go hb)
  replace HB := Lib.hid (HB.out.trans (hb.mono HB.out.size))
  clear hb HA
  clear p0 p1 p2 pl q0 q1 q2 ql
  have p0 := Hp.out.c0; have p1 := Hp.out.c1; have p2 := Hp.out.c2; have pl := Hp.out.lt
  have q0 := Hq.out.c0; have q1 := Hq.out.c1; have q2 := Hq.out.c2; have ql := Hq.out.lt
  go_upto_region 5 with fail
  obtain ⟨w5, hwa⟩ : ∃ wa, wa = w4.alloc (.cells #[.int .i64 v.x, .int .i64 v.y, .int .i64 v.z] 24) := ⟨_, rfl⟩
  have hb : Below w4.heap.size w4 w5 := by rw [hwa]; exact (Below.refl _ _).alloc (Nat.le_refl _) _
  have Hv : Hid (P3At w5 w4.heap.size ⟨v.x, v.y, v.z⟩) := Lib.hid (by rw [hwa]; exact heap_alloc_new w4 _)
  rw [← hwa]
  clear hwa
  replace Hp := Lib.hid (Hp.out.go hb)
  replace Hq := Lib.hid (Hq.out.go hb)
  replace HB := Lib.hid (HB.out.trans (hb.mono HB.out.size))
  clear hb
  clear p0 p1 p2 pl q0 q1 q2 ql
  generalize w4.heap.size = gv at *
  have v0 := Hv.out.c0; have v1 := Hv.out.c1; have v2 := Hv.out.c2; have vl := Hv.out.lt
  go_wp2_with fail
  go_quiet ((go_at_call 17; exact Calls.quiet_of_same (jparts_any _ ⟨by omega, by omega⟩ _)))
  clear v0 v1 v2 vl u1 u2 u3
  rename_i nq9
  generalize hwx : World.drewN _ _ = wx
  have hbx : Below w5.heap.size w5 wx := by rw [← hwx]; exact below_drewN (Below.refl _ _) _
  replace Hp := Lib.hid (Hp.out.go hbx); replace Hq := Lib.hid (Hq.out.go hbx); replace Hv := Lib.hid (Hv.out.go hbx)
  replace HB := Lib.hid (HB.out.trans (hbx.mono HB.out.size))
  clear hwx hbx
  go_wp2_with fail
  with_reducible refine Calls.mono (HDB.out _ HB.out) ?_
  rintro e w6 ⟨vb9, rfl, ho, hb⟩
  obtain ⟨AB, cb, rfl, hrow, hroom, hroom2⟩ := own_boxes ho
  have HROW := Lib.hid hrow
  replace Hp := Lib.hid (Hp.out.go hb); replace Hq := Lib.hid (Hq.out.go hb); replace Hv := Lib.hid (Hv.out.go hb)
  replace HB := Lib.hid (HB.out.trans (hb.mono HB.out.size))
  clear ho hb hrow HDB
  have K0 : Hid (Below w6.heap.size w6 w6) := Lib.hid (Below.refl _ _)
  have F0 := Lib.hid (Fd11.start l p v N)
  go_wp2_with fail
  go_loopw [11, 12] (fun f t wr => ∃ (kk : Int) (fb : Bool), 1 ≤ kk ∧ kk ≤ N ∧ t = .int .i64 kk ∧ f = .bool fb ∧ Hid (Below w6.heap.size w6 wr) ∧ Hid (Fd11 l p v N kk fb)) (fun f t _ => (N - intOf t).toNat)
  case atStart => exact ⟨1, false, by omega, by omega, rfl, rfl, K0, F0⟩
  case round =>
    clear K0 F0
    obtain ⟨kk, fb, hk1, hkN, rfl, rfl, HW, HF⟩ := hrel
    have hp9 := Hp.out.go HW.out; have hq9 := Hq.out.go HW.out; have hv9 := Hv.out.go HW.out
    have HP9 := Lib.hid hp9; have HQ9 := Lib.hid hq9; have HV9 := Lib.hid hv9
    clear hp9 hq9 hv9
    by_cases hlt : kk < N
    · cases fb with
      | true =>
        have hres : Hid (bkB S p q = true) := Lib.hid (by
          obtain ⟨j, a, b, c⟩ := HF.out.1 rfl
          exact HSA.out.2 ⟨j, a, by omega, c⟩)
        have x0 := HP9.out.c0; have x1 := HP9.out.c1; have x2 := HP9.out.c2; have xl := HP9.out.lt
        have y0 := HQ9.out.c0; have y1 := HQ9.out.c1; have y2 := HQ9.out.c2; have yl := HQ9.out.lt
        have HBB := Lib.hid (HB.out.trans (HW.out.mono HB.out.size))
        have HBC := Lib.hid (HBL.out _ HBB.out)
        rw [hres.out] at HBC
        have eb : (true == true) = true := by simp
        clear hres HF HSA HBL
        go_wp2_with fail
        with_reducible refine Calls.mono HBC.out ?_
        rintro e w9 ⟨rfl, hb⟩
        have HBD := Lib.hid (HBB.out.trans (hb.mono HBB.out.size))
        clear hb HBC
        go_wp2_with fail
        go_ret
        exact ⟨rfl, HBD.out⟩
      | false =>
        have HFX := HF
        clear HF
        have bx1 := mul_rng2 (a := p.x) (b := N) (A := 6) (B := 432) (by omega) (by omega)
        have bx2 := mul_rng2 (a := v.x) (b := kk) (A := 6) (B := 432) (by omega) (by omega)
        obtain ⟨ax, hax⟩ : ∃ ax, p.x * N = ax := ⟨_, rfl⟩
        obtain ⟨e9x, hbx⟩ : ∃ e9x, v.x * kk = e9x := ⟨_, rfl⟩
        obtain ⟨cx, hcx⟩ : ∃ cx, ax + e9x = cx := ⟨_, rfl⟩
        rw [hax] at bx1; rw [hbx] at bx2
        have g1x : IntKind.i64.wrap (p.x * N) = ax := (IntWalk.i64_in _ (by rw [hax]; omega)).trans hax
        have g2x : IntKind.i64.wrap (v.x * kk) = e9x := (IntWalk.i64_in _ (by rw [hbx]; omega)).trans hbx
        have g3x : IntKind.i64.wrap (ax + e9x) = cx := (IntWalk.i64_in _ (by omega)).trans hcx
        have HDx := Lib.hid (fun w' => jdown_any cx N ⟨by omega, by omega⟩ ⟨by omega, by omega⟩ w')
        clear bx1 bx2
        have bx1 := mul_rng2 (a := p.y) (b := N) (A := 6) (B := 432) (by omega) (by omega)
        have bx2 := mul_rng2 (a := v.y) (b := kk) (A := 6) (B := 432) (by omega) (by omega)
        obtain ⟨ay, hay⟩ : ∃ ay, p.y * N = ay := ⟨_, rfl⟩
        obtain ⟨e9y, hby⟩ : ∃ e9y, v.y * kk = e9y := ⟨_, rfl⟩
        obtain ⟨cy, hcy⟩ : ∃ cy, ay + e9y = cy := ⟨_, rfl⟩
        rw [hay] at bx1; rw [hby] at bx2
        have g1y : IntKind.i64.wrap (p.y * N) = ay := (IntWalk.i64_in _ (by rw [hay]; omega)).trans hay
        have g2y : IntKind.i64.wrap (v.y * kk) = e9y := (IntWalk.i64_in _ (by rw [hby]; omega)).trans hby
        have g3y : IntKind.i64.wrap (ay + e9y) = cy := (IntWalk.i64_in _ (by omega)).trans hcy
        have HDy := Lib.hid (fun w' => jdown_any cy N ⟨by omega, by omega⟩ ⟨by omega, by omega⟩ w')
        clear bx1 bx2
        have bx1 := mul_rng2 (a := p.z) (b := N) (A := 6) (B := 432) (by omega) (by omega)
        have bx2 := mul_rng2 (a := v.z) (b := kk) (A := 6) (B := 432) (by omega) (by omega)
        obtain ⟨az, haz⟩ : ∃ az, p.z * N = az := ⟨_, rfl⟩
        obtain ⟨e9z, hbz⟩ : ∃ e9z, v.z * kk = e9z := ⟨_, rfl⟩
        obtain ⟨cz, hcz⟩ : ∃ cz, az + e9z = cz := ⟨_, rfl⟩
        rw [haz] at bx1; rw [hbz] at bx2
        have g1z : IntKind.i64.wrap (p.z * N) = az := (IntWalk.i64_in _ (by rw [haz]; omega)).trans haz
        have g2z : IntKind.i64.wrap (v.z * kk) = e9z := (IntWalk.i64_in _ (by rw [hbz]; omega)).trans hbz
        have g3z : IntKind.i64.wrap (az + e9z) = cz := (IntWalk.i64_in _ (by omega)).trans hcz
        have HDz := Lib.hid (fun w' => jdown_any cz N ⟨by omega, by omega⟩ ⟨by omega, by omega⟩ w')
        clear bx1 bx2
        have HIT : Hid (HitAt (HasB l) p v kk N ↔ HasB l (cx / N) (cy / N) (cz / N)) := Lib.hid (by
          unfold HitAt
          rw [Int.mul_comm kk v.x, Int.mul_comm kk v.y, Int.mul_comm kk v.z, hax, hbx, hcx, hay, hby, hcy, haz, hbz, hcz])
        clear hax hbx hcx hay hby hcy haz hbz hcz
        generalize cx / N = X at *
        generalize cy / N = Y at *
        generalize cz / N = Z at *
        have x0 := HP9.out.c0; have x1 := HP9.out.c1; have x2 := HP9.out.c2; have xl := HP9.out.lt
        have v0 := HV9.out.c0; have v1 := HV9.out.c1; have v2 := HV9.out.c2; have vl := HV9.out.lt
        go_wp2_with fail
        with_reducible refine Calls.mono (HDx.out _) ?_
        rintro e wd0 ⟨rfl, hwd⟩
        replace hwd := hwd.symm; subst hwd
        clear HDx
        go_wp2_with fail
        with_reducible refine Calls.mono (HDy.out _) ?_
        rintro e wd1 ⟨rfl, hwd⟩
        replace hwd := hwd.symm; subst hwd
        clear HDy
        go_wp2_with fail
        with_reducible refine Calls.mono (HDz.out _) ?_
        rintro e wd2 ⟨rfl, hwd⟩
        replace hwd := hwd.symm; subst hwd
        clear HDz
        go_wp2_with fail
        clear x0 x1 x2 xl v0 v1 v2 vl g1x g2x g3x g1y g2y g3y g1z g2z g3z
        obtain ⟨wq, rfl⟩ : ∃ wq : World, wq = wr := ⟨_, rfl⟩
        have J0 : Hid (false = (l.take 0).any (inBB X Y Z)) := Lib.hid rfl
        have HWQ := HW
        go_loopw [11, 16] (fun f t w2 => ∃ (j : Nat) (fb : Bool), j ≤ l.length ∧ t = .int .i64 j ∧ f = .bool fb ∧ Hid (Below w6.heap.size w6 w2) ∧ Hid (fb = (l.take j).any (inBB X Y Z))) (fun f t _ => l.length - (intOf t).toNat)
        case atStart => exact ⟨0, false, Nat.zero_le _, rfl, rfl, HWQ, J0⟩
        case round =>
          clear J0 HWQ
          obtain ⟨j, fb, hj, rfl, rfl, HW2, HJ⟩ := hrel
          by_cases hjt : j < l.length
          · obtain ⟨bb, o1, rfl, hb1, hv1⟩ := HROW.out (by omega)
            obtain ⟨q0, q1, q2, q3, q4, q5⟩ := hv1 j hjt
            have wc := fun o => HW2.out.cell (p := ⟨bb, o, none⟩) hb1
            have q0 := (wc _).trans q0; have q1 := (wc _).trans q1; have q2 := (wc _).trans q2; have q3 := (wc _).trans q3; have q4 := (wc _).trans q4; have q5 := (wc _).trans q5
            have hbw : bb < wr.heap.size := Nat.lt_of_lt_of_le hb1 HW2.out.size
            have j0 : (0 : Int) ≤ (j : Int) := by omega
            have j1 : (j : Int) < (l.length : Int) := by omega
            have HNX : Hid ((l.take (j + 1)).any (inBB X Y Z) = (fb || inBB X Y Z l[j])) := Lib.hid (by rw [any_next _ _ _ hjt, HJ.out])
            obtain ⟨b, hb⟩ : ∃ b, b = l[j] := ⟨_, rfl⟩
            rw [← hb] at q0 q1 q2 q3 q4 q5 HNX
            clear hb hv1 wc HJ
            have HB3 : Hid (Below w6.heap.size w6 (wr.alloc (.cells #[.int .i64 b.r.X0, .int .i64 b.r.Y0, .int .i64 b.r.X1, .int .i64 b.r.Y1, .int .i64 b.z0, .int .i64 b.z1] 37))) := Lib.hid (HW2.out.alloc HW2.out.size _)
            cases fb with
            | true =>
              have HT : Hid (true = (l.take (j + 1)).any (inBB X Y Z)) := Lib.hid (by rw [HNX.out, Bool.true_or])
              clear HNX
              go_wp2_with fail
              go_roundw
              case rel => exact ⟨j + 1, true, by omega, by go_num, rfl, HB3, HT⟩
              case measure => simp [intOf]; omega
            | false =>
              have HNY : Hid ((l.take (j + 1)).any (inBB X Y Z) = inBB X Y Z b) := Lib.hid (by rw [HNX.out, Bool.false_or])
              clear HNX
              by_cases d0 : b.r.X0 ≤ X
              case neg =>
                have HT : Hid (false = (l.take (j + 1)).any (inBB X Y Z)) := Lib.hid (by rw [HNY.out]; unfold inBB; simp [d0])
                clear HNY
                go_wp2_with fail
                go_roundw
                case rel => exact ⟨j + 1, false, by omega, by go_num, rfl, HB3, HT⟩
                case measure => simp [intOf]; omega
              case pos =>
                by_cases d1 : X < b.r.X1
                case neg =>
                  have HT : Hid (false = (l.take (j + 1)).any (inBB X Y Z)) := Lib.hid (by rw [HNY.out]; unfold inBB; simp [d0, d1])
                  clear HNY
                  go_wp2_with fail
                  go_roundw
                  case rel => exact ⟨j + 1, false, by omega, by go_num, rfl, HB3, HT⟩
                  case measure => simp [intOf]; omega
                case pos =>
                  by_cases d2 : b.r.Y0 ≤ Y
                  case neg =>
                    have HT : Hid (false = (l.take (j + 1)).any (inBB X Y Z)) := Lib.hid (by rw [HNY.out]; unfold inBB; simp [d0, d1, d2])
                    clear HNY
                    go_wp2_with fail
                    go_roundw
                    case rel => exact ⟨j + 1, false, by omega, by go_num, rfl, HB3, HT⟩
                    case measure => simp [intOf]; omega
                  case pos =>
                    by_cases d3 : Y < b.r.Y1
                    case neg =>
                      have HT : Hid (false = (l.take (j + 1)).any (inBB X Y Z)) := Lib.hid (by rw [HNY.out]; unfold inBB; simp [d0, d1, d2, d3])
                      clear HNY
                      go_wp2_with fail
                      go_roundw
                      case rel => exact ⟨j + 1, false, by omega, by go_num, rfl, HB3, HT⟩
                      case measure => simp [intOf]; omega
                    case pos =>
                      by_cases d4 : b.z0 ≤ Z
                      case neg =>
                        have HT : Hid (false = (l.take (j + 1)).any (inBB X Y Z)) := Lib.hid (by rw [HNY.out]; unfold inBB; simp [d0, d1, d2, d3, d4])
                        clear HNY
                        go_wp2_with fail
                        go_roundw
                        case rel => exact ⟨j + 1, false, by omega, by go_num, rfl, HB3, HT⟩
                        case measure => simp [intOf]; omega
                      case pos =>
                        by_cases d5 : Z < b.z1
                        case neg =>
                          have HT : Hid (false = (l.take (j + 1)).any (inBB X Y Z)) := Lib.hid (by rw [HNY.out]; unfold inBB; simp [d0, d1, d2, d3, d4, d5])
                          clear HNY
                          go_wp2_with fail
                          go_roundw
                          case rel => exact ⟨j + 1, false, by omega, by go_num, rfl, HB3, HT⟩
                          case measure => simp [intOf]; omega
                        case pos =>
                          have HT : Hid (true = (l.take (j + 1)).any (inBB X Y Z)) := Lib.hid (by rw [HNY.out]; unfold inBB; simp [d0, d1, d2, d3, d4, d5])
                          clear HNY
                          go_wp2_with fail
                          go_roundw
                          case rel => exact ⟨j + 1, true, by omega, by go_num, rfl, HB3, HT⟩
                          case measure => simp [intOf]; omega
          · obtain rfl : j = l.length := by omega
            have HN2 : Hid (Fd11 l p v N (kk + 1) fb) := Lib.hid (HFX.out.next hk1 (by
              have h1 := HJ.out
              rw [List.take_length] at h1
              rw [h1, inBB_has HOB.out, HIT.out]))
            have gk : IntKind.i64.wrap (kk + 1) = kk + 1 := IntWalk.i64_in _ (by omega)
            clear HFX HIT HJ
            go_wp2_with fail
            go_roundw
            case rel => exact ⟨kk + 1, fb, by omega, by omega, by first | rfl | go_num, rfl, HW2, HN2⟩
            case measure => simp [intOf]; omega
    · obtain rfl : kk = N := by omega
      have hres : Hid (bkB S p q = fb) := Lib.hid (by
        rw [Bool.eq_iff_iff, HSA.out]
        have hf := HF.out
        unfold Fd11 at hf
        rw [hf])
      have x0 := HP9.out.c0; have x1 := HP9.out.c1; have x2 := HP9.out.c2; have xl := HP9.out.lt
      have y0 := HQ9.out.c0; have y1 := HQ9.out.c1; have y2 := HQ9.out.c2; have yl := HQ9.out.lt
      have HBB := Lib.hid (HB.out.trans (HW.out.mono HB.out.size))
      have HBC := Lib.hid (HBL.out _ HBB.out)
      rw [hres.out] at HBC
      have eb : (fb == fb) = true := by simp
      clear hres HF HSA HBL
      go_wp2_with fail
      with_reducible refine Calls.mono HBC.out ?_
      rintro e w9 ⟨rfl, hb⟩
      have HBD := Lib.hid (HBB.out.trans (hb.mono HBB.out.size))
      clear hb HBC
      go_wp2_with fail
      go_ret
      exact ⟨rfl, HBD.out⟩
set_option maxHeartbeats 40000000 in
theorem samples11_walk (A : Option Addr) (cap : Nat) (S : List Sl) (p q : V3) (w : World) (hl : SlRow0 w A S) (hc : S.length ≤ cap) (hs : cap ≤ 9223372036854775807) : Calls Try.prog 4 #[.slice A S.length cap, .agg #[.int .i64 p.x, .int .i64 p.y, .int .i64 p.z], .agg #[.int .i64 q.x, .int .i64 q.y, .int .i64 q.z]] w (BlIs true w) := by
  have HSM := Lib.hid (fun w' => jsmall_any w')
  have HFW := Lib.hid (fun w' (hb : Below w.heap.size w w') => jfew_any A cap S w' (slrow0_below hl hb) (Nat.le_trans hc hs))
  have hl' := hl; have hc' := hc; have hs' := hs
  by_cases hf : Few11 S
  · rw [few11_yes hf] at HFW
    have HSI := Lib.hid (few11_in hl hc hs hf)
    have HR := Lib.hid (fun w' (hb : Below w.heap.size w w') => dright_b A cap S w' (HSI.out.below hb))
    have hf' := hf
    clear hl hc hs hf
    by_cases so : SolP S
    · rw [solPB_yes so] at HR
      by_cases hin : (p.x < 0 ∨ 6 < p.x ∨ p.y < 0 ∨ 6 < p.y ∨ p.z < 0 ∨ 6 < p.z ∨ q.x < 0 ∨ 6 < q.x ∨ q.y < 0 ∨ 6 < q.y ∨ q.z < 0 ∨ 6 < q.z)
      · have HIN := Lib.hid hin
        clear hin
        go_enter Try.func4, Try.ntmps4
        go_upto_region 1 with fail
        obtain ⟨w0, hw0⟩ : ∃ w0, w0 = (w.alloc (.cells #[.int .i64 p.x, .int .i64 p.y, .int .i64 p.z] 24)).alloc (.cells #[.int .i64 q.x, .int .i64 q.y, .int .i64 q.z] 24) := ⟨_, rfl⟩
        have HB : Hid (Below w.heap.size w w0) := Lib.hid (by rw [hw0]; exact ((Below.refl _ _).alloc (Nat.le_refl _) _).alloc (by simp) _)
        have Hp : Hid (P3At w0 w.heap.size p) := Lib.hid (by rw [hw0]; exact (heap2 w _ _).1)
        have Hq : Hid (P3At w0 (w.heap.size + 1) q) := Lib.hid (by rw [hw0]; exact (heap2 w _ _).2)
        rw [← hw0]
        clear hw0
        generalize w.heap.size + 1 = gq at *
        obtain ⟨gp, hgp⟩ : ∃ gp, gp = w.heap.size := ⟨_, rfl⟩
        rw [← hgp] at Hp
        simp only [← hgp]
        clear hgp
        have p0 := Hp.out.c0; have p1 := Hp.out.c1; have p2 := Hp.out.c2; have pl := Hp.out.lt
        have q0 := Hq.out.c0; have q1 := Hq.out.c1; have q2 := Hq.out.c2; have ql := Hq.out.lt
        go_wp2_with fail
        with_reducible refine Calls.mono (HSM.out _) ?_
        rintro e w1 ⟨rfl, hb⟩
        replace Hp := Lib.hid (Hp.out.go hb)
        replace Hq := Lib.hid (Hq.out.go hb)
        replace HB := Lib.hid (HB.out.trans (hb.mono HB.out.size))
        clear hb HSM
        clear p0 p1 p2 pl q0 q1 q2 ql
        have p0 := Hp.out.c0; have p1 := Hp.out.c1; have p2 := Hp.out.c2; have pl := Hp.out.lt
        have q0 := Hq.out.c0; have q1 := Hq.out.c1; have q2 := Hq.out.c2; have ql := Hq.out.lt
        go_wp2_with fail
        with_reducible refine Calls.mono (HFW.out _ HB.out) ?_
        rintro e w2 ⟨rfl, hb⟩
        replace Hp := Lib.hid (Hp.out.go hb)
        replace Hq := Lib.hid (Hq.out.go hb)
        replace HB := Lib.hid (HB.out.trans (hb.mono HB.out.size))
        clear hb HFW
        clear p0 p1 p2 pl q0 q1 q2 ql
        have p0 := Hp.out.c0; have p1 := Hp.out.c1; have p2 := Hp.out.c2; have pl := Hp.out.lt
        have q0 := Hq.out.c0; have q1 := Hq.out.c1; have q2 := Hq.out.c2; have ql := Hq.out.lt
        go_wp2_with fail
        with_reducible refine Calls.mono (HR.out _ HB.out) ?_
        rintro e w3 ⟨rfl, hb⟩
        replace Hp := Lib.hid (Hp.out.go hb)
        replace Hq := Lib.hid (Hq.out.go hb)
        replace HB := Lib.hid (HB.out.trans (hb.mono HB.out.size))
        clear hb HR
        clear p0 p1 p2 pl q0 q1 q2 ql
        by_cases cpx : p.x < 0
        · clear HSI so HIN
          have p0 := Hp.out.c0; have p1 := Hp.out.c1; have p2 := Hp.out.c2; have pl := Hp.out.lt
          have q0 := Hq.out.c0; have q1 := Hq.out.c1; have q2 := Hq.out.c2; have ql := Hq.out.lt
          go_wp2_with fail
          go_ret
          exact ⟨rfl, HB.out⟩
        · skip
          by_cases cpX : 6 < p.x
          · clear HSI so HIN
            have p0 := Hp.out.c0; have p1 := Hp.out.c1; have p2 := Hp.out.c2; have pl := Hp.out.lt
            have q0 := Hq.out.c0; have q1 := Hq.out.c1; have q2 := Hq.out.c2; have ql := Hq.out.lt
            go_wp2_with fail
            go_ret
            exact ⟨rfl, HB.out⟩
          · skip
            by_cases cpy : p.y < 0
            · clear HSI so HIN
              have p0 := Hp.out.c0; have p1 := Hp.out.c1; have p2 := Hp.out.c2; have pl := Hp.out.lt
              have q0 := Hq.out.c0; have q1 := Hq.out.c1; have q2 := Hq.out.c2; have ql := Hq.out.lt
              go_wp2_with fail
              go_ret
              exact ⟨rfl, HB.out⟩
            · skip
              by_cases cpY : 6 < p.y
              · clear HSI so HIN
                have p0 := Hp.out.c0; have p1 := Hp.out.c1; have p2 := Hp.out.c2; have pl := Hp.out.lt
                have q0 := Hq.out.c0; have q1 := Hq.out.c1; have q2 := Hq.out.c2; have ql := Hq.out.lt
                go_wp2_with fail
                go_ret
                exact ⟨rfl, HB.out⟩
              · skip
                by_cases cpz : p.z < 0
                · clear HSI so HIN
                  have p0 := Hp.out.c0; have p1 := Hp.out.c1; have p2 := Hp.out.c2; have pl := Hp.out.lt
                  have q0 := Hq.out.c0; have q1 := Hq.out.c1; have q2 := Hq.out.c2; have ql := Hq.out.lt
                  go_wp2_with fail
                  go_ret
                  exact ⟨rfl, HB.out⟩
                · skip
                  by_cases cpZ : 6 < p.z
                  · clear HSI so HIN
                    have p0 := Hp.out.c0; have p1 := Hp.out.c1; have p2 := Hp.out.c2; have pl := Hp.out.lt
                    have q0 := Hq.out.c0; have q1 := Hq.out.c1; have q2 := Hq.out.c2; have ql := Hq.out.lt
                    go_wp2_with fail
                    go_ret
                    exact ⟨rfl, HB.out⟩
                  · skip
                    by_cases cqx : q.x < 0
                    · clear HSI so HIN
                      have p0 := Hp.out.c0; have p1 := Hp.out.c1; have p2 := Hp.out.c2; have pl := Hp.out.lt
                      have q0 := Hq.out.c0; have q1 := Hq.out.c1; have q2 := Hq.out.c2; have ql := Hq.out.lt
                      go_wp2_with fail
                      go_ret
                      exact ⟨rfl, HB.out⟩
                    · skip
                      by_cases cqX : 6 < q.x
                      · clear HSI so HIN
                        have p0 := Hp.out.c0; have p1 := Hp.out.c1; have p2 := Hp.out.c2; have pl := Hp.out.lt
                        have q0 := Hq.out.c0; have q1 := Hq.out.c1; have q2 := Hq.out.c2; have ql := Hq.out.lt
                        go_wp2_with fail
                        go_ret
                        exact ⟨rfl, HB.out⟩
                      · skip
                        by_cases cqy : q.y < 0
                        · clear HSI so HIN
                          have p0 := Hp.out.c0; have p1 := Hp.out.c1; have p2 := Hp.out.c2; have pl := Hp.out.lt
                          have q0 := Hq.out.c0; have q1 := Hq.out.c1; have q2 := Hq.out.c2; have ql := Hq.out.lt
                          go_wp2_with fail
                          go_ret
                          exact ⟨rfl, HB.out⟩
                        · skip
                          by_cases cqY : 6 < q.y
                          · clear HSI so HIN
                            have p0 := Hp.out.c0; have p1 := Hp.out.c1; have p2 := Hp.out.c2; have pl := Hp.out.lt
                            have q0 := Hq.out.c0; have q1 := Hq.out.c1; have q2 := Hq.out.c2; have ql := Hq.out.lt
                            go_wp2_with fail
                            go_ret
                            exact ⟨rfl, HB.out⟩
                          · skip
                            by_cases cqz : q.z < 0
                            · clear HSI so HIN
                              have p0 := Hp.out.c0; have p1 := Hp.out.c1; have p2 := Hp.out.c2; have pl := Hp.out.lt
                              have q0 := Hq.out.c0; have q1 := Hq.out.c1; have q2 := Hq.out.c2; have ql := Hq.out.lt
                              go_wp2_with fail
                              go_ret
                              exact ⟨rfl, HB.out⟩
                            · skip
                              have cqZ : 6 < q.z := by have := HIN.out; omega
                              clear HSI so HIN
                              have p0 := Hp.out.c0; have p1 := Hp.out.c1; have p2 := Hp.out.c2; have pl := Hp.out.lt
                              have q0 := Hq.out.c0; have q1 := Hq.out.c1; have q2 := Hq.out.c2; have ql := Hq.out.lt
                              go_wp2_with fail
                              go_ret
                              exact ⟨rfl, HB.out⟩
      · exact samples11_in A cap S p q w hl' hc' hs' hf' so hin
    · rw [solPB_no so] at HR
      clear so HSI
      go_enter Try.func4, Try.ntmps4
      go_upto_region 1 with fail
      obtain ⟨w0, hw0⟩ : ∃ w0, w0 = (w.alloc (.cells #[.int .i64 p.x, .int .i64 p.y, .int .i64 p.z] 24)).alloc (.cells #[.int .i64 q.x, .int .i64 q.y, .int .i64 q.z] 24) := ⟨_, rfl⟩
      have HB : Hid (Below w.heap.size w w0) := Lib.hid (by rw [hw0]; exact ((Below.refl _ _).alloc (Nat.le_refl _) _).alloc (by simp) _)
      have Hp : Hid (P3At w0 w.heap.size p) := Lib.hid (by rw [hw0]; exact (heap2 w _ _).1)
      have Hq : Hid (P3At w0 (w.heap.size + 1) q) := Lib.hid (by rw [hw0]; exact (heap2 w _ _).2)
      rw [← hw0]
      clear hw0
      generalize w.heap.size + 1 = gq at *
      obtain ⟨gp, hgp⟩ : ∃ gp, gp = w.heap.size := ⟨_, rfl⟩
      rw [← hgp] at Hp
      simp only [← hgp]
      clear hgp
      have p0 := Hp.out.c0; have p1 := Hp.out.c1; have p2 := Hp.out.c2; have pl := Hp.out.lt
      have q0 := Hq.out.c0; have q1 := Hq.out.c1; have q2 := Hq.out.c2; have ql := Hq.out.lt
      go_wp2_with fail
      with_reducible refine Calls.mono (HSM.out _) ?_
      rintro e w1 ⟨rfl, hb⟩
      replace Hp := Lib.hid (Hp.out.go hb)
      replace Hq := Lib.hid (Hq.out.go hb)
      replace HB := Lib.hid (HB.out.trans (hb.mono HB.out.size))
      clear hb HSM
      clear p0 p1 p2 pl q0 q1 q2 ql
      have p0 := Hp.out.c0; have p1 := Hp.out.c1; have p2 := Hp.out.c2; have pl := Hp.out.lt
      have q0 := Hq.out.c0; have q1 := Hq.out.c1; have q2 := Hq.out.c2; have ql := Hq.out.lt
      go_wp2_with fail
      with_reducible refine Calls.mono (HFW.out _ HB.out) ?_
      rintro e w2 ⟨rfl, hb⟩
      replace Hp := Lib.hid (Hp.out.go hb)
      replace Hq := Lib.hid (Hq.out.go hb)
      replace HB := Lib.hid (HB.out.trans (hb.mono HB.out.size))
      clear hb HFW
      clear p0 p1 p2 pl q0 q1 q2 ql
      have p0 := Hp.out.c0; have p1 := Hp.out.c1; have p2 := Hp.out.c2; have pl := Hp.out.lt
      have q0 := Hq.out.c0; have q1 := Hq.out.c1; have q2 := Hq.out.c2; have ql := Hq.out.lt
      go_wp2_with fail
      with_reducible refine Calls.mono (HR.out _ HB.out) ?_
      rintro e w3 ⟨rfl, hb⟩
      replace Hp := Lib.hid (Hp.out.go hb)
      replace Hq := Lib.hid (Hq.out.go hb)
      replace HB := Lib.hid (HB.out.trans (hb.mono HB.out.size))
      clear hb HR
      clear p0 p1 p2 pl q0 q1 q2 ql
      have p0 := Hp.out.c0; have p1 := Hp.out.c1; have p2 := Hp.out.c2; have pl := Hp.out.lt
      have q0 := Hq.out.c0; have q1 := Hq.out.c1; have q2 := Hq.out.c2; have ql := Hq.out.lt
      go_wp2_with fail
      go_ret
      exact ⟨rfl, HB.out⟩
  · rw [few11_no hf] at HFW
    clear hl hc hs hf
    go_enter Try.func4, Try.ntmps4
    go_upto_region 1 with fail
    obtain ⟨w0, hw0⟩ : ∃ w0, w0 = (w.alloc (.cells #[.int .i64 p.x, .int .i64 p.y, .int .i64 p.z] 24)).alloc (.cells #[.int .i64 q.x, .int .i64 q.y, .int .i64 q.z] 24) := ⟨_, rfl⟩
    have HB : Hid (Below w.heap.size w w0) := Lib.hid (by rw [hw0]; exact ((Below.refl _ _).alloc (Nat.le_refl _) _).alloc (by simp) _)
    have Hp : Hid (P3At w0 w.heap.size p) := Lib.hid (by rw [hw0]; exact (heap2 w _ _).1)
    have Hq : Hid (P3At w0 (w.heap.size + 1) q) := Lib.hid (by rw [hw0]; exact (heap2 w _ _).2)
    rw [← hw0]
    clear hw0
    generalize w.heap.size + 1 = gq at *
    obtain ⟨gp, hgp⟩ : ∃ gp, gp = w.heap.size := ⟨_, rfl⟩
    rw [← hgp] at Hp
    simp only [← hgp]
    clear hgp
    have p0 := Hp.out.c0; have p1 := Hp.out.c1; have p2 := Hp.out.c2; have pl := Hp.out.lt
    have q0 := Hq.out.c0; have q1 := Hq.out.c1; have q2 := Hq.out.c2; have ql := Hq.out.lt
    go_wp2_with fail
    with_reducible refine Calls.mono (HSM.out _) ?_
    rintro e w1 ⟨rfl, hb⟩
    replace Hp := Lib.hid (Hp.out.go hb)
    replace Hq := Lib.hid (Hq.out.go hb)
    replace HB := Lib.hid (HB.out.trans (hb.mono HB.out.size))
    clear hb HSM
    clear p0 p1 p2 pl q0 q1 q2 ql
    have p0 := Hp.out.c0; have p1 := Hp.out.c1; have p2 := Hp.out.c2; have pl := Hp.out.lt
    have q0 := Hq.out.c0; have q1 := Hq.out.c1; have q2 := Hq.out.c2; have ql := Hq.out.lt
    go_wp2_with fail
    with_reducible refine Calls.mono (HFW.out _ HB.out) ?_
    rintro e w2 ⟨rfl, hb⟩
    replace Hp := Lib.hid (Hp.out.go hb)
    replace Hq := Lib.hid (Hq.out.go hb)
    replace HB := Lib.hid (HB.out.trans (hb.mono HB.out.size))
    clear hb HFW
    clear p0 p1 p2 pl q0 q1 q2 ql
    have p0 := Hp.out.c0; have p1 := Hp.out.c1; have p2 := Hp.out.c2; have pl := Hp.out.lt
    have q0 := Hq.out.c0; have q1 := Hq.out.c1; have q2 := Hq.out.c2; have ql := Hq.out.lt
    go_wp2_with fail
    go_ret
    exact ⟨rfl, HB.out⟩
end Go.Proofs.Ytkjblmfmaenllaa
