/-
  Mathematics of the laws of layer 11: what Blocked and Ray say of a solid's cubes; unions, steps, multiples, moves, samples.
-/
import Derived.Test.YtkjblmfmaenllaaYi
import Derived.Test.YtkjblmfmaenllaaYd
import Derived.Test.YtkjblmfmaenllaaCa
set_option linter.unusedVariables false
set_option maxRecDepth 100000
namespace Go.Proofs.Ytkjblmfmaenllaa
open Go.RowKit

def cubS (S : List Sl) (x y z : Int) : Prop := HasL (secS S z) x y
theorem bk_iff {S : List Sl} (h : SolP S) (p q : V3) : bkB S p q = true ↔ PtOk p ∧ PtOk q ∧ Seg (cubS S) p (q.sub p) := by
  unfold bkB
  rw [solPB_yes h, Bool.true_and, Bool.and_eq_true, Bool.and_eq_true, decide_eq_true_iff, decide_eq_true_iff, seg_iff (boxes_ok h.form), Seg.congr (fun x y z => boxes_has h.form x y z)]
  exact Iff.rfl
theorem ry_iff {S : List Sl} (h : SolP S) (p d : V3) : ryB S p d = true ↔ PtOk p ∧ DiOk d ∧ RayP (cubS S) p d := by
  unfold ryB
  rw [solPB_yes h, Bool.true_and, Bool.and_eq_true, Bool.and_eq_true, decide_eq_true_iff, decide_eq_true_iff, ray_iff (boxes_ok h.form), RayP.congr (fun x y z => boxes_has h.form x y z)]
  exact Iff.rfl
theorem has_iff11 {S : List Sl} (h : SolP S) (x y z : Int) : hasGS S x y z = true ↔ cubS S x y z := by rw [hasGS_yes h, hasB_iff]; exact Iff.rfl
/-! ### unions -/
theorem bk_or {a b u : List Sl} (ha : SolP a) (hb : SolP b) (hu : SolP u) (h : ∀ x y z, cubS u x y z ↔ cubS a x y z ∨ cubS b x y z) (p q : V3) : bkB u p q = (bkB a p q || bkB b p q) := by
  rw [Bool.eq_iff_iff, Bool.or_eq_true, bk_iff ha, bk_iff hb, bk_iff hu, Seg.congr h, seg_or]
  constructor
  · rintro ⟨x, y, k | k⟩
    · exact Or.inl ⟨x, y, k⟩
    · exact Or.inr ⟨x, y, k⟩
  · rintro (⟨x, y, k⟩ | ⟨x, y, k⟩)
    · exact ⟨x, y, Or.inl k⟩
    · exact ⟨x, y, Or.inr k⟩
theorem ry_or {a b u : List Sl} (ha : SolP a) (hb : SolP b) (hu : SolP u) (h : ∀ x y z, cubS u x y z ↔ cubS a x y z ∨ cubS b x y z) (p q : V3) : ryB u p q = (ryB a p q || ryB b p q) := by
  rw [Bool.eq_iff_iff, Bool.or_eq_true, ry_iff ha, ry_iff hb, ry_iff hu, RayP.congr h, ray_or]
  constructor
  · rintro ⟨x, y, k | k⟩
    · exact Or.inl ⟨x, y, k⟩
    · exact Or.inr ⟨x, y, k⟩
  · rintro (⟨x, y, k⟩ | ⟨x, y, k⟩)
    · exact ⟨x, y, Or.inl k⟩
    · exact ⟨x, y, Or.inr k⟩
theorem bk_back {a : List Sl} (ha : SolP a) (p q : V3) : bkB a p q = bkB a q p := by
  rw [Bool.eq_iff_iff, bk_iff ha, bk_iff ha, seg_back]
  exact ⟨fun h => ⟨h.2.1, h.1, h.2.2⟩, fun h => ⟨h.2.1, h.1, h.2.2⟩⟩
theorem union_ok {a b : List Sl} (ha : SolP a) (hb : SolP b) : (∃ u, opS or a b = (u, 0) ∧ SolP u ∧ ∀ x y z, cubS u x y z ↔ cubS a x y z ∨ cubS b x y z) ∨ opS or a b = ([], 6) := by
  have hc := cs_or (CS.self ha.form) (CS.self hb.form)
  rw [opS_cap ha hb]
  by_cases c : (solO or a b).length ≤ 80 ∧ ∀ s ∈ solO or a b, s.ar.length ≤ 200
  · exact Or.inl ⟨solO or a b, capS_yes c.1 c.2, ⟨hc.form, c.1, c.2⟩, fun x y z => hc.cubes x y z⟩
  · right; unfold capS; rw [if_neg c]
/-! ### steps -/
theorem mul_between {k N s : Int} (h0 : 0 ≤ k) (h1 : k ≤ N) : (0 ≤ k * s ∧ k * s ≤ N * s) ∨ (N * s ≤ k * s ∧ k * s ≤ 0) := by
  rcases Int.le_total 0 s with c | c
  · exact Or.inl ⟨Int.mul_nonneg h0 c, Int.mul_le_mul_of_nonneg_right h1 c⟩
  · right
    have a := Int.mul_nonneg h0 (show 0 ≤ -s by omega)
    have b := Int.mul_le_mul_of_nonneg_right h1 (show 0 ≤ -s by omega)
    rw [Int.mul_neg] at a
    rw [Int.mul_neg, Int.mul_neg] at b
    omega
def stepV (p s : V3) (k : Int) : V3 := ⟨p.x + k * s.x, p.y + k * s.y, p.z + k * s.z⟩
theorem step_add (p s : V3) (k : Int) : stepV p s k = p.add (s.mul k) := rfl
theorem step_sub (p s : V3) (k n : Int) : (stepV p s n).sub (stepV p s k) = s.mul (n - k) := by
  unfold stepV V3.sub V3.mul; simp only [V3.mk.injEq, Int.sub_mul]; refine ⟨?_, ?_, ?_⟩ <;> omega
theorem step_sub0 (p s : V3) (n : Int) : (stepV p s n).sub p = s.mul n := by
  unfold stepV V3.sub V3.mul; simp only [V3.mk.injEq]; refine ⟨?_, ?_, ?_⟩ <;> omega
theorem step_ok {p s : V3} {k N : Int} (hp : PtOk p) (hq : PtOk (stepV p s N)) (h0 : 0 ≤ k) (h1 : k ≤ N) : PtOk (stepV p s k) := by
  obtain ⟨p0, p1, p2⟩ := hp
  obtain ⟨q0, q1, q2⟩ := hq
  simp only [stepV] at q0 q1 q2
  have a := mul_between (s := s.x) h0 h1
  have b := mul_between (s := s.y) h0 h1
  have c := mul_between (s := s.z) h0 h1
  refine ⟨?_, ?_, ?_⟩ <;> (simp only [stepV]; omega)
theorem splits_eq {S : List Sl} (h : SolP S) {p s : V3} {k N : Int} (hp : PtOk p) (hq : PtOk (stepV p s N)) (h0 : 1 ≤ k) (h1 : k < N) :
    bkB S p (stepV p s N) = (bkB S p (stepV p s k) || (bkB S (stepV p s k) (stepV p s N) || hasGS S (stepV p s k).x (stepV p s k).y (stepV p s k).z)) := by
  have hm := step_ok hp hq (k := k) (by omega) (by omega)
  rw [Bool.eq_iff_iff, Bool.or_eq_true, Bool.or_eq_true, bk_iff h, bk_iff h, bk_iff h, has_iff11 h, step_sub0, step_sub0, step_sub, seg_split p s h0 h1, step_add]
  constructor
  · rintro ⟨_, _, k | k | k⟩
    · exact Or.inl ⟨hp, hm, k⟩
    · exact Or.inr (Or.inl ⟨hm, hq, k⟩)
    · exact Or.inr (Or.inr k)
  · rintro (⟨_, _, k⟩ | ⟨_, _, k⟩ | k)
    · exact ⟨hp, hq, Or.inl k⟩
    · exact ⟨hp, hq, Or.inr (Or.inl k)⟩
    · exact ⟨hp, hq, Or.inr (Or.inr k)⟩
/-! ### multiples -/
theorem mul_zero11 {k a : Int} (hk : 1 ≤ k) : k * a = 0 ↔ a = 0 := by
  constructor
  · intro h
    rcases Int.mul_eq_zero.1 h with h | h
    · omega
    · exact h
  · intro h; rw [h, Int.mul_zero]
theorem mul_rng {k a b : Int} (h1 : 1 ≤ k) (h2 : k ≤ 40) (ha : -b ≤ a ∧ a ≤ b) : -(40 * b) ≤ k * a ∧ k * a ≤ 40 * b := by
  rcases mul_between (s := a) (show (0 : Int) ≤ k by omega) h2 with h | h <;> omega
theorem rays_eq {S : List Sl} (h : SolP S) {p d : V3} {k : Int} (hp : PtOk p) (h1 : 1 ≤ k) (h2 : k ≤ 40) (hx : -1000 ≤ d.x ∧ d.x ≤ 1000) (hy : -1000 ≤ d.y ∧ d.y ≤ 1000) (hz : -1000 ≤ d.z ∧ d.z ≤ 1000) : ryB S p (d.mul k) = ryB S p d := by
  have e : DiOk (d.mul k) ↔ DiOk d := by
    have mx := mul_rng h1 h2 hx
    have my := mul_rng h1 h2 hy
    have mz := mul_rng h1 h2 hz
    have nx := mul_zero11 (k := k) (a := d.x) h1
    have ny := mul_zero11 (k := k) (a := d.y) h1
    have nz := mul_zero11 (k := k) (a := d.z) h1
    unfold DiOk V3.mul
    simp only [ne_eq, nx, ny, nz]
    exact ⟨fun h => ⟨h.1, by omega, by omega, by omega⟩, fun h => ⟨h.1, by omega, by omega, by omega⟩⟩
  rw [Bool.eq_iff_iff, ry_iff h, ry_iff h, ray_mul p d h1, e]
theorem rays_end {S : List Sl} (h : SolP S) {p d : V3} {k : Int} (hp : PtOk p) (h1 : 1 ≤ k) (hd : DiOk d) (hr : ryB S p d = false) : bkB S p (stepV p d k) = false ∧ hasGS S (stepV p d k).x (stepV p d k).y (stepV p d k).z = false := by
  constructor
  · rw [← Bool.not_eq_true, bk_iff h, step_sub0]
    rintro ⟨_, _, q⟩
    have := (ry_iff h p d).2 ⟨hp, hd, ray_seg p d h1 q⟩
    rw [hr] at this; cases this
  · rw [← Bool.not_eq_true, has_iff11 h]
    intro q
    have := (ry_iff h p d).2 ⟨hp, hd, ray_end p d h1 q⟩
    rw [hr] at this; cases this
/-! ### moves -/
theorem move_cub {b : V3} {l : List Bx} (h : ∀ k ∈ l, BOk k) (h2 : ∀ k ∈ l, BOk (mvX b k)) (x y z : Int) : cubS (solB (l.map (mvX b))) (x + b.x) (y + b.y) (z + b.z) ↔ cubS (solB l) x y z := by
  have h3 : ∀ k ∈ l.map (mvX b), BOk k := fun k hk => by
    obtain ⟨q, hq, rfl⟩ := List.mem_map.1 hk
    exact h2 q hq
  exact ((cs_b h3).cubes _ _ _).trans ((mv_hasB h h2 x y z).trans ((cs_b h).cubes x y z).symm)
theorem add_sub11 (p q b : V3) : (q.add b).sub (p.add b) = q.sub p := by
  unfold V3.sub V3.add; simp only [V3.mk.injEq]; refine ⟨?_, ?_, ?_⟩ <;> omega
theorem bk_move {S T : List Sl} (hS : SolP S) (hT : SolP T) {b : V3} (h : ∀ x y z, cubS T (x + b.x) (y + b.y) (z + b.z) ↔ cubS S x y z) {p q : V3} (hp : PtOk p) (hq : PtOk q) (hp2 : PtOk (p.add b)) (hq2 : PtOk (q.add b)) : bkB S p q = bkB T (p.add b) (q.add b) := by
  rw [Bool.eq_iff_iff, bk_iff hS, bk_iff hT, add_sub11, seg_move b h]
  exact ⟨fun k => ⟨hp2, hq2, k.2.2⟩, fun k => ⟨hp, hq, k.2.2⟩⟩
theorem ry_move {S T : List Sl} (hS : SolP S) (hT : SolP T) {b : V3} (h : ∀ x y z, cubS T (x + b.x) (y + b.y) (z + b.z) ↔ cubS S x y z) {p d : V3} (hp : PtOk p) (hp2 : PtOk (p.add b)) : ryB S p d = ryB T (p.add b) d := by
  rw [Bool.eq_iff_iff, ry_iff hS, ry_iff hT, ray_move b h]
  exact ⟨fun k => ⟨hp2, k.2⟩, fun k => ⟨hp, k.2⟩⟩
theorem moves_ok {b : V3} {l : List Bx} (h : ∀ k ∈ l, BOk k) (h2 : ∀ k ∈ l, BOk (mvX b k)) (hl : l.length ≤ 20) : (ofS l = ([], 6) ∧ ofS (l.map (mvX b)) = ([], 6)) ∨ (ofS l = (solB l, 0) ∧ ofS (l.map (mvX b)) = (solB (l.map (mvX b)), 0) ∧ SolP (solB l) ∧ SolP (solB (l.map (mvX b)))) := by
  have h3 : ∀ k ∈ l.map (mvX b), BOk k := fun k hk => by
    obtain ⟨q, hq, rfl⟩ := List.mem_map.1 hk
    exact h2 q hq
  have e := ofS_mv h h2
  have f1 := (cs_b h).form
  have f2 := (cs_b h3).form
  have hl1 : l.length ≤ 200 := by omega
  have hl2 : (l.map (mvX b)).length ≤ 200 := by rw [List.length_map]; omega
  unfold ofS at e ⊢
  rw [if_pos h, if_pos h3, if_pos hl1, if_pos hl2] at e
  rw [if_pos h, if_pos h3, if_pos hl1, if_pos hl2]
  unfold capS at e ⊢
  by_cases c : (solB l).length ≤ 80 ∧ ∀ s ∈ solB l, s.ar.length ≤ 200
  · rw [if_pos c] at e
    by_cases c2 : (solB (l.map (mvX b))).length ≤ 80 ∧ ∀ s ∈ solB (l.map (mvX b)), s.ar.length ≤ 200
    · right; rw [if_pos c, if_pos c2]; exact ⟨rfl, rfl, ⟨f1, c.1, c.2⟩, ⟨f2, c2.1, c2.2⟩⟩
    · rw [if_neg c2] at e; simp at e
  · rw [if_neg c] at e
    by_cases c2 : (solB (l.map (mvX b))).length ≤ 80 ∧ ∀ s ∈ solB (l.map (mvX b)), s.ar.length ≤ 200
    · rw [if_pos c2] at e; simp at e
    · left; rw [if_neg c, if_neg c2]; exact ⟨rfl, rfl⟩
/-! ### samples -/
theorem samples_iff {S : List Sl} (h : SolP S) {p q : V3} (hp : PtOk p) (hq : PtOk q) : bkB S p q = true ↔ ∃ k, 1 ≤ k ∧ k < sampN (q.sub p) ∧ HitAt (HasB (boxesS S)) p (q.sub p) k (sampN (q.sub p)) := by
  rw [bk_iff h, Seg.congr (P := cubS S) (Q := HasB (boxesS S)) (fun x y z => (boxes_has h.form x y z).symm), seg_samples]
  exact ⟨fun k => k.2.2, fun k => ⟨hp, hq, k⟩⟩
end Go.Proofs.Ytkjblmfmaenllaa
