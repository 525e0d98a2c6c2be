/-
  Plain mathematics of rectangles (2): their cells one by one, for coordinates up to 8.
-/
import Derived.Test.YtpbkmphpgjdpfaaEa
set_option linter.unusedVariables false
namespace Go.Proofs.Ytpbkmphpgjdpfaa

/-- the cells of a rectangle, column by column. -/
def colL (r : Rc) (x : Nat) : List (Nat × Nat) := ((List.range 8).filter fun (y : Nat) => decide (HasR r (x : Int) (y : Int))).map fun (y : Nat) => (x, y)
def cellsL (r : Rc) : List (Nat × Nat) := (List.range 8).flatMap (colL r)
theorem mem_cells (r : Rc) (p : Nat × Nat) : p ∈ cellsL r ↔ p.1 < 8 ∧ p.2 < 8 ∧ HasR r p.1 p.2 := by
  obtain ⟨x, y⟩ := p
  simp only [cellsL, colL, List.mem_flatMap, List.mem_range, List.mem_map, List.mem_filter, decide_eq_true_eq, Prod.mk.injEq]
  constructor
  · rintro ⟨u, hu, v, ⟨hv, hh⟩, rfl, rfl⟩; exact ⟨hu, hv, hh⟩
  · rintro ⟨hu, hv, hh⟩; exact ⟨x, hu, y, ⟨hv, hh⟩, rfl, rfl⟩

/-- how many of 0 to 7 lie in an interval. -/
def cntI (a b : Int) : Nat := ((List.range 8).filter fun (x : Nat) => decide (a ≤ (x : Int) ∧ (x : Int) < b)).length
theorem cntI_nat : ∀ a b : Fin 9, a.val ≤ b.val → cntI (a.val : Int) (b.val : Int) = b.val - a.val := by decide
theorem cntI_is {a b : Int} (h0 : 0 ≤ a) (h1 : a ≤ b) (h2 : b ≤ 8) : (cntI a b : Int) = b - a := by
  have := cntI_nat ⟨a.toNat, by omega⟩ ⟨b.toNat, by omega⟩ (by simp only []; omega)
  simp only [] at this
  rw [show ((a.toNat : Nat) : Int) = a by omega, show ((b.toNat : Nat) : Int) = b by omega] at this
  rw [this]; omega
theorem col_length (r : Rc) (h : ROk r) (x : Nat) : (colL r x).length = if r.X0 ≤ (x : Int) ∧ (x : Int) < r.X1 then cntI r.Y0 r.Y1 else 0 := by
  unfold colL cntI
  rw [List.length_map]
  by_cases hx : r.X0 ≤ (x : Int) ∧ (x : Int) < r.X1
  · rw [if_pos hx]
    congr 1
    apply List.filter_congr
    intro y _
    rw [decide_eq_decide]
    exact ⟨fun k => k.2.2.2, fun k => ⟨h, hx.1, hx.2, k⟩⟩
  · rw [if_neg hx]
    rw [List.length_eq_zero_iff, List.filter_eq_nil_iff]
    intro y _
    simp only [decide_eq_true_eq]
    exact fun k => hx ⟨k.2.1, k.2.2.1⟩
theorem flat_const {α : Type} (L : List Nat) (f : Nat → List α) (p : Nat → Bool) (n : Nat) (h : ∀ x, (f x).length = if p x = true then n else 0) : (L.flatMap f).length = (L.filter p).length * n := by
  induction L with
  | nil => simp
  | cons x L ih =>
    rw [List.flatMap_cons, List.length_append, ih, h x, List.filter_cons]
    by_cases hp : p x = true
    · rw [if_pos hp, if_pos hp, List.length_cons, Nat.succ_mul]; omega
    · rw [if_neg hp, if_neg hp]; omega
theorem cells_length (r : Rc) (h : ROk r) (hx : r.X1 ≤ 8) (hy : r.Y1 ≤ 8) : ((cellsL r).length : Int) = areaR r := by
  have e := flat_const (List.range 8) (colL r) (fun x => decide (r.X0 ≤ (x : Int) ∧ (x : Int) < r.X1)) (cntI r.Y0 r.Y1) (fun x => by rw [col_length r h x]; simp only [decide_eq_true_eq])
  unfold cellsL
  rw [e, area_ok h]
  have c1 : (cntI r.X0 r.X1 : Int) = r.X1 - r.X0 := cntI_is h.1.1 (by have := h.1.2.1; omega) hx
  have c2 : (cntI r.Y0 r.Y1 : Int) = r.Y1 - r.Y0 := cntI_is h.2.1 (by have := h.2.2.1; omega) hy
  have c3 : ((List.range 8).filter fun (x : Nat) => decide (r.X0 ≤ (x : Int) ∧ (x : Int) < r.X1)).length = cntI r.X0 r.X1 := rfl
  rw [c3, ← c1, ← c2]
  simp
theorem cells_none (r : Rc) (h : ¬ ROk r) : cellsL r = [] := by
  apply List.eq_nil_iff_forall_not_mem.2
  intro p hp
  exact h ((mem_cells r p).1 hp).2.2.1

/-- having a cell in both. -/
theorem has_inter (a b : Rc) (x y : Int) : HasR (interR a b).1 x y ↔ HasR a x y ∧ HasR b x y := by
  unfold interR
  by_cases hm : MeetR a b
  · rw [if_pos hm]
    constructor
    · rintro ⟨hk, h1, h2, h3, h4⟩
      simp only [meetR] at h1 h2 h3 h4
      exact ⟨⟨hm.1, by omega, by omega, by omega, by omega⟩, hm.2.1, by omega, by omega, by omega, by omega⟩
    · rintro ⟨⟨_, a1, a2, a3, a4⟩, _, b1, b2, b3, b4⟩
      exact ⟨hm.2.2, by simp only [meetR]; omega, by simp only [meetR]; omega, by simp only [meetR]; omega, by simp only [meetR]; omega⟩
  · rw [if_neg hm]
    constructor
    · intro h; exact absurd h.1 zR_no
    · rintro ⟨⟨ha, a1, a2, a3, a4⟩, hb, b1, b2, b3, b4⟩
      refine absurd ⟨ha, hb, ?_⟩ hm
      unfold ROk Span at ha hb ⊢; simp only [meetR]; omega
theorem cells_both (a b : Rc) : (cellsL a).filter (fun p => decide (HasR b p.1 p.2)) = cellsL (interR a b).1 := by
  unfold cellsL
  rw [List.filter_flatMap]
  congr 1
  funext x
  unfold colL
  rw [List.filter_map, List.filter_filter]
  congr 1
  apply List.filter_congr
  intro y _
  rw [Function.comp_apply, ← Bool.decide_and, decide_eq_decide, has_inter]
  exact And.comm

/-- the distance of two cells. -/
def distC (p q : Nat × Nat) : Int := max (max ((p.1 : Int) - q.1) ((q.1 : Int) - p.1)) (max ((p.2 : Int) - q.2) ((q.2 : Int) - p.2))
def Beside (p q : Nat × Nat) : Prop := (p.1 = q.1 ∧ ((p.2 : Int) - q.2 = 1 ∨ (q.2 : Int) - p.2 = 1)) ∨ (p.2 = q.2 ∧ ((p.1 : Int) - q.1 = 1 ∨ (q.1 : Int) - p.1 = 1))
/-- the nearest members of two intervals. -/
theorem near_one {a b c d : Int} (h1 : a < b) (h2 : c < d) : ∃ x u : Int, a ≤ x ∧ x < b ∧ c ≤ u ∧ u < d ∧ max (x - u) (u - x) = apartI a b c d := by
  unfold apartI
  by_cases k1 : b ≤ c
  · rw [if_pos k1]; exact ⟨b - 1, c, by omega, by omega, by omega, by omega, by omega⟩
  · rw [if_neg k1]
    by_cases k2 : d ≤ a
    · rw [if_pos k2]; exact ⟨a, d - 1, by omega, by omega, by omega, by omega, by omega⟩
    · rw [if_neg k2]; exact ⟨max a c, max a c, by omega, by omega, by omega, by omega, by omega⟩
theorem near_all {a b c d x u : Int} (h1 : a ≤ x) (h2 : x < b) (h3 : c ≤ u) (h4 : u < d) : apartI a b c d ≤ max (x - u) (u - x) := by
  unfold apartI; split <;> (try split) <;> omega
def nearR (a b : Rc) : Int := max (apartI a.X0 a.X1 b.X0 b.X1) (apartI a.Y0 a.Y1 b.Y0 b.Y1)
theorem gap_near {a b : Rc} (ha : ROk a) (hb : ROk b) : gapR a b = max 0 (nearR a b - 1) := by unfold gapR nearR; rw [if_pos ⟨ha, hb⟩]
theorem near_le {a b : Rc} {p q : Nat × Nat} (hp : p ∈ cellsL a) (hq : q ∈ cellsL b) : nearR a b ≤ distC p q := by
  obtain ⟨_, _, _, p1, p2, p3, p4⟩ := (mem_cells a p).1 hp
  obtain ⟨_, _, _, q1, q2, q3, q4⟩ := (mem_cells b q).1 hq
  have e1 := near_all p1 p2 q1 q2
  have e2 := near_all p3 p4 q3 q4
  unfold nearR distC; omega
theorem near_at {a b : Rc} (ha : ROk a) (hb : ROk b) (a1 : a.X1 ≤ 8) (a2 : a.Y1 ≤ 8) (b1 : b.X1 ≤ 8) (b2 : b.Y1 ≤ 8) : ∃ p ∈ cellsL a, ∃ q ∈ cellsL b, distC p q = nearR a b := by
  obtain ⟨x, u, x1, x2, u1, u2, e1⟩ := near_one ha.1.2.1 hb.1.2.1
  obtain ⟨y, v, y1, y2, v1, v2, e2⟩ := near_one ha.2.2.1 hb.2.2.1
  have hx0 := ha.1.1; have hy0 := ha.2.1; have hu0 := hb.1.1; have hv0 := hb.2.1
  refine ⟨(x.toNat, y.toNat), (mem_cells a _).2 ⟨by simp only []; omega, by simp only []; omega, ha, by simp only []; omega, by simp only []; omega, by simp only []; omega, by simp only []; omega⟩,
    (u.toNat, v.toNat), (mem_cells b _).2 ⟨by simp only []; omega, by simp only []; omega, hb, by simp only []; omega, by simp only []; omega, by simp only []; omega, by simp only []; omega⟩, ?_⟩
  unfold distC nearR
  rw [← e1, ← e2]
  simp only []
  rw [show ((x.toNat : Nat) : Int) = x by omega, show ((y.toNat : Nat) : Int) = y by omega, show ((u.toNat : Nat) : Int) = u by omega, show ((v.toNat : Nat) : Int) = v by omega]
theorem near_bd {a b : Rc} {p q : Nat × Nat} (hp : p ∈ cellsL a) (hq : q ∈ cellsL b) : 0 ≤ distC p q ∧ distC p q ≤ 7 := by
  obtain ⟨p1, p2, _⟩ := (mem_cells a p).1 hp
  obtain ⟨q1, q2, _⟩ := (mem_cells b q).1 hq
  unfold distC; omega
theorem touch_cells {a b : Rc} (ha : ROk a) (hb : ROk b) (a1 : a.X1 ≤ 8) (a2 : a.Y1 ≤ 8) (b1 : b.X1 ≤ 8) (b2 : b.Y1 ≤ 8) : TouchR a b ↔ (∃ p ∈ cellsL a, ∃ q ∈ cellsL b, Beside p q) ∧ ¬ MeetR a b := by
  constructor
  · intro ht
    refine ⟨?_, (touch_gap ht).2⟩
    obtain ⟨_, _, h1⟩ := ht
    obtain ⟨x, u, x1, x2, u1, u2, e1⟩ := near_one ha.1.2.1 hb.1.2.1
    obtain ⟨y, v, y1, y2, v1, v2, e2⟩ := near_one ha.2.2.1 hb.2.2.1
    have hx0 := ha.1.1; have hy0 := ha.2.1; have hu0 := hb.1.1; have hv0 := hb.2.1
    have n1 := @apart_nn a.X0 a.X1 b.X0 b.X1
    have n2 := @apart_nn a.Y0 a.Y1 b.Y0 b.Y1
    refine ⟨(x.toNat, y.toNat), (mem_cells a _).2 ⟨by simp only []; omega, by simp only []; omega, ha, by simp only []; omega, by simp only []; omega, by simp only []; omega, by simp only []; omega⟩,
      (u.toNat, v.toNat), (mem_cells b _).2 ⟨by simp only []; omega, by simp only []; omega, hb, by simp only []; omega, by simp only []; omega, by simp only []; omega, by simp only []; omega⟩, ?_⟩
    unfold Beside
    simp only []
    omega
  · rintro ⟨⟨p, hp, q, hq, hpq⟩, hm⟩
    obtain ⟨_, _, _, p1, p2, p3, p4⟩ := (mem_cells a p).1 hp
    obtain ⟨_, _, _, q1, q2, q3, q4⟩ := (mem_cells b q).1 hq
    have e1 := near_all p1 p2 q1 q2
    have e2 := near_all p3 p4 q3 q4
    have n1 := @apart_nn a.X0 a.X1 b.X0 b.X1
    have n2 := @apart_nn a.Y0 a.Y1 b.Y0 b.Y1
    rw [meet_iff ha hb] at hm
    refine ⟨ha, hb, ?_⟩
    unfold Beside at hpq
    omega
end Go.Proofs.Ytpbkmphpgjdpfaa
