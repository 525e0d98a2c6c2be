/-
  Plain mathematics of RectCells.
-/
import Derived.Test.YtpbkmphpgjdpfaaFm
set_option linter.unusedVariables false
set_option maxRecDepth 100000
namespace Go.Proofs.Ytpbkmphpgjdpfaa
open Go.RowKit

def bothL (a b : Rc) : List (Nat × Nat) := (cellsL a).filter (fun p => decide (HasR b p.1 p.2))
theorem both_area {a b : Rc} (ha : ROk a) (a1 : a.X1 ≤ 7) (a2 : a.Y1 ≤ 7) : ((bothL a b).length : Int) = areaR (interR a b).1 := by
  unfold bothL
  rw [cells_both]
  by_cases hm : MeetR a b
  · have e : interR a b = (meetR a b, true) := by unfold interR; rw [if_pos hm]
    rw [e]
    exact cells_length _ hm.2.2 (by simp only [meetR]; omega) (by simp only [meetR]; omega)
  · rw [inter_none hm, area_no zR_no, cells_none _ zR_no]; rfl
theorem area_pos {r : Rc} (h : ROk r) : 0 < areaR r := by
  rw [area_ok h]
  unfold ROk Span at h
  exact Int.mul_pos (by omega) (by omega)
theorem both_pos {a b : Rc} (ha : ROk a) (a1 : a.X1 ≤ 7) (a2 : a.Y1 ≤ 7) : (0 : Int) < ((bothL a b).length : Int) ↔ MeetR a b := by
  rw [both_area ha a1 a2]
  constructor
  · intro h
    by_cases hm : MeetR a b
    · exact hm
    · rw [inter_none hm, area_no zR_no] at h; omega
  · intro hm
    exact area_pos ((inter_fst_ok a b).2 hm)
theorem both_all {a b : Rc} (ha : ROk a) (hb : ROk b) (a1 : a.X1 ≤ 7) (a2 : a.Y1 ≤ 7) : InsideR a b ↔ ((bothL a b).length : Int) = ((cellsL a).length : Int) := by
  constructor
  · intro h
    have e : bothL a b = cellsL a := by
      unfold bothL
      rw [List.filter_eq_self]
      intro p hp
      obtain ⟨_, _, _, p1, p2, p3, p4⟩ := (mem_cells a p).1 hp
      obtain ⟨_, _, h1, h2, h3, h4⟩ := h
      exact decide_eq_true ⟨hb, by omega, by omega, by omega, by omega⟩
    rw [e]
  · intro h
    have e : bothL a b = cellsL a := by
      unfold bothL at h ⊢
      rw [List.filter_eq_self]
      have := List.length_filter_eq_length_iff.1 (show ((cellsL a).filter (fun p => decide (HasR b p.1 p.2))).length = (cellsL a).length by omega)
      exact this
    have all : ∀ p ∈ cellsL a, HasR b p.1 p.2 := fun p hp => by
      unfold bothL at e
      exact of_decide_eq_true (List.filter_eq_self.1 e p hp)
    have k := ha
    unfold ROk Span at k
    have c1 := all (a.X0.toNat, a.Y0.toNat) ((mem_cells a _).2 ⟨by simp only []; omega, by simp only []; omega, ha, by simp only []; omega, by simp only []; omega, by simp only []; omega, by simp only []; omega⟩)
    have c2 := all ((a.X1 - 1).toNat, (a.Y1 - 1).toNat) ((mem_cells a _).2 ⟨by simp only []; omega, by simp only []; omega, ha, by simp only []; omega, by simp only []; omega, by simp only []; omega, by simp only []; omega⟩)
    obtain ⟨_, q1, q2, q3, q4⟩ := c1
    obtain ⟨_, r1, r2, r3, r4⟩ := c2
    simp only [] at q1 q2 q3 q4 r1 r2 r3 r4
    exact ⟨ha, hb, by omega, by omega, by omega, by omega⟩

/-- the least distance found so far. -/
def leastIn (acc : Int) (p : Nat × Nat) (M : List (Nat × Nat)) : Int := M.foldl (fun acc q => min acc (distC p q)) acc
def leastL (L M : List (Nat × Nat)) : Int := L.foldl (fun acc p => leastIn acc p M) 100
theorem leastIn_snoc (acc : Int) (p : Nat × Nat) (M : List (Nat × Nat)) (q : Nat × Nat) : leastIn acc p (M ++ [q]) = min (leastIn acc p M) (distC p q) := by simp [leastIn, List.foldl_append]
theorem leastL_snoc (L M : List (Nat × Nat)) (p : Nat × Nat) : leastL (L ++ [p]) M = leastIn (leastL L M) p M := by simp [leastL, List.foldl_append]
theorem leastIn_spec (p : Nat × Nat) (M : List (Nat × Nat)) : ∀ acc : Int, leastIn acc p M ≤ acc ∧ (∀ q ∈ M, leastIn acc p M ≤ distC p q) ∧ (leastIn acc p M = acc ∨ ∃ q ∈ M, leastIn acc p M = distC p q) := by
  induction M with
  | nil => intro acc; exact ⟨Int.le_refl _, (fun q hq => by cases hq), Or.inl rfl⟩
  | cons q M ih =>
    intro acc
    have e : leastIn acc p (q :: M) = leastIn (min acc (distC p q)) p M := rfl
    rw [e]
    obtain ⟨h1, h2, h3⟩ := ih (min acc (distC p q))
    refine ⟨by omega, fun r hr => ?_, ?_⟩
    · rcases List.mem_cons.1 hr with rfl | hr
      · omega
      · exact h2 r hr
    · rcases h3 with h3 | ⟨r, hr, h3⟩
      · by_cases h : acc ≤ distC p q
        · left; omega
        · right; exact ⟨q, List.mem_cons_self, by omega⟩
      · exact Or.inr ⟨r, List.mem_cons_of_mem _ hr, h3⟩
theorem leastL_spec (M : List (Nat × Nat)) : ∀ L : List (Nat × Nat), leastL L M ≤ 100 ∧ (∀ p ∈ L, ∀ q ∈ M, leastL L M ≤ distC p q) ∧ (leastL L M = 100 ∨ ∃ p ∈ L, ∃ q ∈ M, leastL L M = distC p q) := by
  have key : ∀ (L : List (Nat × Nat)) (acc : Int), L.foldl (fun acc p => leastIn acc p M) acc ≤ acc ∧ (∀ p ∈ L, ∀ q ∈ M, L.foldl (fun acc p => leastIn acc p M) acc ≤ distC p q) ∧ (L.foldl (fun acc p => leastIn acc p M) acc = acc ∨ ∃ p ∈ L, ∃ q ∈ M, L.foldl (fun acc p => leastIn acc p M) acc = distC p q) := by
    intro L
    induction L with
    | nil => intro acc; exact ⟨Int.le_refl _, (fun q hq => by cases hq), Or.inl rfl⟩
    | cons p L ih =>
      intro acc
      obtain ⟨g1, g2, g3⟩ := leastIn_spec p M acc
      obtain ⟨h1, h2, h3⟩ := ih (leastIn acc p M)
      rw [List.foldl_cons]
      refine ⟨by omega, fun r hr q hq => ?_, ?_⟩
      · rcases List.mem_cons.1 hr with rfl | hr
        · have := g2 q hq; omega
        · exact h2 r hr q hq
      · rcases h3 with h3 | ⟨r, hr, q, hq, h3⟩
        · rcases g3 with g3 | ⟨q, hq, g3⟩
          · left; omega
          · exact Or.inr ⟨p, List.mem_cons_self, q, hq, by omega⟩
        · exact Or.inr ⟨r, List.mem_cons_of_mem _ hr, q, hq, h3⟩
  intro L; exact key L 100
theorem least_near {a b : Rc} (ha : ROk a) (hb : ROk b) (a1 : a.X1 ≤ 7) (a2 : a.Y1 ≤ 7) (b1 : b.X1 ≤ 7) (b2 : b.Y1 ≤ 7) : leastL (cellsL a) (cellsL b) = nearR a b := by
  obtain ⟨h1, h2, h3⟩ := leastL_spec (cellsL b) (cellsL a)
  obtain ⟨p, hp, q, hq, e⟩ := near_at ha hb (by omega) (by omega) (by omega) (by omega)
  have k1 := h2 p hp q hq
  have k2 := near_bd hp hq
  rcases h3 with h3 | ⟨r, hr, s, hs, h3⟩
  · omega
  · have := near_le hr hs; omega
theorem leastIn_bd (acc : Int) (p : Nat × Nat) (M : List (Nat × Nat)) (h : -100 ≤ acc ∧ acc ≤ 100) : -100 ≤ leastIn acc p M ∧ leastIn acc p M ≤ 100 := by
  obtain ⟨h1, _, h3⟩ := leastIn_spec p M acc
  rcases h3 with h3 | ⟨q, _, h3⟩
  · omega
  · have : 0 ≤ distC p q := by unfold distC; omega
    omega

/-- whether two cells that touch were found so far. -/
def touchIn (p : Nat × Nat) (M : List (Nat × Nat)) : Bool := M.any fun q => besB p.1 p.2 q.1 q.2
def touchL (L M : List (Nat × Nat)) : Bool := L.any fun p => touchIn p M
theorem touchIn_snoc (p : Nat × Nat) (M : List (Nat × Nat)) (q : Nat × Nat) : touchIn p (M ++ [q]) = (touchIn p M || besB p.1 p.2 q.1 q.2) := by simp only [touchIn, List.any_append, List.any_cons, List.any_nil, Bool.or_false]
theorem touchL_snoc (L M : List (Nat × Nat)) (p : Nat × Nat) : touchL (L ++ [p]) M = (touchL L M || touchIn p M) := by simp only [touchL, List.any_append, List.any_cons, List.any_nil, Bool.or_false]
theorem bes_iff (p q : Nat × Nat) : besB p.1 p.2 q.1 q.2 = true ↔ Beside p q := by
  unfold besB Beside
  simp only [Bool.or_eq_true, Bool.and_eq_true, beq_iff_eq]
  omega
theorem touch_is {a b : Rc} (ha : ROk a) (hb : ROk b) (a1 : a.X1 ≤ 7) (a2 : a.Y1 ≤ 7) (b1 : b.X1 ≤ 7) (b2 : b.Y1 ≤ 7) : decide (TouchR a b) = (touchL (cellsL a) (cellsL b) && !decide (MeetR a b)) := by
  rw [Bool.eq_iff_iff]
  rw [decide_eq_true_iff, touch_cells ha hb (by omega) (by omega) (by omega) (by omega)]
  simp only [Bool.and_eq_true, Bool.not_eq_true', decide_eq_false_iff_not]
  have : (∃ p ∈ cellsL a, ∃ q ∈ cellsL b, Beside p q) ↔ touchL (cellsL a) (cellsL b) = true := by
    unfold touchL touchIn
    simp only [List.any_eq_true]
    constructor
    · rintro ⟨p, hp, q, hq, h⟩; exact ⟨p, hp, q, hq, (bes_iff p q).2 h⟩
    · rintro ⟨p, hp, q, hq, h⟩; exact ⟨p, hp, q, hq, (bes_iff p q).1 h⟩
  rw [this]
theorem cells_len64 (r : Rc) : (cellsL r).length ≤ 64 := by rw [← soFar_all]; have := soFar_len r 8 0; omega
theorem cell_bd {r : Rc} {p : Nat × Nat} (h : p ∈ cellsL r) : p.1 < 8 ∧ p.2 < 8 := ⟨((mem_cells r p).1 h).1, ((mem_cells r p).1 h).2.1⟩
end Go.Proofs.Ytpbkmphpgjdpfaa
