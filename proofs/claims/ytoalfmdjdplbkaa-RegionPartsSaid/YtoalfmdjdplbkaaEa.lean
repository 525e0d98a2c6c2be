/-
  Plain mathematics of rectangles of cells (layer 5), as functions on integers, and what the statements say of them. No program in this text.
-/
import Derived.Lib.Hide
set_option linter.unusedVariables false
namespace Go.Proofs.Ytoalfmdjdplbkaa

structure Rc where
  X0 : Int
  Y0 : Int
  X1 : Int
  Y1 : Int
theorem Rc.eq {a b : Rc} (h0 : a.X0 = b.X0) (h1 : a.Y0 = b.Y0) (h2 : a.X1 = b.X1) (h3 : a.Y1 = b.Y1) : a = b := by
  cases a; cases b; simp at h0 h1 h2 h3; subst h0; subst h1; subst h2; subst h3; rfl

def zR : Rc := ⟨0, 0, 0, 0⟩
def Span (a b : Int) : Prop := 0 ≤ a ∧ a < b ∧ b ≤ 1048576
def ROk (r : Rc) : Prop := Span r.X0 r.X1 ∧ Span r.Y0 r.Y1
instance (r : Rc) : Decidable (ROk r) := by unfold ROk Span; infer_instance
def rokB (r : Rc) : Bool := decide (ROk r)
theorem rokB_iff (r : Rc) : rokB r = true ↔ ROk r := by simp [rokB]
theorem rokB_no (r : Rc) : rokB r = false ↔ ¬ ROk r := by simp [rokB]
theorem zR_no : ¬ ROk zR := by decide

def areaR (r : Rc) : Int := if ROk r then (r.X1 - r.X0) * (r.Y1 - r.Y0) else 0
def HasR (r : Rc) (x y : Int) : Prop := ROk r ∧ r.X0 ≤ x ∧ x < r.X1 ∧ r.Y0 ≤ y ∧ y < r.Y1
instance (r : Rc) (x y : Int) : Decidable (HasR r x y) := by unfold HasR; infer_instance
def InsideR (a b : Rc) : Prop := ROk a ∧ ROk b ∧ b.X0 ≤ a.X0 ∧ a.X1 ≤ b.X1 ∧ b.Y0 ≤ a.Y0 ∧ a.Y1 ≤ b.Y1
instance (a b : Rc) : Decidable (InsideR a b) := by unfold InsideR; infer_instance
def meetR (a b : Rc) : Rc := ⟨max a.X0 b.X0, max a.Y0 b.Y0, min a.X1 b.X1, min a.Y1 b.Y1⟩
def MeetR (a b : Rc) : Prop := ROk a ∧ ROk b ∧ ROk (meetR a b)
instance (a b : Rc) : Decidable (MeetR a b) := by unfold MeetR; infer_instance
def interR (a b : Rc) : Rc × Bool := if MeetR a b then (meetR a b, true) else (zR, false)
/-- the distance between the nearest members of two intervals. -/
def apartI (a b c d : Int) : Int := if b ≤ c then c - b + 1 else if d ≤ a then a - d + 1 else 0
def gapR (a b : Rc) : Int := if ROk a ∧ ROk b then max 0 (max (apartI a.X0 a.X1 b.X0 b.X1) (apartI a.Y0 a.Y1 b.Y0 b.Y1) - 1) else -1
def TouchR (a b : Rc) : Prop := ROk a ∧ ROk b ∧ apartI a.X0 a.X1 b.X0 b.X1 + apartI a.Y0 a.Y1 b.Y0 b.Y1 = 1
instance (a b : Rc) : Decidable (TouchR a b) := by unfold TouchR; infer_instance
def grownR (r : Rc) (d : Int) : Rc := ⟨max 0 (r.X0 - d), max 0 (r.Y0 - d), min 1048576 (r.X1 + d), min 1048576 (r.Y1 + d)⟩
def growR (r : Rc) (d : Int) : Rc × Bool := if ROk r ∧ 0 ≤ d then (grownR r d, true) else (zR, false)
def shrunkR (r : Rc) (d : Int) : Rc := ⟨r.X0 + d, r.Y0 + d, r.X1 - d, r.Y1 - d⟩
def shrinkR (r : Rc) (d : Int) : Rc × Bool := if ROk r ∧ 0 ≤ d ∧ ROk (shrunkR r d) then (shrunkR r d, true) else (zR, false)

theorem apart_zero {a b c d : Int} (h1 : a < b) (h2 : c < d) : apartI a b c d = 0 ↔ c < b ∧ a < d := by unfold apartI; split <;> (try split) <;> omega
theorem apart_nn {a b c d : Int} : 0 ≤ apartI a b c d := by unfold apartI; split <;> (try split) <;> omega
theorem apart_comm {a b c d : Int} (h1 : a < b) (h2 : c < d) : apartI a b c d = apartI c d a b := by unfold apartI; split <;> split <;> (try split) <;> omega
theorem apart_le {a b c d e : Int} (h1 : a < b) (h2 : c < d) (he : 0 ≤ e) : apartI a b c d ≤ e ↔ c < b + e ∧ a - e < d := by unfold apartI; split <;> (try split) <;> omega

theorem grown_ok {r : Rc} {d : Int} (h : ROk r) (hd : 0 ≤ d) : ROk (grownR r d) := by
  unfold ROk Span at h ⊢; simp only [grownR]; omega
theorem grow_is {r : Rc} {d : Int} (h : ROk r) (hd : 0 ≤ d) : growR r d = (grownR r d, true) := by unfold growR; rw [if_pos ⟨h, hd⟩]
theorem grow_no {r : Rc} {d : Int} (h : ¬ (ROk r ∧ 0 ≤ d)) : growR r d = (zR, false) := by unfold growR; rw [if_neg h]

/- RectGap -/
theorem gap_le {a b : Rc} {d : Int} (ha : ROk a) (hb : ROk b) (hd : 0 ≤ d) : gapR a b ≤ d ↔ MeetR (grownR a (d + 1)) b := by
  have hg := grown_ok ha (show 0 ≤ d + 1 by omega)
  unfold gapR
  rw [if_pos ⟨ha, hb⟩]
  have h1 : a.X0 < a.X1 := ha.1.2.1
  have h2 : a.Y0 < a.Y1 := ha.2.2.1
  have h3 : b.X0 < b.X1 := hb.1.2.1
  have h4 : b.Y0 < b.Y1 := hb.2.2.1
  have e1 := apart_le h1 h3 (show 0 ≤ d + 1 by omega)
  have e2 := apart_le h2 h4 (show 0 ≤ d + 1 by omega)
  have k : max 0 (max (apartI a.X0 a.X1 b.X0 b.X1) (apartI a.Y0 a.Y1 b.Y0 b.Y1) - 1) ≤ d ↔ (apartI a.X0 a.X1 b.X0 b.X1 ≤ d + 1 ∧ apartI a.Y0 a.Y1 b.Y0 b.Y1 ≤ d + 1) := by omega
  rw [k, e1, e2]
  constructor
  · intro h
    refine ⟨hg, hb, ?_⟩
    unfold ROk Span at ha hb ⊢
    simp only [meetR, grownR]
    omega
  · rintro ⟨_, _, hm⟩
    unfold ROk Span at ha hb hm
    simp only [meetR, grownR] at hm
    omega
theorem gap_nn {a b : Rc} (ha : ROk a) (hb : ROk b) : 0 ≤ gapR a b := by unfold gapR; rw [if_pos ⟨ha, hb⟩]; omega
theorem gap_comm (a b : Rc) : gapR a b = gapR b a := by
  unfold gapR
  by_cases h : ROk a ∧ ROk b
  · rw [if_pos h, if_pos ⟨h.2, h.1⟩, apart_comm h.1.1.2.1 h.2.1.2.1, apart_comm h.1.2.2.1 h.2.2.2.1]
  · rw [if_neg h, if_neg (fun k => h ⟨k.2, k.1⟩)]
theorem meet_iff {a b : Rc} (ha : ROk a) (hb : ROk b) : MeetR a b ↔ (apartI a.X0 a.X1 b.X0 b.X1 = 0 ∧ apartI a.Y0 a.Y1 b.Y0 b.Y1 = 0) := by
  rw [apart_zero ha.1.2.1 hb.1.2.1, apart_zero ha.2.2.1 hb.2.2.1]
  constructor
  · rintro ⟨_, _, hm⟩
    unfold ROk Span at hm; simp only [meetR] at hm; omega
  · intro h
    refine ⟨ha, hb, ?_⟩
    unfold ROk Span at ha hb ⊢; simp only [meetR]; omega
theorem meet_gap {a b : Rc} (h : MeetR a b) : gapR a b = 0 := by
  have k := (meet_iff h.1 h.2.1).1 h
  unfold gapR; rw [if_pos ⟨h.1, h.2.1⟩, k.1, k.2]; decide
theorem touch_gap {a b : Rc} (h : TouchR a b) : gapR a b = 0 ∧ ¬ MeetR a b := by
  obtain ⟨ha, hb, h1⟩ := h
  have n1 := @apart_nn a.X0 a.X1 b.X0 b.X1
  have n2 := @apart_nn a.Y0 a.Y1 b.Y0 b.Y1
  constructor
  · unfold gapR; rw [if_pos ⟨ha, hb⟩]; omega
  · intro hm
    have k := (meet_iff ha hb).1 hm
    omega
theorem touch_comm (a b : Rc) : TouchR a b ↔ TouchR b a := by
  constructor
  · rintro ⟨ha, hb, h⟩; exact ⟨hb, ha, by rw [apart_comm hb.1.2.1 ha.1.2.1, apart_comm hb.2.2.1 ha.2.2.1]; exact h⟩
  · rintro ⟨hb, ha, h⟩; exact ⟨ha, hb, by rw [apart_comm ha.1.2.1 hb.1.2.1, apart_comm ha.2.2.1 hb.2.2.1]; exact h⟩

/- RectGrows -/
theorem inside_grown {r : Rc} {d : Int} (h : ROk r) (hd : 0 ≤ d) : InsideR r (grownR r d) := by
  refine ⟨h, grown_ok h hd, ?_⟩
  unfold ROk Span at h; simp only [grownR]; omega
theorem shrunk_grown {r : Rc} {d : Int} (h : ROk r) (hd : 0 ≤ d) (hb : 0 < (grownR r d).X0 ∧ 0 < (grownR r d).Y0 ∧ (grownR r d).X1 < 1048576 ∧ (grownR r d).Y1 < 1048576) : shrinkR (grownR r d) d = (r, true) := by
  have e : shrunkR (grownR r d) d = r := by
    unfold ROk Span at h; simp only [grownR] at hb
    apply Rc.eq <;> simp only [shrunkR, grownR] <;> omega
  unfold shrinkR
  rw [e, if_pos ⟨grown_ok h hd, hd, h⟩]
theorem grown_twice {r : Rc} {d e : Int} (h : ROk r) (hd : 0 ≤ d) (he : 0 ≤ e) : grownR (grownR r d) e = grownR r (d + e) := by
  unfold ROk Span at h
  apply Rc.eq <;> simp only [grownR] <;> omega
theorem shrink_iff {r : Rc} {d : Int} (h : ROk r) (hd : 0 ≤ d) : ROk (shrunkR r d) ↔ ¬ (r.X1 - r.X0 ≤ 2 * d ∨ r.Y1 - r.Y0 ≤ 2 * d) := by
  unfold ROk Span at h ⊢; simp only [shrunkR]; omega
theorem grown_shrunk {r : Rc} {d : Int} (h : ROk r) (hd : 0 ≤ d) (hs : ROk (shrunkR r d)) : grownR (shrunkR r d) d = r := by
  unfold ROk Span at h hs; simp only [shrunkR] at hs
  apply Rc.eq <;> simp only [shrunkR, grownR] <;> omega

/- RectMeets -/
theorem meet_comm (a b : Rc) : meetR a b = meetR b a := by apply Rc.eq <;> simp only [meetR] <;> omega
theorem inter_comm (a b : Rc) : interR a b = interR b a := by
  unfold interR
  rw [meet_comm a b]
  by_cases h : MeetR a b
  · rw [if_pos h, if_pos ⟨h.2.1, h.1, meet_comm a b ▸ h.2.2⟩]
  · rw [if_neg h, if_neg (fun k => h ⟨k.2.1, k.1, meet_comm b a ▸ k.2.2⟩)]
theorem inter_fst_ok (a b : Rc) : ROk (interR a b).1 ↔ MeetR a b := by
  unfold interR
  by_cases h : MeetR a b
  · rw [if_pos h]; exact ⟨fun _ => h, fun _ => h.2.2⟩
  · rw [if_neg h]; exact ⟨fun k => absurd k zR_no, fun k => absurd k h⟩
theorem meet_assoc (a b c : Rc) : meetR (meetR a b) c = meetR a (meetR b c) := by apply Rc.eq <;> simp only [meetR] <;> omega
theorem meet_sub {a b c : Rc} (h : ROk (meetR (meetR a b) c)) (ha : ROk a) (hb : ROk b) (hc : ROk c) : ROk (meetR a b) ∧ ROk (meetR b c) := by
  unfold ROk Span at *; simp only [meetR] at *; omega
theorem inter_assoc (a b c : Rc) : interR (interR a b).1 c = interR a (interR b c).1 := by
  by_cases hall : ROk a ∧ ROk b ∧ ROk c ∧ ROk (meetR (meetR a b) c)
  · obtain ⟨ha, hb, hc, hm⟩ := hall
    obtain ⟨h1, h2⟩ := meet_sub hm ha hb hc
    have e1 : interR a b = (meetR a b, true) := by unfold interR; rw [if_pos ⟨ha, hb, h1⟩]
    have e2 : interR b c = (meetR b c, true) := by unfold interR; rw [if_pos ⟨hb, hc, h2⟩]
    rw [e1, e2]
    unfold interR
    rw [if_pos ⟨h1, hc, hm⟩, if_pos ⟨ha, h2, meet_assoc a b c ▸ hm⟩, meet_assoc]
  · have l : interR (interR a b).1 c = (zR, false) := by
      unfold interR
      by_cases h : MeetR a b
      · rw [if_pos h, if_neg (fun k => hall ⟨h.1, h.2.1, k.2.1, k.2.2⟩)]
      · rw [if_neg h, if_neg (fun k => zR_no k.1)]
    have r : interR a (interR b c).1 = (zR, false) := by
      unfold interR
      by_cases h : MeetR b c
      · rw [if_pos h, if_neg (fun k => hall ⟨k.1, h.1, h.2.1, (meet_assoc a b c).symm ▸ k.2.2⟩)]
      · rw [if_neg h, if_neg (fun k => zR_no k.2.1)]
    rw [l, r]
theorem inter_need {a b c : Rc} (h : (interR (interR a b).1 c).2 = true) : (interR b c).2 = true := by
  rw [inter_assoc] at h
  unfold interR at h ⊢
  by_cases k : MeetR b c
  · rw [if_pos k]
  · rw [if_neg k, if_neg (fun q => zR_no q.2.1)] at h; cases h
theorem inside_iff (a b : Rc) : InsideR a b ↔ ROk a ∧ (interR a b).2 = true ∧ (interR a b).1 = a := by
  constructor
  · rintro ⟨ha, hb, h⟩
    have e : meetR a b = a := by apply Rc.eq <;> simp only [meetR] <;> omega
    have hm : MeetR a b := ⟨ha, hb, by rw [e]; exact ha⟩
    unfold interR; rw [if_pos hm, e]; exact ⟨ha, rfl, rfl⟩
  · rintro ⟨ha, h1, h2⟩
    unfold interR at h1 h2
    by_cases hm : MeetR a b
    · rw [if_pos hm] at h2
      simp only [] at h2
      refine ⟨ha, hm.2.1, ?_⟩
      have e0 := congrArg Rc.X0 h2; have e1 := congrArg Rc.X1 h2; have e2 := congrArg Rc.Y0 h2; have e3 := congrArg Rc.Y1 h2
      simp only [meetR] at e0 e1 e2 e3
      omega
    · rw [if_neg hm] at h1; cases h1

theorem area_nn (r : Rc) : 0 ≤ areaR r := by
  unfold areaR; split
  · rename_i h; unfold ROk Span at h; exact Int.mul_nonneg (by omega) (by omega)
  · omega
theorem area_bd (r : Rc) : areaR r ≤ 1099511627776 := by
  unfold areaR; split
  · rename_i h
    unfold ROk Span at h
    have h1 : r.X1 - r.X0 ≤ 1048576 := by omega
    have h2 : r.Y1 - r.Y0 ≤ 1048576 := by omega
    have := Int.mul_le_mul h1 h2 (by omega) (by omega)
    omega
  · omega
/-- the least rectangle around two. -/
def hullR (a b : Rc) : Rc := ⟨min a.X0 b.X0, min a.Y0 b.Y0, max a.X1 b.X1, max a.Y1 b.Y1⟩
theorem hull_ok {a b : Rc} (ha : ROk a) (hb : ROk b) : ROk (hullR a b) := by unfold ROk Span at *; simp only [hullR]; omega
theorem area_ok {r : Rc} (h : ROk r) : areaR r = (r.X1 - r.X0) * (r.Y1 - r.Y0) := by unfold areaR; rw [if_pos h]
theorem area_no {r : Rc} (h : ¬ ROk r) : areaR r = 0 := by unfold areaR; rw [if_neg h]

theorem cover {W H u v p q : Int} (hu : 0 ≤ u) (hv : 0 ≤ v) (hp : 0 ≤ p) (hq : 0 ≤ q) (h1 : u + p ≤ W) (h2 : v ≤ H) (h3 : q ≤ H) : u * v + p * q ≤ W * H := by
  have e1 : u * v ≤ u * H := Int.mul_le_mul_of_nonneg_left h2 hu
  have e2 : p * q ≤ p * H := Int.mul_le_mul_of_nonneg_left h3 hp
  have e3 : (u + p) * H ≤ W * H := Int.mul_le_mul_of_nonneg_right h1 (by omega)
  have e4 : (u + p) * H = u * H + p * H := by grind
  omega
theorem cover2 {W H dw dh p q r s : Int} (hp : 0 ≤ p) (hq : 0 ≤ q) (hr : 0 ≤ r) (hs : 0 ≤ s) (hdw : 0 ≤ dw) (hdh : 0 ≤ dh) (h1 : dw + p + q ≤ W) (h2 : dh + r + s ≤ H) : (dw + p) * (dh + r) + (dw + q) * (dh + s) - dw * dh ≤ W * H := by
  have e1 : (dw + p + q) * (dh + r + s) ≤ W * H := Int.mul_le_mul h1 h2 (by omega) (by omega)
  have e2 : (dw + p + q) * (dh + r + s) = (dw + p) * (dh + r) + (dw + q) * (dh + s) - dw * dh + (p * s + q * r) := by grind
  have e3 := Int.mul_nonneg hp hs
  have e4 := Int.mul_nonneg hq hr
  omega
theorem hull_area {a b : Rc} (ha : ROk a) (hb : ROk b) : areaR a + areaR b - areaR (interR a b).1 ≤ areaR (hullR a b) := by
  rw [area_ok ha, area_ok hb, area_ok (hull_ok ha hb)]
  by_cases hm : MeetR a b
  · have e : interR a b = (meetR a b, true) := by unfold interR; rw [if_pos hm]
    rw [e, area_ok hm.2.2]
    obtain ⟨_, _, hk⟩ := hm
    unfold ROk Span at ha hb hk
    simp only [meetR] at hk
    simp only [meetR, hullR]
    have k := cover2 (W := max a.X1 b.X1 - min a.X0 b.X0) (H := max a.Y1 b.Y1 - min a.Y0 b.Y0) (dw := min a.X1 b.X1 - max a.X0 b.X0) (dh := min a.Y1 b.Y1 - max a.Y0 b.Y0)
      (p := (a.X1 - a.X0) - (min a.X1 b.X1 - max a.X0 b.X0)) (q := (b.X1 - b.X0) - (min a.X1 b.X1 - max a.X0 b.X0)) (r := (a.Y1 - a.Y0) - (min a.Y1 b.Y1 - max a.Y0 b.Y0)) (s := (b.Y1 - b.Y0) - (min a.Y1 b.Y1 - max a.Y0 b.Y0))
      (by omega) (by omega) (by omega) (by omega) (by omega) (by omega) (by omega) (by omega)
    have c : ∀ x y : Int, x + (y - x) = y := fun x y => by omega
    rw [c, c, c, c] at k
    exact k
  · have e : interR a b = (zR, false) := by unfold interR; rw [if_neg hm]
    rw [e, area_no zR_no]
    rw [meet_iff ha hb, apart_zero ha.1.2.1 hb.1.2.1, apart_zero ha.2.2.1 hb.2.2.1] at hm
    unfold ROk Span at ha hb
    simp only [hullR]
    by_cases hx : b.X0 < a.X1 ∧ a.X0 < b.X1
    · have hy : ¬ (b.Y0 < a.Y1 ∧ a.Y0 < b.Y1) := fun h => hm ⟨hx, h⟩
      have k := cover (W := max a.Y1 b.Y1 - min a.Y0 b.Y0) (H := max a.X1 b.X1 - min a.X0 b.X0) (u := a.Y1 - a.Y0) (v := a.X1 - a.X0) (p := b.Y1 - b.Y0) (q := b.X1 - b.X0) (by omega) (by omega) (by omega) (by omega) (by omega) (by omega) (by omega)
      rw [Int.mul_comm (a.Y1 - a.Y0), Int.mul_comm (b.Y1 - b.Y0), Int.mul_comm (max a.Y1 b.Y1 - min a.Y0 b.Y0)] at k
      omega
    · have k := cover (W := max a.X1 b.X1 - min a.X0 b.X0) (H := max a.Y1 b.Y1 - min a.Y0 b.Y0) (u := a.X1 - a.X0) (v := a.Y1 - a.Y0) (p := b.X1 - b.X0) (q := b.Y1 - b.Y0) (by omega) (by omega) (by omega) (by omega) (by omega) (by omega) (by omega)
      omega
theorem inter_area {a b : Rc} (ha : ROk a) (hb : ROk b) : areaR (interR a b).1 ≤ areaR a ∧ areaR (interR a b).1 ≤ areaR b := by
  by_cases hm : MeetR a b
  · have e : interR a b = (meetR a b, true) := by unfold interR; rw [if_pos hm]
    rw [e, area_ok hm.2.2, area_ok ha, area_ok hb]
    obtain ⟨_, _, hk⟩ := hm
    unfold ROk Span at ha hb hk
    simp only [meetR] at hk ⊢
    exact ⟨Int.mul_le_mul (by omega) (by omega) (by omega) (by omega), Int.mul_le_mul (by omega) (by omega) (by omega) (by omega)⟩
  · have e : interR a b = (zR, false) := by unfold interR; rw [if_neg hm]
    rw [e, area_no zR_no]; exact ⟨area_nn _, area_nn _⟩
theorem area_zero {a b : Rc} (h : ¬ (ROk a ∧ ROk b)) : areaR a * areaR b = 0 := by
  by_cases ha : ROk a
  · rw [area_no (r := b) (fun hb => h ⟨ha, hb⟩)]; simp
  · rw [area_no ha]; simp

/- RectBounds -/
def boundsStep (s : Rc × Bool) (r : Rc) : Rc × Bool := if ROk r then (if s.2 then (hullR s.1 r, true) else (r, true)) else s
def boundsR (l : List Rc) : Rc × Bool := l.foldl boundsStep (zR, false)
theorem bounds_snoc (l : List Rc) (r : Rc) : boundsR (l ++ [r]) = boundsStep (boundsR l) r := by simp [boundsR, List.foldl_append]
theorem hull_self (r : Rc) : hullR r r = r := by apply Rc.eq <;> simp only [hullR] <;> omega
/-- what the bounds of a list are: around each valid one, and each side is one's own. -/
def BoundsOf (l : List Rc) (x : Rc × Bool) : Prop :=
  (x.2 = true → ROk x.1 ∧ (∀ r ∈ l, ROk r → InsideR r x.1) ∧ (∃ r ∈ l, ROk r ∧ r.X0 = x.1.X0) ∧ (∃ r ∈ l, ROk r ∧ r.X1 = x.1.X1) ∧ (∃ r ∈ l, ROk r ∧ r.Y0 = x.1.Y0) ∧ (∃ r ∈ l, ROk r ∧ r.Y1 = x.1.Y1)) ∧
  (x.2 = false → x.1 = zR ∧ ∀ r ∈ l, ¬ ROk r)
theorem hull_inside {a b : Rc} (ha : ROk a) (hb : ROk b) : InsideR a (hullR a b) ∧ InsideR b (hullR a b) := by
  have hk := hull_ok ha hb
  exact ⟨⟨ha, hk, by simp only [hullR]; omega⟩, hb, hk, by simp only [hullR]; omega⟩
theorem inside_trans {a b c : Rc} (h : InsideR a b) (k : InsideR b c) : InsideR a c := ⟨h.1, k.2.1, by obtain ⟨_, _, _⟩ := h; obtain ⟨_, _, _⟩ := k; omega⟩
theorem bounds_step {l : List Rc} {x : Rc × Bool} {r : Rc} (h : BoundsOf l x) : BoundsOf (l ++ [r]) (boundsStep x r) := by
  have up : ∀ {P : Rc → Prop}, (∃ q ∈ l, P q) → ∃ q ∈ l ++ [r], P q := fun ⟨q, hq, hp⟩ => ⟨q, List.mem_append_left _ hq, hp⟩
  have me : r ∈ l ++ [r] := List.mem_append_right _ (List.mem_singleton.2 rfl)
  unfold boundsStep
  by_cases hr : ROk r
  · rw [if_pos hr]
    by_cases hx : x.2 = true
    · rw [if_pos hx]
      obtain ⟨ho, hin, a0, a1, a2, a3⟩ := h.1 hx
      refine ⟨fun _ => ⟨hull_ok ho hr, fun q hq hqo => ?_, ?_, ?_, ?_, ?_⟩, fun h => nomatch h⟩
      · rcases List.mem_append.1 hq with hq | hq
        · exact inside_trans (hin q hq hqo) (hull_inside ho hr).1
        · rw [List.mem_singleton] at hq; subst hq; exact (hull_inside ho hr).2
      · by_cases e : x.1.X0 ≤ r.X0
        · have : (hullR x.1 r).X0 = x.1.X0 := by simp only [hullR]; omega
          simp only [this]; exact up a0
        · have : (hullR x.1 r).X0 = r.X0 := by simp only [hullR]; omega
          exact ⟨r, me, hr, this.symm⟩
      · by_cases e : r.X1 ≤ x.1.X1
        · have : (hullR x.1 r).X1 = x.1.X1 := by simp only [hullR]; omega
          simp only [this]; exact up a1
        · have : (hullR x.1 r).X1 = r.X1 := by simp only [hullR]; omega
          exact ⟨r, me, hr, this.symm⟩
      · by_cases e : x.1.Y0 ≤ r.Y0
        · have : (hullR x.1 r).Y0 = x.1.Y0 := by simp only [hullR]; omega
          simp only [this]; exact up a2
        · have : (hullR x.1 r).Y0 = r.Y0 := by simp only [hullR]; omega
          exact ⟨r, me, hr, this.symm⟩
      · by_cases e : r.Y1 ≤ x.1.Y1
        · have : (hullR x.1 r).Y1 = x.1.Y1 := by simp only [hullR]; omega
          simp only [this]; exact up a3
        · have : (hullR x.1 r).Y1 = r.Y1 := by simp only [hullR]; omega
          exact ⟨r, me, hr, this.symm⟩
    · have hx : x.2 = false := by cases h : x.2 <;> simp_all
      obtain ⟨_, hno⟩ := h.2 hx
      rw [if_neg (by simp [hx])]
      refine ⟨fun _ => ⟨hr, fun q hq hqo => ?_, ⟨r, me, hr, rfl⟩, ⟨r, me, hr, rfl⟩, ⟨r, me, hr, rfl⟩, ⟨r, me, hr, rfl⟩⟩, fun h => nomatch h⟩
      rcases List.mem_append.1 hq with hq | hq
      · exact absurd hqo (hno q hq)
      · rw [List.mem_singleton] at hq; subst hq; exact ⟨hr, hr, Int.le_refl _, Int.le_refl _, Int.le_refl _, Int.le_refl _⟩
  · rw [if_neg hr]
    refine ⟨fun hx => ?_, fun hx => ?_⟩
    · obtain ⟨ho, hin, a0, a1, a2, a3⟩ := h.1 hx
      refine ⟨ho, fun q hq hqo => ?_, up a0, up a1, up a2, up a3⟩
      rcases List.mem_append.1 hq with hq | hq
      · exact hin q hq hqo
      · rw [List.mem_singleton] at hq; subst hq; exact absurd hqo hr
    · obtain ⟨hz, hno⟩ := h.2 hx
      refine ⟨hz, fun q hq => ?_⟩
      rcases List.mem_append.1 hq with hq | hq
      · exact hno q hq
      · rw [List.mem_singleton] at hq; subst hq; exact hr
theorem bounds_of (l : List Rc) : BoundsOf l (boundsR l) := by
  have key : ∀ (m : List Rc), ∀ n, m.length = n → BoundsOf m (boundsR m) := by
    intro m n
    induction n generalizing m with
    | zero =>
      intro h
      obtain rfl := List.length_eq_zero_iff.1 h
      exact ⟨(fun h => by cases h), (fun _ => ⟨rfl, (fun r hr => by cases hr)⟩)⟩
    | succ n ih =>
      intro h
      obtain ⟨k, r, rfl⟩ : ∃ k r, m = k ++ [r] := ⟨m.dropLast, m.getLast (by intro e; rw [e] at h; cases h), (List.dropLast_concat_getLast _).symm⟩
      rw [bounds_snoc]
      exact bounds_step (ih k (by simp at h; exact h))
  exact key l _ rfl
theorem bounds_two {a b : Rc} (ha : ROk a) (hb : ROk b) : boundsR [a, b] = (hullR a b, true) := by
  simp [boundsR, boundsStep, ha, hb]
end Go.Proofs.Ytoalfmdjdplbkaa
