/-
  Plain mathematics of height planes (layer 10). No program in this text.
  Plain mathematics of height planes (2): the least height over an area; the first cube that is not allowed. No program in this text.
  Contracts of the program's layer 6 (4): slices of rectangles that the call made; the rows that column works on.
-/
import Derived.Test.YtkjblmfmaenllaaGreatWt
import Derived.Laws.AppendOwn
set_option linter.unusedVariables false
set_option maxRecDepth 100000
namespace Go.Proofs.YtkjblmfmaenllaaGreat

structure Pl where
  s : Int
  b : Int
  n : Int
  d : Int
deriving DecidableEq, Inhabited
def PlOk (p : Pl) : Prop := (0 ≤ p.s ∧ p.s < 4) ∧ (0 ≤ p.b ∧ p.b ≤ 4096) ∧ (0 ≤ p.n ∧ p.n ≤ 4096) ∧ (0 < p.d ∧ p.d ≤ 4096)
instance (p : Pl) : Decidable (PlOk p) := by unfold PlOk; infer_instance
/-- a cell of the grid. -/
def GC (x y : Int) : Prop := (0 ≤ x ∧ x < 1048576) ∧ (0 ≤ y ∧ y < 1048576)
instance (x y : Int) : Decidable (GC x y) := by unfold GC; infer_instance
def distP (r : Rc) (s x y : Int) : Int := if s = 0 then x - r.X0 else if s = 1 then r.X1 - 1 - x else if s = 2 then y - r.Y0 else r.Y1 - 1 - y
theorem dist_in {r : Rc} (hr : ROk r) {x y : Int} (hc : GC x y) (s : Int) : -1048576 ≤ distP r s x y ∧ distP r s x y < 1048576 := by
  unfold ROk Span at hr; unfold GC at hc; unfold distP
  split <;> (try split) <;> (try split) <;> omega
/-- a cube is allowed by a plane, by all planes. -/
def Alw (r : Rc) (p : Pl) (x y z : Int) : Prop := (z + 1 - p.b) * p.d ≤ p.n * distP r p.s x y
instance (r : Rc) (p : Pl) (x y z : Int) : Decidable (Alw r p x y z) := by unfold Alw; infer_instance
def AlwL (r : Rc) (l : List Pl) (x y z : Int) : Prop := ∀ p ∈ l, Alw r p x y z
def topPl (r : Rc) (p : Pl) (x y : Int) : Int := p.b + p.n * distP r p.s x y / p.d
theorem topPl_iff {r : Rc} {p : Pl} (hp : PlOk p) (x y z : Int) : z < topPl r p x y ↔ Alw r p x y z := by
  unfold topPl Alw
  rw [← Int.le_ediv_iff_mul_le hp.2.2.2.1]
  omega
def topK (r : Rc) (l : List Pl) (x y : Int) : Int := l.foldl (fun h p => min h (topPl r p x y)) 4096
theorem topK_snoc (r : Rc) (l : List Pl) (p : Pl) (x y : Int) : topK r (l ++ [p]) x y = min (topK r l x y) (topPl r p x y) := by simp [topK, List.foldl_append]
theorem snoc10 {α : Type} {P : List α → Prop} (h0 : P []) (h1 : ∀ l a, P l → P (l ++ [a])) : ∀ l, P l := by
  intro l
  have key : ∀ n (m : List α), m.length = n → P m := by
    intro n
    induction n with
    | zero => intro m h; obtain rfl := List.length_eq_zero_iff.1 h; exact h0
    | succ n ih =>
      intro m h
      obtain ⟨k, r, rfl⟩ : ∃ k r, m = k ++ [r] := ⟨m.dropLast, m.getLast (by intro e; rw [e] at h; cases h), (List.dropLast_concat_getLast _).symm⟩
      exact h1 k r (ih k (by simp at h; exact h))
  exact key _ l rfl
theorem topK_le (r : Rc) (x y : Int) : ∀ (l : List Pl) (z : Int), z ≤ topK r l x y ↔ z ≤ 4096 ∧ ∀ p ∈ l, z ≤ topPl r p x y := by
  intro l
  refine snoc10 (P := fun l => ∀ z, z ≤ topK r l x y ↔ z ≤ 4096 ∧ ∀ p ∈ l, z ≤ topPl r p x y) (fun z => by simp [topK]) (fun l p ih z => ?_) l
  rw [topK_snoc, Int.le_min, ih z]
  simp only [List.mem_append, List.mem_singleton]
  constructor
  · rintro ⟨⟨h1, h2⟩, h3⟩
    exact ⟨h1, fun q hq => hq.elim (h2 q) (fun e => e ▸ h3)⟩
  · rintro ⟨h1, h2⟩
    exact ⟨⟨h1, fun q hq => h2 q (Or.inl hq)⟩, h2 p (Or.inr rfl)⟩
def topH (r : Rc) (l : List Pl) (x y : Int) : Int := max (topK r l x y) 0
theorem top_in (r : Rc) (l : List Pl) (x y : Int) : 0 ≤ topH r l x y ∧ topH r l x y ≤ 4096 := by
  have := ((topK_le r x y l (topK r l x y)).1 (Int.le_refl _)).1
  unfold topH; omega
theorem top_iff {r : Rc} {l : List Pl} (hl : ∀ p ∈ l, PlOk p) {x y z : Int} (h0 : 0 ≤ z) (h1 : z < 4096) : z < topH r l x y ↔ AlwL r l x y z := by
  have h := topK_le r x y l (z + 1)
  have e : z < topH r l x y ↔ z + 1 ≤ topK r l x y := by unfold topH; omega
  rw [e, h]
  constructor
  · rintro ⟨_, h2⟩ p hp
    exact (topPl_iff (hl p hp) x y z).1 (by have := h2 p hp; omega)
  · intro h2
    exact ⟨by omega, fun p hp => by have := (topPl_iff (hl p hp) x y z).2 (h2 p hp); omega⟩
/-! ### rooms -/
def nearP (p : Pl) (z : Int) : Int := if 0 < p.n then -(-((z - p.b) * p.d) / p.n) else if 0 < (z - p.b) * p.d then 1048576 else -1048576
theorem near_iff {r : Rc} {p : Pl} (hr : ROk r) (hp : PlOk p) {x y : Int} (hc : GC x y) (z : Int) : nearP p z ≤ distP r p.s x y ↔ z ≤ topPl r p x y := by
  have hd := dist_in hr hc p.s
  have e : z ≤ topPl r p x y ↔ (z - p.b) * p.d ≤ p.n * distP r p.s x y := by
    unfold topPl
    rw [← Int.le_ediv_iff_mul_le hp.2.2.2.1]
    omega
  rw [e]
  unfold nearP
  generalize distP r p.s x y = t at *
  generalize (z - p.b) * p.d = a at *
  by_cases c : 0 < p.n
  · rw [if_pos c]
    have k : -t ≤ -a / p.n ↔ -t * p.n ≤ -a := Int.le_ediv_iff_mul_le c
    rw [Int.neg_mul, Int.mul_comm t] at k
    omega
  · rw [if_neg c]
    obtain h0 : p.n = 0 := by have := hp.2.2.1.1; omega
    rw [h0, Int.zero_mul]
    split <;> omega
def needS (z s : Int) (l : List Pl) : Int := l.foldl (fun a p => if p.s = s then max a (nearP p z) else a) (-1048576)
theorem need_snoc (z s : Int) (l : List Pl) (p : Pl) : needS z s (l ++ [p]) = if p.s = s then max (needS z s l) (nearP p z) else needS z s l := by simp [needS, List.foldl_append]
theorem need_le (z s : Int) : ∀ (l : List Pl) (t : Int), needS z s l ≤ t ↔ -1048576 ≤ t ∧ ∀ p ∈ l, p.s = s → nearP p z ≤ t := by
  intro l
  refine snoc10 (P := fun l => ∀ t, needS z s l ≤ t ↔ -1048576 ≤ t ∧ ∀ p ∈ l, p.s = s → nearP p z ≤ t) (fun t => by simp [needS]) (fun l p ih t => ?_) l
  rw [need_snoc]
  simp only [List.mem_append, List.mem_singleton]
  by_cases c : p.s = s
  · rw [if_pos c, Int.max_le, ih t]
    constructor
    · rintro ⟨⟨h1, h2⟩, h3⟩
      exact ⟨h1, fun q hq hs => hq.elim (fun k => h2 q k hs) (fun e => e ▸ h3)⟩
    · rintro ⟨h1, h2⟩
      exact ⟨⟨h1, fun q hq hs => h2 q (Or.inl hq) hs⟩, h2 p (Or.inr rfl) c⟩
  · rw [if_neg c, ih t]
    constructor
    · rintro ⟨h1, h2⟩
      exact ⟨h1, fun q hq hs => hq.elim (fun k => h2 q k hs) (fun e => absurd (e ▸ hs) c)⟩
    · rintro ⟨h1, h2⟩
      exact ⟨h1, fun q hq hs => h2 q (Or.inl hq) hs⟩
theorem near_in {p : Pl} (hp : PlOk p) {z : Int} (h0 : 0 ≤ z) (h1 : z ≤ 4096) : -16777216 ≤ nearP p z ∧ nearP p z ≤ 16777216 := by
  obtain ⟨_, ⟨b0, b1⟩, ⟨n0, n1⟩, d0, d1⟩ := hp
  have ha : -16777216 ≤ (z - p.b) * p.d ∧ (z - p.b) * p.d ≤ 16777216 := by
    have k1 := Int.mul_le_mul (show z - p.b ≤ 4096 by omega) d1 (by omega) (by omega)
    have k2 := Int.mul_le_mul (show p.b - z ≤ 4096 by omega) d1 (by omega) (by omega)
    have e : (p.b - z) * p.d = -((z - p.b) * p.d) := by rw [← Int.neg_mul]; congr 1; omega
    rw [e] at k2
    omega
  unfold nearP
  generalize (z - p.b) * p.d = a at *
  by_cases c : 0 < p.n
  · rw [if_pos c]
    have k1 : -a / p.n ≤ 16777216 := by
      rcases Int.lt_or_le (-a) 0 with h | h
      · have := Int.ediv_neg_of_neg_of_pos h c; omega
      · have := Int.ediv_le_self p.n h; omega
    have k2 : -16777216 ≤ -a / p.n := by
      rw [Int.le_ediv_iff_mul_le c]
      have := Int.mul_le_mul_of_nonneg_left (show 1 ≤ p.n by omega) (show (0 : Int) ≤ 16777216 by omega)
      omega
    omega
  · rw [if_neg c]; split <;> omega
theorem need_in {l : List Pl} (hl : ∀ p ∈ l, PlOk p) {z : Int} (h0 : 0 ≤ z) (h1 : z ≤ 4096) (s : Int) : -1048576 ≤ needS z s l ∧ needS z s l ≤ 16777216 :=
  ⟨((need_le z s l (needS z s l)).1 (Int.le_refl _)).1, (need_le z s l _).2 ⟨by omega, fun p hp _ => (near_in (hl p hp) h0 h1).2⟩⟩
/-- the planes that count at a height. -/
def atZ (l : List Pl) (z : Int) : List Pl := if 0 < z then l else []
def roomR (r : Rc) (l : List Pl) (z : Int) : Rc := ⟨max (r.X0 + needS z 0 (atZ l z)) 0, max (r.Y0 + needS z 2 (atZ l z)) 0, min (r.X1 - needS z 1 (atZ l z)) 1048576, min (r.Y1 - needS z 3 (atZ l z)) 1048576⟩
def roomS (r : Rc) (l : List Pl) (z : Int) : List Rc := if ROk (roomR r l z) then [roomR r l z] else []
theorem room_ok (r : Rc) (l : List Pl) (z : Int) : ∀ q ∈ roomS r l z, ROk q := by
  intro q hq
  unfold roomS at hq
  split at hq
  · rename_i c; rw [List.mem_singleton] at hq; subst hq; exact c
  · cases hq
theorem room_has {r : Rc} {l : List Pl} (hr : ROk r) (hl : ∀ p ∈ l, PlOk p) {z : Int} (h0 : 0 ≤ z) (h1 : z ≤ 4096) (x y : Int) : HasL (roomS r l z) x y ↔ GC x y ∧ z ≤ topH r l x y := by
  have e1 : HasL (roomS r l z) x y ↔ HasR (roomR r l z) x y := by
    unfold roomS HasL
    by_cases c : ROk (roomR r l z)
    · rw [if_pos c]; simp
    · rw [if_neg c]
      constructor
      · rintro ⟨q, hq, _⟩; cases hq
      · intro h; exact absurd h.1 c
  have e2 : HasR (roomR r l z) x y ↔ GC x y ∧ needS z 0 (atZ l z) ≤ x - r.X0 ∧ needS z 1 (atZ l z) ≤ r.X1 - 1 - x ∧ needS z 2 (atZ l z) ≤ y - r.Y0 ∧ needS z 3 (atZ l z) ≤ r.Y1 - 1 - y := by
    unfold HasR GC ROk Span roomR
    simp only []
    omega
  rw [e1, e2]
  constructor
  · rintro ⟨hc, n0, n1, n2, n3⟩
    refine ⟨hc, ?_⟩
    by_cases c : 0 < z
    · have ez : atZ l z = l := if_pos c
      rw [ez] at n0 n1 n2 n3
      suffices h : z ≤ topK r l x y by unfold topH; omega
      refine (topK_le r x y l z).2 ⟨h1, fun p hp => (near_iff hr (hl p hp) hc z).1 ?_⟩
      have hs := (hl p hp).1
      have k : p.s = 0 ∨ p.s = 1 ∨ p.s = 2 ∨ p.s = 3 := by omega
      rcases k with k | k | k | k
      · have := ((need_le z 0 l _).1 n0).2 p hp k; rw [k]; exact this
      · have := ((need_le z 1 l _).1 n1).2 p hp k; rw [k]; exact this
      · have := ((need_le z 2 l _).1 n2).2 p hp k; rw [k]; exact this
      · have := ((need_le z 3 l _).1 n3).2 p hp k; rw [k]; exact this
    · have := (top_in r l x y).1; omega
  · rintro ⟨hc, ht⟩
    have d0 := dist_in hr hc 0
    have d1 := dist_in hr hc 1
    have d2 := dist_in hr hc 2
    have d3 := dist_in hr hc 3
    have key : ∀ s, needS z s (atZ l z) ≤ distP r s x y := fun s => (need_le z s _ _).2 ⟨(dist_in hr hc s).1, fun p hp hs => by
      by_cases c : 0 < z
      · have ez : atZ l z = l := if_pos c
        rw [ez] at hp
        rw [← hs]
        have hm : z ≤ topK r l x y := by unfold topH at ht; omega
        exact (near_iff hr (hl p hp) hc z).2 (((topK_le r x y l z).1 hm).2 p hp)
      · have ez : atZ l z = [] := if_neg c
        rw [ez] at hp; cases hp⟩
    exact ⟨hc, key 0, key 1, key 2, key 3⟩
end Go.Proofs.YtkjblmfmaenllaaGreat
namespace Go.Proofs.YtkjblmfmaenllaaGreat

theorem topPl_mono {r : Rc} {p : Pl} (hp : PlOk p) {x y x' y' : Int} (h : distP r p.s x y ≤ distP r p.s x' y') : topPl r p x y ≤ topPl r p x' y' := by
  unfold topPl
  have := Int.ediv_le_ediv hp.2.2.2.1 (Int.mul_le_mul_of_nonneg_left h hp.2.2.1.1)
  omega
theorem topK_att (r : Rc) (x y : Int) : ∀ l : List Pl, topK r l x y = 4096 ∨ ∃ p ∈ l, topK r l x y = topPl r p x y := by
  intro l
  refine snoc10 (P := fun l => topK r l x y = 4096 ∨ ∃ p ∈ l, topK r l x y = topPl r p x y) (Or.inl rfl) (fun l p ih => ?_) l
  rw [topK_snoc]
  by_cases c : topPl r p x y ≤ topK r l x y
  · exact Or.inr ⟨p, by simp, by omega⟩
  · have e : min (topK r l x y) (topPl r p x y) = topK r l x y := by omega
    rw [e]
    rcases ih with h | ⟨q, hq, h⟩
    · exact Or.inl h
    · exact Or.inr ⟨q, List.mem_append_left _ hq, h⟩
def lowS (r : Rc) (l : List Pl) (a : List Rc) : Int := min (topH r l (boundsR a).1.X0 (boundsR a).1.Y0) (topH r l ((boundsR a).1.X1 - 1) ((boundsR a).1.Y1 - 1))
theorem bounds_is {a : List Rc} (ha : ∀ q ∈ a, ROk q) (hne : a ≠ []) : (boundsR a).2 = true := by
  have h := bounds_of a
  cases c : (boundsR a).2 with
  | true => rfl
  | false =>
    cases a with
    | nil => exact absurd rfl hne
    | cons q a => exact absurd (ha q (by simp)) ((h.2 c).2 q (by simp))
theorem side_cases {p : Pl} (hp : PlOk p) : p.s = 0 ∨ p.s = 1 ∨ p.s = 2 ∨ p.s = 3 := by have := hp.1; omega
theorem dist0 (r : Rc) (x y : Int) : distP r 0 x y = x - r.X0 := rfl
theorem dist1 (r : Rc) (x y : Int) : distP r 1 x y = r.X1 - 1 - x := rfl
theorem dist2 (r : Rc) (x y : Int) : distP r 2 x y = y - r.Y0 := rfl
theorem dist3 (r : Rc) (x y : Int) : distP r 3 x y = r.Y1 - 1 - y := rfl
theorem low_le {r : Rc} {l : List Pl} (hl : ∀ p ∈ l, PlOk p) {a : List Rc} (ha : ∀ q ∈ a, ROk q) {x y : Int} (h : HasL a x y) : lowS r l a ≤ topH r l x y := by
  obtain ⟨q, hq, hqo, q1, q2, q3, q4⟩ := h
  have hb := (bounds_of a).1 (bounds_is ha (fun e => by rw [e] at hq; cases hq))
  have hi := hb.2.1 q hq hqo
  obtain ⟨_, _, i1, i2, i3, i4⟩ := hi
  unfold lowS
  generalize (boundsR a).1 = b at *
  suffices h : min (topK r l b.X0 b.Y0) (topK r l (b.X1 - 1) (b.Y1 - 1)) ≤ topK r l x y by unfold topH; omega
  refine (topK_le r x y l _).2 ⟨by have := ((topK_le r b.X0 b.Y0 l _).1 (Int.le_refl _)).1; omega, fun p hp => ?_⟩
  have k1 := ((topK_le r b.X0 b.Y0 l _).1 (Int.le_refl _)).2 p hp
  have k2 := ((topK_le r (b.X1 - 1) (b.Y1 - 1) l _).1 (Int.le_refl _)).2 p hp
  rcases side_cases (hl p hp) with k | k | k | k
  · have := topPl_mono (r := r) (hl p hp) (x := b.X0) (y := b.Y0) (x' := x) (y' := y) (by rw [k, dist0, dist0]; omega); omega
  · have := topPl_mono (r := r) (hl p hp) (x := b.X1 - 1) (y := b.Y1 - 1) (x' := x) (y' := y) (by rw [k, dist1, dist1]; omega); omega
  · have := topPl_mono (r := r) (hl p hp) (x := b.X0) (y := b.Y0) (x' := x) (y' := y) (by rw [k, dist2, dist2]; omega); omega
  · have := topPl_mono (r := r) (hl p hp) (x := b.X1 - 1) (y := b.Y1 - 1) (x' := x) (y' := y) (by rw [k, dist3, dist3]; omega); omega
theorem low_corner {r : Rc} {l : List Pl} (hl : ∀ p ∈ l, PlOk p) {a : List Rc} {b : Rc} (hb : (∃ q ∈ a, ROk q ∧ q.X0 = b.X0) ∧ (∃ q ∈ a, ROk q ∧ q.X1 = b.X1) ∧ (∃ q ∈ a, ROk q ∧ q.Y0 = b.Y0) ∧ (∃ q ∈ a, ROk q ∧ q.Y1 = b.Y1))
    {X Y : Int} (h1 : b.X0 ≤ X) (h2 : X ≤ b.X1 - 1) (h3 : b.Y0 ≤ Y) (h4 : Y ≤ b.Y1 - 1) : ∃ x y, HasL a x y ∧ topH r l x y ≤ topH r l X Y := by
  obtain ⟨⟨q0, m0, o0, e0⟩, ⟨q1, m1, o1, e1⟩, ⟨q2, m2, o2, e2⟩, q3, m3, o3, e3⟩ := hb
  have mk : ∀ {x y : Int} {p : Pl}, p ∈ l → topK r l X Y = topPl r p X Y → distP r p.s x y ≤ distP r p.s X Y → topH r l x y ≤ topH r l X Y := fun {x y p} hp ht hd => by
    have k1 := ((topK_le r x y l _).1 (Int.le_refl _)).2 p hp
    have k2 := topPl_mono (hl p hp) hd
    unfold topH; omega
  rcases topK_att r X Y l with c | ⟨p, hp, c⟩
  · refine ⟨q0.X0, q0.Y0, ⟨q0, m0, o0, Int.le_refl _, o0.1.2.1, Int.le_refl _, o0.2.2.1⟩, ?_⟩
    have := (top_in r l q0.X0 q0.Y0).2
    unfold topH at *; omega
  · rcases side_cases (hl p hp) with k | k | k | k
    · exact ⟨q0.X0, q0.Y0, ⟨q0, m0, o0, Int.le_refl _, o0.1.2.1, Int.le_refl _, o0.2.2.1⟩, mk hp c (by rw [k, dist0, dist0]; omega)⟩
    · exact ⟨q1.X1 - 1, q1.Y0, ⟨q1, m1, o1, by have := o1.1.2.1; omega, by omega, Int.le_refl _, o1.2.2.1⟩, mk hp c (by rw [k, dist1, dist1]; omega)⟩
    · exact ⟨q2.X0, q2.Y0, ⟨q2, m2, o2, Int.le_refl _, o2.1.2.1, Int.le_refl _, o2.2.2.1⟩, mk hp c (by rw [k, dist2, dist2]; omega)⟩
    · exact ⟨q3.X0, q3.Y1 - 1, ⟨q3, m3, o3, Int.le_refl _, o3.1.2.1, by have := o3.2.2.1; omega, by omega⟩, mk hp c (by rw [k, dist3, dist3]; omega)⟩
theorem low_at {r : Rc} {l : List Pl} (hl : ∀ p ∈ l, PlOk p) {a : List Rc} (ha : ∀ q ∈ a, ROk q) (hne : a ≠ []) : ∃ x y, HasL a x y ∧ topH r l x y ≤ lowS r l a := by
  have hb := (bounds_of a).1 (bounds_is ha hne)
  obtain ⟨ho, _, hb⟩ := hb
  have o1 := ho.1.2.1; have o2 := ho.2.2.1
  unfold lowS
  generalize (boundsR a).1 = b at *
  obtain ⟨x, y, h1, h2⟩ := low_corner (r := r) hl hb (X := b.X0) (Y := b.Y0) (by omega) (by omega) (by omega) (by omega)
  obtain ⟨x', y', h1', h2'⟩ := low_corner (r := r) hl hb (X := b.X1 - 1) (Y := b.Y1 - 1) (by omega) (by omega) (by omega) (by omega)
  by_cases c : topH r l b.X0 b.Y0 ≤ topH r l (b.X1 - 1) (b.Y1 - 1)
  · exact ⟨x, y, h1, by omega⟩
  · exact ⟨x', y', h1', by omega⟩
/-! ### the first cell outside of a room -/
def LexC (x y u v : Int) : Prop := x < u ∨ x = u ∧ y < v
instance (x y u v : Int) : Decidable (LexC x y u v) := by unfold LexC; infer_instance
def LexQ (r q : Rc) : Prop := r.X0 < q.X0 ∨ r.X0 = q.X0 ∧ r.Y0 < q.Y0
theorem lex_rects {x0 x1 : Int} : ∀ t, Even t → Asc t → (rectsOf x0 x1 t).Pairwise LexQ := by
  intro t he
  refine even_ind (P := fun t => Asc t → (rectsOf x0 x1 t).Pairwise LexQ) (fun _ => List.Pairwise.nil) (fun a b t ht ih ha => ?_) t he
  show (⟨x0, a, x1, b⟩ :: rectsOf x0 x1 t).Pairwise LexQ
  rw [List.pairwise_cons]
  refine ⟨fun q hq => ?_, ih ha.2.tail⟩
  obtain ⟨k1, _, k3⟩ := (twos_disj (x0 := x0) (x1 := x1) t ht ha.2.tail).2 q hq
  have := k3 b ha.2.lt
  have hab := ha.1
  exact Or.inr ⟨k1.symm, by show a < q.Y0; omega⟩
theorem lex_form {l : List Rc} (h : IsForm l) : l.Pairwise LexQ := by
  obtain ⟨S, hS, rfl⟩ := h
  revert hS
  induction S with
  | nil => intro _; exact List.Pairwise.nil
  | cons s S ih =>
    intro hS
    have ks := hS.head
    show (rectsOf s.x0 s.x1 s.t ++ flatS S).Pairwise LexQ
    rw [List.pairwise_append]
    refine ⟨lex_rects s.t ks.ev ks.asc, ih hS.tail, fun r hr q hq => ?_⟩
    obtain ⟨u, hu, hq⟩ := List.mem_flatMap.1 hq
    have ku := hS.each u (List.mem_cons_of_mem _ hu)
    have e1 := ((twos_disj (x0 := s.x0) (x1 := s.x1) s.t ks.ev ks.asc).2 r hr).1
    have e2 := ((twos_disj (x0 := u.x0) (x1 := u.x1) u.t ku.ev ku.asc).2 q hq).1
    have := hS.after u hu
    have := ks.x.2.1
    exact Or.inl (by omega)
/-- no cell of a form comes before the corner of its first rectangle. -/
theorem lex_first {q : Rc} {l : List Rc} (h : IsForm (q :: l)) {x y : Int} (hc : HasL (q :: l) x y) : ¬ LexC x y q.X0 q.Y0 := by
  have ho := List.pairwise_cons.1 (lex_form h)
  obtain ⟨p, hp, _, p1, _, p3, _⟩ := hc
  unfold LexC
  rcases List.mem_cons.1 hp with rfl | hp
  · omega
  · have := ho.1 p hp; unfold LexQ at this; omega
/-- the rest of a rectangle outside of a room; its first corner. -/
def restR (q : Rc) (room : List Rc) : List Rc := formO andnot [q] room
def outR (q : Rc) (room : List Rc) : List (Int × Int) := match restR q room with | [] => [] | p :: _ => [(p.X0, p.Y0)]
def outsR (a room : List Rc) : List (Int × Int) := a.flatMap fun q => outR q room
theorem rest_is {q : Rc} {room : List Rc} (hq : ROk q) (hr : ∀ p ∈ room, ROk p) : IsForm (restR q room) ∧ ∀ x y, HasL (restR q room) x y ↔ HasR q x y ∧ ¬ HasL room x y := by
  have h := formO_is (op := andnot) rfl (a := [q]) (b := room) (fun p hp => by rw [List.mem_singleton] at hp; subst hp; exact hq) hr
  refine ⟨h.1, fun x y => ?_⟩
  rw [show restR q room = formO andnot [q] room from rfl, h.2]
  have e1 := hasB_iff [q] x y
  have e2 := hasB_iff room x y
  have e3 : HasL [q] x y ↔ HasR q x y := by unfold HasL; simp
  rw [← e3, ← e1, ← e2]
  cases hasB [q] x y <;> cases hasB room x y <;> simp [andnot]
theorem outs_mem {a room : List Rc} (ha : ∀ q ∈ a, ROk q) (hr : ∀ p ∈ room, ROk p) {x y : Int} (h : (x, y) ∈ outsR a room) : HasL a x y ∧ ¬ HasL room x y := by
  obtain ⟨q, hq, h⟩ := List.mem_flatMap.1 h
  have k := rest_is (ha q hq) hr
  unfold outR at h
  split at h
  · cases h
  · rename_i p R e
    rw [List.mem_singleton] at h
    obtain ⟨rfl, rfl⟩ := Prod.mk.inj h
    rw [e] at k
    have okp := form_ok k.1 p (by simp)
    have hh := (k.2 p.X0 p.Y0).1 ⟨p, by simp, okp, Int.le_refl _, okp.1.2.1, Int.le_refl _, okp.2.2.1⟩
    exact ⟨⟨q, hq, hh.1⟩, hh.2⟩
theorem outs_le {a room : List Rc} (ha : ∀ q ∈ a, ROk q) (hr : ∀ p ∈ room, ROk p) {x y : Int} (h : HasL a x y) (hn : ¬ HasL room x y) : ∃ c ∈ outsR a room, ¬ LexC x y c.1 c.2 := by
  obtain ⟨q, hq, h⟩ := h
  have k := rest_is (ha q hq) hr
  have hh := (k.2 x y).2 ⟨h, hn⟩
  cases e : restR q room with
  | nil => rw [e] at hh; obtain ⟨p, hp, _⟩ := hh; cases hp
  | cons p R =>
    rw [e] at hh k
    exact ⟨(p.X0, p.Y0), List.mem_flatMap.2 ⟨q, hq, by unfold outR; rw [e]; simp⟩, lex_first k.1 hh⟩
/-- the least cell of an area outside of a room. -/
def OutC (a room : List Rc) (x y : Int) : Prop := HasL a x y ∧ ¬ HasL room x y ∧ ∀ u v, HasL a u v → ¬ HasL room u v → ¬ LexC u v x y
theorem outC_of {a room : List Rc} (ha : ∀ q ∈ a, ROk q) (hr : ∀ p ∈ room, ROk p) {x y : Int} (h : (x, y) ∈ outsR a room) (hm : ∀ c ∈ outsR a room, ¬ LexC c.1 c.2 x y) : OutC a room x y := by
  have k := outs_mem ha hr h
  refine ⟨k.1, k.2, fun u v hu hv hl => ?_⟩
  obtain ⟨c, hc, hn⟩ := outs_le ha hr hu hv
  have := hm c hc
  unfold LexC at *; omega
/-! ### the first cube that is not allowed -/
structure P3 where
  x : Int
  y : Int
  z : Int
deriving DecidableEq, Inhabited
theorem P3.eq {a b : P3} (h0 : a.x = b.x) (h1 : a.y = b.y) (h2 : a.z = b.z) : a = b := by
  cases a; cases b; simp at h0 h1 h2; subst h0; subst h1; subst h2; rfl
def z3 : P3 := ⟨0, 0, 0⟩
def Bef (x y z : Int) (p : P3) : Prop := z < p.z ∨ z = p.z ∧ LexC x y p.x p.y
def AllB (r : Rc) (l : List Pl) (S : List Sl) : Prop := ∀ x y z, HasL (secS S z) x y → z < topH r l x y
structure FstC (r : Rc) (l : List Pl) (S : List Sl) (p : P3) : Prop where
  has : HasL (secS S p.z) p.x p.y
  top : topH r l p.x p.y ≤ p.z
  bef : ∀ x y z, HasL (secS S z) x y → Bef x y z p → z < topH r l x y
/-- a cube and whether there is one. -/
def FstP (r : Rc) (l : List Pl) (S : List Sl) (x : P3 × Bool) : Prop := (x.2 = true ∧ FstC r l S x.1) ∨ (x.2 = false ∧ x.1 = z3 ∧ AllB r l S)
theorem FstC.eq {r : Rc} {l : List Pl} {S : List Sl} {p q : P3} (h : FstC r l S p) (k : FstC r l S q) : p = q := by
  have h1 : ¬ Bef p.x p.y p.z q := fun b => by have := k.bef _ _ _ h.has b; have := h.top; omega
  have h2 : ¬ Bef q.x q.y q.z p := fun b => by have := h.bef _ _ _ k.has b; have := k.top; omega
  unfold Bef LexC at h1 h2
  exact P3.eq (by omega) (by omega) (by omega)
theorem FstP.eq {r : Rc} {l : List Pl} {S : List Sl} {x y : P3 × Bool} (h : FstP r l S x) (k : FstP r l S y) : x = y := by
  rcases h with ⟨h1, h2⟩ | ⟨h1, h2, h3⟩ <;> rcases k with ⟨k1, k2⟩ | ⟨k1, k2, k3⟩
  · exact Prod.ext (h2.eq k2) (h1.trans k1.symm)
  · have := k3 _ _ _ h2.has; have := h2.top; omega
  · have := h3 _ _ _ k2.has; have := k2.top; omega
  · exact Prod.ext (h2.trans k2.symm) (h1.trans k1.symm)
theorem FstP.all {r : Rc} {l : List Pl} {S : List Sl} {x : P3 × Bool} (h : FstP r l S x) : x.2 = false ↔ AllB r l S := by
  rcases h with ⟨h1, h2⟩ | ⟨h1, h2, h3⟩
  · rw [h1]
    exact ⟨fun h => (by cases h), fun k => (by have := k _ _ _ h2.has; have := h2.top; omega)⟩
  · exact ⟨fun _ => h3, fun _ => h1⟩
theorem sec_has {S : List Sl} (h : SForm S) {x y z : Int} : HasL (secS S z) x y ↔ ∃ s ∈ S, (s.z0 ≤ z ∧ z < s.z1) ∧ HasL s.ar x y := by
  constructor
  · intro k
    obtain ⟨s, hs, h1, h2, h3⟩ := sec_mem (S := S) (z := z) (fun e => by rw [e] at k; obtain ⟨q, hq, _⟩ := k; cases hq)
    exact ⟨s, hs, ⟨h1, h2⟩, by rw [h3]; exact k⟩
  · rintro ⟨s, hs, ⟨h1, h2⟩, h3⟩
    rw [sec_at h s hs z h1 h2]; exact h3
/-- the slabs ahead of the k-th are allowed. -/
def Dn10 (r : Rc) (l : List Pl) (S : List Sl) (k : Nat) : Prop := ∀ j (h : j < S.length), j < k → ∀ x y z, S[j].z0 ≤ z → z < S[j].z1 → HasL S[j].ar x y → z < topH r l x y
theorem Dn10.zero (r : Rc) (l : List Pl) (S : List Sl) : Dn10 r l S 0 := fun j h hj => absurd hj (Nat.not_lt_zero _)
theorem Dn10.all {r : Rc} {l : List Pl} {S : List Sl} (hS : SForm S) {k : Nat} (h : Dn10 r l S k) (hk : k = S.length) : FstP r l S (z3, false) := by
  refine Or.inr ⟨rfl, rfl, fun x y z hc => ?_⟩
  obtain ⟨s, hs, ⟨h1, h2⟩, h3⟩ := (sec_has hS).1 hc
  obtain ⟨j, hj, rfl⟩ := List.mem_iff_getElem.1 hs
  exact h j hj (by omega) x y z h1 h2 h3
theorem Dn10.step {r : Rc} {l : List Pl} (hl : ∀ p ∈ l, PlOk p) {S : List Sl} (hS : SForm S) {k : Nat} (h : Dn10 r l S k) (hk : k < S.length) (hz : ¬ max S[k].z0 (lowS r l S[k].ar) < S[k].z1) : Dn10 r l S (k + 1) := by
  intro j hj hjk x y z h1 h2 h3
  by_cases e : j < k
  · exact h j hj e x y z h1 h2 h3
  · obtain rfl : j = k := by omega
    have hok := hS.each _ (List.getElem_mem hj)
    have := low_le (r := r) hl (form_ok hok.form) h3
    omega
theorem sform_after : ∀ {S : List Sl}, SForm S → ∀ i j (hi : i < j) (hj : j < S.length), S[i].z1 ≤ S[j].z0 := by
  intro S
  induction S with
  | nil => intro _ i j _ hj; exact absurd hj (by simp)
  | cons s S ih =>
    intro h i j hi hj
    cases j with
    | zero => omega
    | succ j =>
      cases i with
      | zero => exact h.after _ (List.getElem_mem _)
      | succ i => exact ih h.tail i j (by omega) (by simpa using hj)
theorem Dn10.found {r : Rc} {l : List Pl} (hr : ROk r) (hl : ∀ p ∈ l, PlOk p) {S : List Sl} (hS : SForm S) {k : Nat} (h : Dn10 r l S k) (hk : k < S.length) {zz x y : Int} (hzz : zz = max S[k].z0 (lowS r l S[k].ar)) (hz : zz < S[k].z1)
    (hc : OutC S[k].ar (roomS r l (zz + 1)) x y) : FstP r l S (⟨x, y, zz⟩, true) := by
  have hok := hS.each _ (List.getElem_mem hk)
  have hb := hok.h
  have hf := form_ok hok.form
  have z0 : 0 ≤ zz := by have := hb.1; omega
  have z1 : zz + 1 ≤ 4096 := by have := hb.2.2; omega
  have rh := fun u v => room_has hr hl (z := zz + 1) (by omega) z1 u v
  have gc : ∀ {u v}, HasL S[k].ar u v → GC u v := fun {u v} ⟨q, hq, _, q1, q2, q3, q4⟩ => by
    have := hf q hq; unfold ROk Span at this; unfold GC; omega
  refine Or.inl ⟨rfl, ⟨(sec_has hS).2 ⟨S[k], List.getElem_mem hk, ⟨by show S[k].z0 ≤ zz; omega, hz⟩, hc.1⟩, ?_, fun u v w hw hbef => ?_⟩⟩
  · show topH r l x y ≤ zz
    have := hc.2.1
    rw [rh] at this
    have g := gc hc.1
    by_cases c : zz + 1 ≤ topH r l x y
    · exact absurd ⟨g, c⟩ this
    · omega
  · obtain ⟨s, hs, ⟨h1, h2⟩, h3⟩ := (sec_has hS).1 hw
    obtain ⟨j, hj, rfl⟩ := List.mem_iff_getElem.1 hs
    by_cases e : j < k
    · exact h j hj e u v w h1 h2 h3
    · by_cases e2 : k < j
      · have := sform_after hS k j e2 hj
        unfold Bef at hbef; simp only [] at hbef; omega
      · obtain rfl : j = k := by omega
        by_cases e3 : w < zz
        · have := low_le (r := r) hl hf h3; omega
        · have hlex : LexC u v x y := hbef.elim (fun h => absurd h e3) (fun h => h.2)
          have hw0 : w = zz := hbef.elim (fun h => absurd h e3) (fun h => h.1)
          by_cases c : HasL (roomS r l (zz + 1)) u v
          · have := ((rh u v).1 c).2; omega
          · exact absurd hlex (hc.2.2 u v h3 c)
/-- there is a cell outside where the least height is not above. -/
theorem out_some {r : Rc} {l : List Pl} (hr : ROk r) (hl : ∀ p ∈ l, PlOk p) {s : Sl} (hok : SlOk s) {zz : Int} (hzz : zz = max s.z0 (lowS r l s.ar)) (hz : zz < s.z1) : outsR s.ar (roomS r l (zz + 1)) ≠ [] := by
  have hf := form_ok hok.form
  have hb := hok.h
  obtain ⟨x, y, h1, h2⟩ := low_at (r := r) hl hf hok.ne
  obtain ⟨c, hc, _⟩ := outs_le hf (room_ok r l (zz + 1)) h1 (fun h => by
    have := ((room_has hr hl (z := zz + 1) (by have := hb.1; omega) (by have := hb.2.2; omega) x y).1 h).2; omega)
  intro e; rw [e] at hc; cases hc
end Go.Proofs.YtkjblmfmaenllaaGreat
namespace Go.Proofs.YtkjblmfmaenllaaGreat
open Go.RowKit

theorem RRow.some {w : World} {b o : Nat} {l : List Rc} (h : RRow w (Option.some ⟨b, o, none⟩) l) : 0 < l.length → b < w.heap.size ∧ ∀ j (h : j < l.length), w.cell? ⟨b, o + j * 4, none⟩ = some (.int .i64 l[j].X0) ∧ w.cell? ⟨b, o + j * 4 + 1, none⟩ = some (.int .i64 l[j].Y0) ∧ w.cell? ⟨b, o + j * 4 + 2, none⟩ = some (.int .i64 l[j].X1) ∧ w.cell? ⟨b, o + j * 4 + 3, none⟩ = some (.int .i64 l[j].Y1) := fun h0 => by
  obtain ⟨b', o', e, hb, hc⟩ := h h0
  simp only [Option.some.injEq, Addr.mk.injEq, and_true] at e
  obtain ⟨rfl, rfl⟩ := e
  exact ⟨hb, hc⟩
theorem RRow.take {w : World} {A : Option Addr} {l : List Rc} (h : RRow w A l) (n : Nat) : RRow w A (l.take n) := fun h0 => by
  rw [List.length_take] at h0
  obtain ⟨b, o, rfl, hb, hc⟩ := h (by omega)
  exact ⟨b, o, rfl, hb, fun j hj => by rw [List.length_take] at hj; simpa using hc j (by omega)⟩
theorem RRow.drop {w : World} {b o : Nat} {l : List Rc} (h : RRow w (Option.some ⟨b, o, none⟩) l) (n : Nat) : RRow w (Option.some ⟨b, o + n * 4, none⟩) (l.drop n) := fun h0 => by
  rw [List.length_drop] at h0
  obtain ⟨hb, hc⟩ := h.some (by omega)
  refine ⟨b, o + n * 4, rfl, hb, fun j hj => ?_⟩
  rw [List.length_drop] at hj
  have := hc (n + j) (by omega)
  rw [List.getElem_drop, show o + n * 4 + j * 4 = o + (n + j) * 4 by omega]
  exact this
theorem RRow.nil (w : World) (A : Option Addr) : RRow w A [] := fun h => absurd h (by simp)
theorem infoRect : (Tryz.prog.info? 33).map (fun i => (i.zero, i.size, i.bytes)) = some (some (.agg #[.int .i64 0, .int .i64 0, .int .i64 0, .int .i64 0]), 4, 32) := by kernel_rfl
theorem infoEdge : (Tryz.prog.info? 129).map (fun i => (i.zero, i.size, i.bytes)) = some (some (.agg #[.int .i64 0, .int .i64 0, .int .i64 0, .int .i64 0, .int .i64 0]), 5, 40) := by kernel_rfl
/-- a slice's own block is one of another world, too, where that block is. -/
theorem own_stays {w w' : World} {B e size n : Nat} {v : Value} {xs : List Value} (h : w.ownsRow B e size v n xs) (hk : ∀ g, v.ownBlock = some g → w'.heap[g]? = w.heap[g]?) : w'.ownsRow B e size v n xs := by
  obtain ⟨h1, h2⟩ := h
  refine ⟨h1, ?_⟩
  rcases h2 with ⟨rfl, h3⟩ | ⟨g, cap, cur, rfl, hB, hg, h4⟩
  · exact Or.inl ⟨rfl, h3⟩
  · exact Or.inr ⟨g, cap, cur, rfl, hB, by rw [hk g rfl]; exact hg, h4⟩
theorem own_go {w w' : World} {B e size n : Nat} {v : Value} {xs : List Value} (h : w.ownsRow B e size v n xs) (hb : Below w.heap.size w w') : w'.ownsRow B e size v n xs :=
  own_stays h (fun g hg => hb.block g (h.lt g hg).2)
theorem own_base {w : World} {B B' e size n : Nat} {v : Value} {xs : List Value} (h : w.ownsRow B e size v n xs) (hB : B' ≤ B) : w.ownsRow B' e size v n xs := by
  obtain ⟨h1, h2⟩ := h
  refine ⟨h1, ?_⟩
  rcases h2 with h2 | ⟨g, cap, cur, rfl, hB2, h4⟩
  · exact Or.inl h2
  · exact Or.inr ⟨g, cap, cur, rfl, Nat.le_trans hB hB2, h4⟩
theorem set_other (wr : World) (a : Addr) (x : Value) (g : Nat) (h : g ≠ a.block) : (wr.setCell a x).heap[g]? = wr.heap[g]? := by
  simp [World.setCell, Array.getElem?_modify]; intro e; exact absurd e.symm h
def rcells (l : List Rc) : List Value := l.flatMap fun r => [.int .i64 r.X0, .int .i64 r.Y0, .int .i64 r.X1, .int .i64 r.Y1]
theorem rcells_len (l : List Rc) : (rcells l).length = l.length * 4 := by
  induction l with
  | nil => rfl
  | cons r l ih => show (_ :: _ :: _ :: _ :: rcells l).length = _; simp [ih]; omega
theorem rcells_append (l m : List Rc) : rcells (l ++ m) = rcells l ++ rcells m := by simp [rcells]
theorem rcells_at : ∀ (l : List Rc) (j : Nat) (h : j < l.length), (rcells l)[j * 4]? = some (.int .i64 l[j].X0) ∧ (rcells l)[j * 4 + 1]? = some (.int .i64 l[j].Y0) ∧ (rcells l)[j * 4 + 2]? = some (.int .i64 l[j].X1) ∧ (rcells l)[j * 4 + 3]? = some (.int .i64 l[j].Y1) := by
  intro l
  induction l with
  | nil => intro j h; simp at h
  | cons r l ih =>
    intro j h
    cases j with
    | zero => exact ⟨rfl, rfl, rfl, rfl⟩
    | succ j =>
      have := ih j (by simpa using h)
      rw [show (j + 1) * 4 = j * 4 + 1 + 1 + 1 + 1 by omega]
      exact this
theorem rcells_one : ∀ (l : List Rc), ∀ u ∈ rcells l, u.oneCell' = true := by
  intro l u hu
  obtain ⟨r, _, hu⟩ := List.mem_flatMap.1 hu
  simp at hu
  rcases hu with rfl | rfl | rfl | rfl <;> rfl
/-- the cells with one side turned. -/
theorem rcells_set : ∀ (l : List Rc) (j : Nat) (h : j < l.length) (x : Int), (rcells l).set (j * 4 + 2) (.int .i64 x) = rcells (l.set j ⟨l[j].X0, l[j].Y0, x, l[j].Y1⟩) ∧ (rcells l).set (j * 4 + 3) (.int .i64 x) = rcells (l.set j ⟨l[j].X0, l[j].Y0, l[j].X1, x⟩) := by
  intro l
  induction l with
  | nil => intro j h; simp at h
  | cons r l ih =>
    intro j h x
    cases j with
    | zero => exact ⟨rfl, rfl⟩
    | succ j =>
      have := ih j (by simpa using h) x
      rw [show (j + 1) * 4 + 2 = (j * 4 + 2) + 1 + 1 + 1 + 1 by omega, show (j + 1) * 4 + 3 = (j * 4 + 3) + 1 + 1 + 1 + 1 by omega]
      show _ :: _ :: _ :: _ :: (rcells l).set _ _ = _ ∧ _ :: _ :: _ :: _ :: (rcells l).set _ _ = _
      rw [this.1, this.2]
      exact ⟨rfl, rfl⟩
/-- a slice that a call made, as a list of rectangles. -/
theorem own_rects {w : World} {B : Nat} {v : Value} {l : List Rc} (h : w.ownsRow B 33 4 v l.length (rcells l)) :
    ∃ A cap, v = .slice A l.length cap ∧ RRow w A l ∧ l.length ≤ cap ∧ cap ≤ 9223372036854775807 ∧ (0 < l.length → ∃ g, A = some ⟨g, 0, none⟩ ∧ B ≤ g ∧ g < w.heap.size) ∧ (A = none → cap = 0) := by
  have hh := h
  obtain ⟨h1, h2⟩ := h
  rcases h2 with ⟨rfl, h3⟩ | ⟨g, cap, cur, rfl, hB, hg, h4⟩
  · rw [h3]
    exact ⟨none, 0, rfl, fun h => by omega, Nat.le_refl _, by omega, fun h => absurd h (Nat.lt_irrefl _), fun _ => rfl⟩
  · have hlt : g < w.heap.size := by
      rcases Nat.lt_or_ge g w.heap.size with hlt | hge
      · exact hlt
      · rw [Array.getElem?_eq_none hge] at hg; cases hg
    refine ⟨_, cap, rfl, fun h0 => ⟨g, 0, rfl, hlt, fun j hj => ?_⟩, ?_, ?_, fun _ => ⟨g, rfl, hB, hlt⟩, fun h => by cases h⟩
    · have c := fun i (hi : i < l.length * 4) => World.ownsRow.cellAt hh i hi
      obtain ⟨e0, e1, e2, e3⟩ := rcells_at l j hj
      rw [Nat.zero_add]
      exact ⟨(c _ (by omega)).trans e0, (c _ (by omega)).trans e1, (c _ (by omega)).trans e2, (c _ (by omega)).trans e3⟩
    · exact h4.1
    · have := h4.2.1; unfold maxLen at this; omega
end Go.Proofs.YtkjblmfmaenllaaGreat
