/-
  Plain mathematics of exact fractions of bounded size (layer 4): what Make, Compare, Add, Mul, Min, Max, Floor and Ceil come to, as functions on integers, and their laws. No program in this text.
-/
import Derived.Lib.Hide
set_option linter.unusedVariables false
namespace Go.Proofs.Ytlkpebcmdkmfjaa

structure Fr where
  N : Int
  D : Int

theorem Fr.eq {a b : Fr} (h : a.N = b.N) (k : a.D = b.D) : a = b := by cases a; cases b; simp at h k; subst h; subst k; rfl

def FOk (r : Fr) : Prop := 1 ≤ r.D ∧ r.D ≤ 1073741824 ∧ -1073741824 ≤ r.N ∧ r.N ≤ 1073741824 ∧ Nat.gcd r.N.natAbs r.D.natAbs = 1
instance (r : Fr) : Decidable (FOk r) := by unfold FOk; infer_instance
def okB (r : Fr) : Bool := decide (FOk r)
theorem okB_iff (r : Fr) : okB r = true ↔ FOk r := by simp [okB]
theorem okB_no (r : Fr) : okB r = false ↔ ¬ FOk r := by simp [okB]

def zeroF : Fr := ⟨0, 0⟩
/-- the greatest common divisor of the absolute values. -/
def gF (n d : Int) : Nat := Nat.gcd n.natAbs d.natAbs
def mkF (n d : Int) : Fr × Int :=
  if d = 0 then (zeroF, 1) else if 1073741824 < n.natAbs / gF n d ∨ 1073741824 < d.natAbs / gF n d then (zeroF, 3)
  else (⟨if (n < 0 ↔ d < 0) then ((n.natAbs / gF n d : Nat) : Int) else -((n.natAbs / gF n d : Nat) : Int), ((d.natAbs / gF n d : Nat) : Int)⟩, 0)

theorem gF_pos {n d : Int} (hd : d ≠ 0) : 0 < gF n d := Nat.gcd_pos_of_pos_right _ (by omega)

theorem mkF_zero (n : Int) : mkF n 0 = (zeroF, 1) := by simp [mkF]
theorem mkF_err {n d : Int} (h : (mkF n d).2 ≠ 0) : (mkF n d).1 = zeroF := by
  unfold mkF at h ⊢
  split
  · rfl
  · split
    · rfl
    · rename_i h1 h2; rw [if_neg h1, if_neg h2] at h; exact absurd rfl h
theorem mkF_two {n d : Int} (hd : d ≠ 0) : (mkF n d).2 = 0 ∨ mkF n d = (zeroF, 3) := by
  unfold mkF
  rw [if_neg hd]
  split
  · exact .inr rfl
  · exact .inl rfl

theorem mkF_ok {n d : Int} (h : (mkF n d).2 = 0) : FOk (mkF n d).1 ∧ d ≠ 0 ∧ (mkF n d).1.N * d = n * (mkF n d).1.D := by
  by_cases hd : d = 0
  · subst hd; rw [mkF_zero] at h; cases h
  · have hg := gF_pos (n := n) hd
    have hp : gF n d ∣ n.natAbs := Nat.gcd_dvd_left _ _
    have hq : gF n d ∣ d.natAbs := Nat.gcd_dvd_right _ _
    have hco : Nat.Coprime (n.natAbs / gF n d) (d.natAbs / gF n d) := Nat.coprime_div_gcd_div_gcd hg
    unfold mkF at h ⊢
    rw [if_neg hd] at h ⊢
    by_cases hbig : 1073741824 < n.natAbs / gF n d ∨ 1073741824 < d.natAbs / gF n d
    · rw [if_pos hbig] at h; cases h
    · rw [if_neg hbig]
      obtain ⟨p, hp⟩ := hp
      obtain ⟨q, hq⟩ := hq
      have ep : n.natAbs / gF n d = p := by rw [hp, Nat.mul_div_cancel_left _ hg]
      have eq : d.natAbs / gF n d = q := by rw [hq, Nat.mul_div_cancel_left _ hg]
      rw [ep, eq] at hco hbig ⊢
      generalize gF n d = g at *
      have hq0 : 0 < q := by
        rcases Nat.eq_zero_or_pos q with h0 | h0
        · subst h0; omega
        · exact h0
      have hmul : ∀ x y : Nat, ((x * y : Nat) : Int) = (x : Int) * (y : Int) := fun x y => by simp
      have ap : (n.natAbs : Int) = (g : Int) * (p : Int) := by rw [hp]; exact hmul _ _
      have aq : (d.natAbs : Int) = (g : Int) * (q : Int) := by rw [hq]; exact hmul _ _
      refine ⟨⟨by simp only []; omega, by simp only []; omega, by simp only []; split <;> omega, by simp only []; split <;> omega, ?_⟩, hd, ?_⟩
      · simp only []
        split
        · exact hco
        · rw [Int.natAbs_neg]; exact hco
      · simp only []
        by_cases hn : n < 0 <;> by_cases hdn : d < 0
        · rw [if_pos ⟨fun _ => hdn, fun _ => hn⟩]
          have e1 : n = -((g : Int) * p) := by omega
          have e2 : d = -((g : Int) * q) := by omega
          rw [e1, e2]; grind
        · rw [if_neg (fun h => hdn (h.1 hn))]
          have e1 : n = -((g : Int) * p) := by omega
          have e2 : d = ((g : Int) * q) := by omega
          rw [e1, e2]; grind
        · rw [if_neg (fun h => hn (h.2 hdn))]
          have e1 : n = ((g : Int) * p) := by omega
          have e2 : d = -((g : Int) * q) := by omega
          rw [e1, e2]; grind
        · rw [if_pos ⟨fun h => absurd h hn, fun h => absurd h hdn⟩]
          have e1 : n = ((g : Int) * p) := by omega
          have e2 : d = ((g : Int) * q) := by omega
          rw [e1, e2]; grind

theorem mkF_of {r : Fr} (hr : FOk r) {n d : Int} (hd : d ≠ 0) (h : r.N * d = n * r.D) : mkF n d = (r, 0) := by
  obtain ⟨h1, h2, h3, h4, hco⟩ := hr
  have ha : r.N.natAbs * d.natAbs = n.natAbs * r.D.natAbs := by rw [← Int.natAbs_mul, ← Int.natAbs_mul, h]
  have hdv : r.D.natAbs ∣ d.natAbs := by
    have : r.D.natAbs ∣ r.N.natAbs * d.natAbs := ⟨n.natAbs, by rw [ha, Nat.mul_comm]⟩
    exact Nat.Coprime.dvd_of_dvd_mul_left (Nat.Coprime.symm hco) this
  obtain ⟨k, hk⟩ := hdv
  have hD0 : 0 < r.D.natAbs := by omega
  have hk0 : 0 < k := by
    rcases Nat.eq_zero_or_pos k with h0 | h0
    · subst h0; omega
    · exact h0
  have hn : n.natAbs = r.N.natAbs * k := by
    have : n.natAbs * r.D.natAbs = (r.N.natAbs * k) * r.D.natAbs := by rw [← ha, hk]; grind
    exact Nat.eq_of_mul_eq_mul_right hD0 this
  have hg : gF n d = k := by
    unfold gF
    rw [hn, hk, Nat.mul_comm r.N.natAbs k, Nat.mul_comm r.D.natAbs k, Nat.gcd_mul_left, hco, Nat.mul_one]
  have ep : n.natAbs / gF n d = r.N.natAbs := by rw [hg, hn, Nat.mul_div_cancel _ hk0]
  have eq : d.natAbs / gF n d = r.D.natAbs := by rw [hg, hk, Nat.mul_div_cancel _ hk0]
  unfold mkF
  rw [if_neg hd, ep, eq, if_neg (by omega)]
  have hDD : ((r.D.natAbs : Nat) : Int) = r.D := by omega
  rw [hDD]
  have hN : (if (n < 0 ↔ d < 0) then ((r.N.natAbs : Nat) : Int) else -((r.N.natAbs : Nat) : Int)) = r.N := by
    rcases Int.lt_trichotomy r.N 0 with hs | hs | hs
    · have hiff : ¬ (n < 0 ↔ d < 0) := by
        intro hi
        by_cases hdn : d < 0
        · have hn1 := hi.2 hdn
          have p1 : 0 < r.N * d := Int.mul_pos_of_neg_of_neg hs hdn
          have p2 : n * r.D < 0 := Int.mul_neg_of_neg_of_pos hn1 (by omega)
          omega
        · have hn1 : ¬ n < 0 := fun h => hdn (hi.1 h)
          have p1 : r.N * d < 0 := Int.mul_neg_of_neg_of_pos hs (by omega)
          have p2 : 0 ≤ n * r.D := Int.mul_nonneg (by omega) (by omega)
          omega
      rw [if_neg hiff]; omega
    · rw [hs]; simp
    · have hiff : (n < 0 ↔ d < 0) := by
        constructor
        · intro hn1
          have p2 : n * r.D < 0 := Int.mul_neg_of_neg_of_pos hn1 (by omega)
          by_cases hdn : d < 0
          · exact hdn
          · have p1 : 0 ≤ r.N * d := Int.mul_nonneg (by omega) (by omega)
            omega
        · intro hdn
          have p1 : r.N * d < 0 := Int.mul_neg_of_pos_of_neg hs hdn
          by_cases hn1 : n < 0
          · exact hn1
          · have p2 : 0 ≤ n * r.D := Int.mul_nonneg (by omega) (by omega)
            omega
      rw [if_pos hiff]; omega
  rw [hN]

theorem mkF_self {r : Fr} (h : FOk r) : mkF r.N r.D = (r, 0) := mkF_of h (by have := h.1; omega) rfl
theorem right_mk (r : Fr) : okB r = true ↔ (mkF r.N r.D).2 = 0 ∧ (mkF r.N r.D).1 = r := by
  rw [okB_iff]
  constructor
  · intro h; rw [mkF_self h]; exact ⟨rfl, rfl⟩
  · intro ⟨h1, h2⟩; have := (mkF_ok h1).1; rwa [h2] at this

/-- fractions with the same value become the same. -/
theorem mkF_same {n d n' d' : Int} (hd : d ≠ 0) (hd' : d' ≠ 0) (h : n * d' = n' * d) : mkF n d = mkF n' d' := by
  have key : ∀ {a b a' b' : Int}, b ≠ 0 → b' ≠ 0 → a * b' = a' * b → (mkF a b).2 = 0 → mkF a' b' = mkF a b := fun {a b a' b'} hb hb' e h0 => by
    obtain ⟨k1, _, k2⟩ := mkF_ok h0
    have : mkF a' b' = ((mkF a b).1, 0) := mkF_of k1 hb' (by
      have : ((mkF a b).1.N * b') * b = (a' * (mkF a b).1.D) * b := by grind
      exact Int.eq_of_mul_eq_mul_right hb this)
    rw [this]; exact Prod.ext rfl h0.symm
  rcases mkF_two (n := n) hd with h1 | h1
  · exact (key hd hd' h h1).symm
  · rcases mkF_two (n := n') hd' with h2 | h2
    · exact key hd' hd h.symm h2
    · rw [h1, h2]

/-- the valid fraction r has the value p/q. -/
def FVal (r : Fr) (p q : Int) : Prop := FOk r ∧ 0 < q ∧ r.N * q = p * r.D
theorem FVal.self {r : Fr} (h : FOk r) : FVal r r.N r.D := ⟨h, by have := h.1; omega, rfl⟩
theorem FVal.mk {r : Fr} {p q : Int} (h : FVal r p q) : mkF p q = (r, 0) := mkF_of h.1 (by have := h.2.1; omega) h.2.2
theorem FVal.uniq {r s : Fr} {p q p' q' : Int} (h : FVal r p q) (k : FVal s p' q') (e : p * q' = p' * q) : r = s := by
  have := h.mk.symm.trans ((mkF_same (by have := h.2.1; omega) (by have := k.2.1; omega) e).trans k.mk)
  exact congrArg Prod.fst this
theorem FVal.to {r : Fr} {p q p' q' : Int} (h : FVal r p q) (hq : 0 < q') (e : p * q' = p' * q) : FVal r p' q' :=
  ⟨h.1, hq, by
    have hq0 := h.2.1
    have h2 := h.2.2
    have : (r.N * q') * q = (p' * r.D) * q := by grind
    exact Int.eq_of_mul_eq_mul_right (by omega) this⟩
theorem FVal.of_mk {r : Fr} {p q : Int} (hq : 0 < q) (h : mkF p q = (r, 0)) : FVal r p q := by
  have := mkF_ok (n := p) (d := q) (by rw [h])
  rw [h] at this
  exact ⟨this.1, hq, this.2.2⟩

def addF (a b : Fr) : Fr × Int := if okB a && okB b then mkF (a.N * b.D + b.N * a.D) (a.D * b.D) else (zeroF, 1)
def mulF (a b : Fr) : Fr × Int := if okB a && okB b then mkF (a.N * b.N) (a.D * b.D) else (zeroF, 1)
def cmpI (x y : Int) : Int := if x < y then -1 else if y < x then 1 else 0
def cmpF (a b : Fr) : Int := if okB a && okB b then cmpI (a.N * b.D) (b.N * a.D) else 0
def minF (a b : Fr) : Fr := if okB a && okB b then (if cmpF b a < 0 then b else a) else zeroF
def maxF (a b : Fr) : Fr := if okB a && okB b then (if 0 < cmpF b a then b else a) else zeroF
def floorF (r : Fr) : Int := if okB r then r.N / r.D else 0
def ceilF (r : Fr) : Int := if okB r then -((-r.N) / r.D) else 0

theorem addF_ok {a b : Fr} (ha : FOk a) (hb : FOk b) : addF a b = mkF (a.N * b.D + b.N * a.D) (a.D * b.D) := by
  unfold addF; rw [(okB_iff a).2 ha, (okB_iff b).2 hb]; rfl
theorem mulF_ok {a b : Fr} (ha : FOk a) (hb : FOk b) : mulF a b = mkF (a.N * b.N) (a.D * b.D) := by
  unfold mulF; rw [(okB_iff a).2 ha, (okB_iff b).2 hb]; rfl
theorem cmpF_ok {a b : Fr} (ha : FOk a) (hb : FOk b) : cmpF a b = cmpI (a.N * b.D) (b.N * a.D) := by
  unfold cmpF; rw [(okB_iff a).2 ha, (okB_iff b).2 hb]; rfl
theorem D_pos {a b : Fr} (ha : FOk a) (hb : FOk b) : 0 < a.D * b.D := Int.mul_pos (by have := ha.1; omega) (by have := hb.1; omega)
theorem addF_two {a b : Fr} (ha : FOk a) (hb : FOk b) : (addF a b).2 = 0 ∨ addF a b = (zeroF, 3) := by
  rw [addF_ok ha hb]; exact mkF_two (by have := D_pos ha hb; omega)
theorem mulF_two {a b : Fr} (ha : FOk a) (hb : FOk b) : (mulF a b).2 = 0 ∨ mulF a b = (zeroF, 3) := by
  rw [mulF_ok ha hb]; exact mkF_two (by have := D_pos ha hb; omega)

theorem FVal.add {x y : Fr} {p q s t : Int} (h : FVal x p q) (k : FVal y s t) (e : (addF x y).2 = 0) : FVal (addF x y).1 (p * t + s * q) (q * t) := by
  have hxy := D_pos h.1 k.1
  rw [addF_ok h.1 k.1] at e ⊢
  have h1 : FVal (mkF (x.N * y.D + y.N * x.D) (x.D * y.D)).1 (x.N * y.D + y.N * x.D) (x.D * y.D) := FVal.of_mk hxy (Prod.ext rfl e)
  refine h1.to (Int.mul_pos h.2.1 k.2.1) ?_
  have e1 := h.2.2; have e2 := k.2.2
  grind
theorem FVal.mul {x y : Fr} {p q s t : Int} (h : FVal x p q) (k : FVal y s t) (e : (mulF x y).2 = 0) : FVal (mulF x y).1 (p * s) (q * t) := by
  have hxy := D_pos h.1 k.1
  rw [mulF_ok h.1 k.1] at e ⊢
  have h1 : FVal (mkF (x.N * y.N) (x.D * y.D)).1 (x.N * y.N) (x.D * y.D) := FVal.of_mk hxy (Prod.ext rfl e)
  refine h1.to (Int.mul_pos h.2.1 k.2.1) ?_
  have e1 := h.2.2; have e2 := k.2.2
  grind

/- the laws of sums and products -/
theorem add_comm' {a b : Fr} (ha : FOk a) (hb : FOk b) : addF a b = addF b a := by
  rw [addF_ok ha hb, addF_ok hb ha, Int.add_comm, Int.mul_comm a.D]
theorem mul_comm' {a b : Fr} (ha : FOk a) (hb : FOk b) : mulF a b = mulF b a := by
  rw [mulF_ok ha hb, mulF_ok hb ha, Int.mul_comm a.N, Int.mul_comm a.D]
def zF : Fr := ⟨0, 1⟩
def oF : Fr := ⟨1, 1⟩
theorem zF_ok : FOk zF := by decide
theorem oF_ok : FOk oF := by decide
theorem add_zero' {a : Fr} (ha : FOk a) : addF a zF = (a, 0) := by
  rw [addF_ok ha zF_ok]
  exact mkF_of ha (by have := D_pos ha zF_ok; omega) (by simp [zF])
theorem mul_one' {a : Fr} (ha : FOk a) : mulF a oF = (a, 0) := by
  rw [mulF_ok ha oF_ok]
  exact mkF_of ha (by have := D_pos ha oF_ok; omega) (by simp [oF])
theorem neg_ok {a : Fr} (ha : FOk a) : FOk ⟨-a.N, a.D⟩ := by
  obtain ⟨h1, h2, h3, h4, h5⟩ := ha
  exact ⟨h1, h2, by simp only []; omega, by simp only []; omega, by simp only [Int.natAbs_neg]; exact h5⟩
theorem add_neg' {a : Fr} (ha : FOk a) : addF a ⟨-a.N, a.D⟩ = (zF, 0) := by
  rw [addF_ok ha (neg_ok ha)]
  exact mkF_of zF_ok (by have := D_pos ha ha; simp only []; omega) (by simp only [zF]; grind)
theorem add_assoc' {a b c : Fr} (ha : FOk a) (hb : FOk b) (hc : FOk c) (h1 : (addF a b).2 = 0) (h2 : (addF b c).2 = 0) (h3 : (addF (addF a b).1 c).2 = 0) (h4 : (addF a (addF b c).1).2 = 0) :
    (addF (addF a b).1 c).1 = (addF a (addF b c).1).1 :=
  (((FVal.self ha).add (FVal.self hb) h1).add (FVal.self hc) h3).uniq ((FVal.self ha).add ((FVal.self hb).add (FVal.self hc) h2) h4) (by grind)
theorem mul_assoc' {a b c : Fr} (ha : FOk a) (hb : FOk b) (hc : FOk c) (h1 : (mulF a b).2 = 0) (h2 : (mulF b c).2 = 0) (h3 : (mulF (mulF a b).1 c).2 = 0) (h4 : (mulF a (mulF b c).1).2 = 0) :
    (mulF (mulF a b).1 c).1 = (mulF a (mulF b c).1).1 :=
  (((FVal.self ha).mul (FVal.self hb) h1).mul (FVal.self hc) h3).uniq ((FVal.self ha).mul ((FVal.self hb).mul (FVal.self hc) h2) h4) (by grind)
theorem distr' {a b c : Fr} (ha : FOk a) (hb : FOk b) (hc : FOk c) (h1 : (mulF a b).2 = 0) (h2 : (addF b c).2 = 0) (h3 : (mulF a c).2 = 0) (h4 : (addF (mulF a b).1 (mulF a c).1).2 = 0) (h5 : (mulF a (addF b c).1).2 = 0) :
    (addF (mulF a b).1 (mulF a c).1).1 = (mulF a (addF b c).1).1 :=
  (((FVal.self ha).mul (FVal.self hb) h1).add ((FVal.self ha).mul (FVal.self hc) h3) h4).uniq ((FVal.self ha).mul ((FVal.self hb).add (FVal.self hc) h2) h5) (by grind)

/- the order -/
theorem cmpI_neg (x y : Int) : cmpI y x = -cmpI x y := by unfold cmpI; split <;> split <;> (try split) <;> omega
theorem cmpI_zero (x y : Int) : cmpI x y = 0 ↔ x = y := by unfold cmpI; split <;> (try split) <;> omega
theorem cmpI_le (x y : Int) : cmpI x y ≤ 0 ↔ x ≤ y := by unfold cmpI; split <;> (try split) <;> omega
theorem cmpI_lt (x y : Int) : cmpI x y < 0 ↔ x < y := by unfold cmpI; split <;> (try split) <;> omega
theorem cmpI_gt (x y : Int) : 0 < cmpI x y ↔ y < x := by unfold cmpI; split <;> (try split) <;> omega
theorem cmpI_bd (x y : Int) : -1 ≤ cmpI x y ∧ cmpI x y ≤ 1 := by unfold cmpI; split <;> (try split) <;> omega
theorem cmpI_scale {x y x' y' k k' : Int} (hk : 0 < k) (hk' : 0 < k') (h : (x - y) * k = (x' - y') * k') : cmpI x y = cmpI x' y' := by
  rcases Int.lt_trichotomy x y with h1 | h1 | h1
  · have : (x - y) * k < 0 := Int.mul_neg_of_neg_of_pos (by omega) hk
    have h2 : x' - y' < 0 := by
      rcases Int.lt_or_le (x' - y') 0 with h2 | h2
      · exact h2
      · have := Int.mul_nonneg h2 (Int.le_of_lt hk'); omega
    unfold cmpI; rw [if_pos h1, if_pos (by omega)]
  · subst h1
    have : (x' - y') * k' = 0 := by rw [← h]; simp
    have h2 : x' - y' = 0 := by
      rcases Int.mul_eq_zero.1 this with h2 | h2
      · exact h2
      · omega
    rw [(cmpI_zero x x).2 rfl, (cmpI_zero x' y').2 (by omega)]
  · have : 0 < (x - y) * k := Int.mul_pos (by omega) hk
    have h2 : 0 < x' - y' := by
      rcases Int.lt_or_le 0 (x' - y') with h2 | h2
      · exact h2
      · have := Int.mul_nonpos_of_nonpos_of_nonneg h2 (Int.le_of_lt hk'); omega
    unfold cmpI; rw [if_neg (by omega), if_pos h1, if_neg (by omega), if_pos (by omega)]

theorem cmp_zero' {a b : Fr} (ha : FOk a) (hb : FOk b) : cmpF a b = 0 ↔ a = b := by
  rw [cmpF_ok ha hb, cmpI_zero]
  constructor
  · intro h; exact (FVal.self ha).uniq (FVal.self hb) h
  · rintro rfl; rfl
theorem cmp_neg' {a b : Fr} (ha : FOk a) (hb : FOk b) : cmpF b a = -cmpF a b := by
  rw [cmpF_ok ha hb, cmpF_ok hb ha, cmpI_neg]
theorem cmp_bd' (a b : Fr) : -1 ≤ cmpF a b ∧ cmpF a b ≤ 1 := by
  unfold cmpF; split
  · exact cmpI_bd _ _
  · omega
theorem cmp_trans' {a b c : Fr} (ha : FOk a) (hb : FOk b) (hc : FOk c) (h1 : cmpF a b ≤ 0) (h2 : cmpF b c ≤ 0) : cmpF a c ≤ 0 := by
  rw [cmpF_ok ha hb, cmpI_le] at h1
  rw [cmpF_ok hb hc, cmpI_le] at h2
  rw [cmpF_ok ha hc, cmpI_le]
  have pa := ha.1; have pb := hb.1; have pc := hc.1
  have e1 := Int.mul_le_mul_of_nonneg_right h1 (show (0 : Int) ≤ c.D by omega)
  have e2 := Int.mul_le_mul_of_nonneg_right h2 (show (0 : Int) ≤ a.D by omega)
  have e3 : (a.N * c.D) * b.D ≤ (c.N * a.D) * b.D := by
    have x1 : (a.N * c.D) * b.D = a.N * b.D * c.D := by grind
    have x2 : (c.N * a.D) * b.D = c.N * b.D * a.D := by grind
    have x3 : b.N * a.D * c.D = b.N * c.D * a.D := by grind
    omega
  exact Int.le_of_mul_le_mul_right e3 (by omega)
theorem min_max' {a b : Fr} (ha : FOk a) (hb : FOk b) : (minF a b = a ∧ maxF a b = b ∧ cmpF a b ≤ 0) ∨ (minF a b = b ∧ maxF a b = a ∧ cmpF b a ≤ 0) := by
  have e : (okB a && okB b) = true := by rw [(okB_iff a).2 ha, (okB_iff b).2 hb]; rfl
  have hn := cmp_neg' ha hb
  unfold minF maxF
  rw [if_pos e, if_pos e]
  rcases Int.lt_trichotomy (cmpF b a) 0 with h | h | h
  · rw [if_pos h, if_neg (by omega)]; exact .inr ⟨rfl, rfl, by omega⟩
  · rw [if_neg (by omega), if_neg (by omega)]
    have := (cmp_zero' hb ha).1 h
    subst this
    exact .inl ⟨rfl, rfl, by omega⟩
  · rw [if_neg (by omega), if_pos h]; exact .inl ⟨rfl, rfl, by omega⟩
theorem cmp_add' {a b c : Fr} (ha : FOk a) (hb : FOk b) (hc : FOk c) (h1 : (addF a c).2 = 0) (h2 : (addF b c).2 = 0) : cmpF (addF a c).1 (addF b c).1 = cmpF a b := by
  have v1 := (FVal.self ha).add (FVal.self hc) h1
  have v2 := (FVal.self hb).add (FVal.self hc) h2
  rw [cmpF_ok v1.1 v2.1, cmpF_ok ha hb]
  generalize (addF a c).1 = s at *
  generalize (addF b c).1 = t at *
  obtain ⟨os, ps, es⟩ := v1
  obtain ⟨ot, pt, et⟩ := v2
  have pa := ha.1; have pb := hb.1; have pc := hc.1
  have qs := os.1; have qt := ot.1
  refine cmpI_scale (k := (a.D * c.D) * (b.D * c.D)) (k' := s.D * t.D * (c.D * c.D)) (Int.mul_pos ps pt) (Int.mul_pos (Int.mul_pos (by omega) (by omega)) (Int.mul_pos (by omega) (by omega))) ?_
  grind

/- rounding -/
theorem floor_bd {r : Fr} (h : FOk r) : -1073741824 ≤ floorF r ∧ floorF r ≤ 1073741824 ∧ floorF r * r.D ≤ r.N ∧ r.N < (floorF r + 1) * r.D := by
  have e : floorF r = r.N / r.D := by unfold floorF; rw [(okB_iff r).2 h]; rfl
  obtain ⟨h1, h2, h3, h4, _⟩ := h
  have m1 := Int.ediv_mul_le r.N (show r.D ≠ 0 by omega)
  have m2 := Int.lt_ediv_add_one_mul_self r.N (show 0 < r.D by omega)
  rw [e]
  refine ⟨?_, ?_, m1, m2⟩
  · apply Int.le_ediv_of_mul_le (by omega)
    have := Int.mul_le_mul_of_nonneg_left h1 (show (0 : Int) ≤ 1073741824 by omega)
    omega
  · exact Int.ediv_le_of_le_mul (by omega) (by
      have := Int.mul_le_mul_of_nonneg_left h1 (show (0 : Int) ≤ 1073741824 by omega)
      omega)
theorem ceil_one {r : Fr} (h : FOk r) (hd : r.D = 1) : ceilF r = floorF r ∧ floorF r = r.N := by
  unfold ceilF floorF; rw [(okB_iff r).2 h]; simp [hd]
theorem ceil_more {r : Fr} (h : FOk r) (hd : r.D ≠ 1) : ceilF r = floorF r + 1 := by
  have hf := floor_bd h
  have e : floorF r = r.N / r.D := by unfold floorF; rw [(okB_iff r).2 h]; rfl
  have e2 : ceilF r = -((-r.N) / r.D) := by unfold ceilF; rw [(okB_iff r).2 h]; rfl
  obtain ⟨h1, h2, h3, h4, hco⟩ := h
  have hne : floorF r * r.D ≠ r.N := by
    intro hh
    have hdv : r.D.natAbs ∣ r.N.natAbs := Int.natAbs_dvd_natAbs.2 ⟨floorF r, by rw [← hh, Int.mul_comm]⟩
    have := Nat.gcd_eq_right hdv
    rw [hco] at this
    omega
  have m1 := Int.ediv_mul_le (-r.N) (show r.D ≠ 0 by omega)
  have m2 := Int.lt_ediv_add_one_mul_self (-r.N) (show 0 < r.D by omega)
  rw [e2]
  generalize (-r.N) / r.D = y at *
  generalize floorF r = x at *
  have d1 : (x + 1) * r.D = x * r.D + r.D := by grind
  have d2 : (y + 1) * r.D = y * r.D + r.D := by grind
  rw [d1] at hf
  rw [d2] at m2
  have d3 : (x + y) * r.D = x * r.D + y * r.D := by grind
  have u1 : (x + y) * r.D < 0 := by omega
  have u2 : -2 * r.D < (x + y) * r.D := by omega
  have w1 : x + y < 0 := by
    rcases Int.lt_or_le (x + y) 0 with q | q
    · exact q
    · have := Int.mul_nonneg q (show (0 : Int) ≤ r.D by omega); omega
  have w2 : -2 < x + y := Int.lt_of_mul_lt_mul_right u2 (by omega)
  omega

/- Make of small numbers -/
theorem mkF_small {n d : Int} (hn : n.natAbs ≤ 1073741824) (hd : d.natAbs ≤ 1073741824) (h0 : d ≠ 0) : (mkF n d).2 = 0 := by
  unfold mkF
  rw [if_neg h0]
  have h1 := Nat.div_le_self n.natAbs (gF n d)
  have h2 := Nat.div_le_self d.natAbs (gF n d)
  rw [if_neg (by omega)]
theorem mkF_scale {n d k : Int} (hd : d ≠ 0) (hk : k ≠ 0) : mkF (n * k) (d * k) = mkF n d :=
  mkF_same (by intro h; rcases Int.mul_eq_zero.1 h with h | h <;> contradiction) hd (by grind)

/-- a sum whose value has few enough parts of a common denominator exists. -/
theorem add_common {x y : Fr} {p s : Int} (h : FVal x p 720720) (k : FVal y s 720720) (hb : (p + s).natAbs ≤ 1073741824) : (addF x y).2 = 0 ∧ FVal (addF x y).1 (p + s) 720720 := by
  have hxy := D_pos h.1 k.1
  have he : addF x y = mkF (p + s) 720720 := by
    rw [addF_ok h.1 k.1]
    refine mkF_same (by omega) (by omega) ?_
    have e1 := h.2.2; have e2 := k.2.2
    grind
  have h0 := mkF_small hb (show (720720 : Int).natAbs ≤ 1073741824 by decide) (by decide)
  rw [he]
  exact ⟨h0, FVal.of_mk (by decide) (Prod.ext rfl h0)⟩
end Go.Proofs.Ytlkpebcmdkmfjaa
