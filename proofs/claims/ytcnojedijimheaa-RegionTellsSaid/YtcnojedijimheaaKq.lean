/-
  Plain mathematics of parts (2): neighbors, connected lists, forms of parts.
-/
import Derived.Test.YtcnojedijimheaaKp
import Derived.Test.YtcnojedijimheaaIa
set_option linter.unusedVariables false
namespace Go.Proofs.Ytcnojedijimheaa

/-- the same cell, or one beside it. -/
def Nbr (x y u v : Int) : Prop := (x = u ∧ (y = v ∨ y = v + 1 ∨ v = y + 1)) ∨ (y = v ∧ (x = u + 1 ∨ u = x + 1))
theorem nbr_symm {x y u v : Int} (h : Nbr x y u v) : Nbr u v x y := by unfold Nbr at *; omega
/-- a common cell, or cells beside one another. -/
def NearP (a b : Rc) : Prop := (0 < min a.X1 b.X1 - max a.X0 b.X0 ∧ 0 ≤ min a.Y1 b.Y1 - max a.Y0 b.Y0) ∨ (0 ≤ min a.X1 b.X1 - max a.X0 b.X0 ∧ 0 < min a.Y1 b.Y1 - max a.Y0 b.Y0)
theorem near_of_cells {a b : Rc} {x y u v : Int} (h1 : HasR a x y) (h2 : HasR b u v) (h : Nbr x y u v) : NearP a b := by
  obtain ⟨_, p1, p2, p3, p4⟩ := h1
  obtain ⟨_, q1, q2, q3, q4⟩ := h2
  unfold Nbr at h
  unfold NearP
  omega
theorem near_has {a b : Rc} (ha : ROk a) (hb : ROk b) (h : NearP a b) : ∃ x y u v, HasR a x y ∧ HasR b u v ∧ Nbr x y u v := by
  have ha' := ha; have hb' := hb
  obtain ⟨⟨a1, a2, a3⟩, a4, a5, a6⟩ := ha
  obtain ⟨⟨b1, b2, b3⟩, b4, b5, b6⟩ := hb
  unfold NearP at h
  have mk : ∀ x y u v : Int, (a.X0 ≤ x ∧ x < a.X1 ∧ a.Y0 ≤ y ∧ y < a.Y1) → (b.X0 ≤ u ∧ u < b.X1 ∧ b.Y0 ≤ v ∧ v < b.Y1) → Nbr x y u v → ∃ x y u v, HasR a x y ∧ HasR b u v ∧ Nbr x y u v :=
    fun x y u v h1 h2 h3 => ⟨x, y, u, v, ⟨ha', h1⟩, ⟨hb', h2⟩, h3⟩
  by_cases cx : max a.X0 b.X0 < min a.X1 b.X1
  · by_cases cy : max a.Y0 b.Y0 < min a.Y1 b.Y1
    · exact mk (max a.X0 b.X0) (max a.Y0 b.Y0) (max a.X0 b.X0) (max a.Y0 b.Y0) (by omega) (by omega) (Or.inl ⟨rfl, Or.inl rfl⟩)
    · by_cases c : a.Y1 ≤ b.Y0
      · exact mk (max a.X0 b.X0) (a.Y1 - 1) (max a.X0 b.X0) b.Y0 (by omega) (by omega) (Or.inl ⟨rfl, by omega⟩)
      · exact mk (max a.X0 b.X0) a.Y0 (max a.X0 b.X0) (b.Y1 - 1) (by omega) (by omega) (Or.inl ⟨rfl, by omega⟩)
  · by_cases c : a.X1 ≤ b.X0
    · exact mk (a.X1 - 1) (max a.Y0 b.Y0) b.X0 (max a.Y0 b.Y0) (by omega) (by omega) (Or.inr ⟨rfl, by omega⟩)
    · exact mk a.X0 (max a.Y0 b.Y0) (b.X1 - 1) (max a.Y0 b.Y0) (by omega) (by omega) (Or.inr ⟨rfl, by omega⟩)
theorem ap_cases (a b c d : Int) : (b ≤ c ∧ apartI a b c d = c - b + 1) ∨ (¬ b ≤ c ∧ d ≤ a ∧ apartI a b c d = a - d + 1) ∨ (¬ b ≤ c ∧ ¬ d ≤ a ∧ apartI a b c d = 0) := by
  unfold apartI
  by_cases h1 : b ≤ c
  · exact Or.inl ⟨h1, if_pos h1⟩
  · by_cases h2 : d ≤ a
    · exact Or.inr (Or.inl ⟨h1, h2, by rw [if_neg h1, if_pos h2]⟩)
    · exact Or.inr (Or.inr ⟨h1, h2, by rw [if_neg h1, if_neg h2]⟩)
theorem near_touch {a b : Rc} (ha : ROk a) (hb : ROk b) (h : NearP a b) (hn : ¬ TouchR a b) : ∃ x y, HasR a x y ∧ HasR b x y := by
  have ha' := ha; have hb' := hb
  obtain ⟨⟨a1, a2, a3⟩, a4, a5, a6⟩ := ha
  obtain ⟨⟨b1, b2, b3⟩, b4, b5, b6⟩ := hb
  unfold NearP at h
  by_cases c : max a.X0 b.X0 < min a.X1 b.X1 ∧ max a.Y0 b.Y0 < min a.Y1 b.Y1
  · exact ⟨max a.X0 b.X0, max a.Y0 b.Y0, ⟨ha', by omega, by omega, by omega, by omega⟩, ⟨hb', by omega, by omega, by omega, by omega⟩⟩
  · refine absurd ⟨ha', hb', ?_⟩ hn
    have e1 := ap_cases a.X0 a.X1 b.X0 b.X1
    have e2 := ap_cases a.Y0 a.Y1 b.Y0 b.Y1
    omega
theorem touch_near {a b : Rc} (h : TouchR a b) : NearP a b := by
  obtain ⟨⟨⟨a1, a2, a3⟩, a4, a5, a6⟩, ⟨⟨b1, b2, b3⟩, b4, b5, b6⟩, h⟩ := h
  have e1 := ap_cases a.X0 a.X1 b.X0 b.X1
  have e2 := ap_cases a.Y0 a.Y1 b.Y0 b.Y1
  unfold NearP
  omega
/-! ### what is the same beside is the same all over -/
theorem side_rect {r : Rc} {S : Int → Int → Prop} (hr : ROk r) (hs : ∀ x y u v, HasR r x y → HasR r u v → Nbr x y u v → (S x y ↔ S u v)) {x y : Int} (h : HasR r x y) : S x y ↔ S r.X0 r.Y0 := by
  have hh := h
  obtain ⟨⟨⟨a1, a2, a3⟩, a4, a5, a6⟩, h1, h2, h3, h4⟩ := h
  have row : ∀ n : Nat, r.Y0 + n < r.Y1 → (S x (r.Y0 + n) ↔ S x r.Y0) := by
    intro n
    induction n with
    | zero => intro _; simp
    | succ n ih =>
      intro hn
      rw [← ih (by omega)]
      exact hs _ _ _ _ ⟨hr, h1, h2, by omega, by omega⟩ ⟨hr, h1, h2, by omega, by omega⟩ (Or.inl ⟨rfl, by omega⟩)
  have col : ∀ n : Nat, r.X0 + n < r.X1 → (S (r.X0 + n) r.Y0 ↔ S r.X0 r.Y0) := by
    intro n
    induction n with
    | zero => intro _; simp
    | succ n ih =>
      intro hn
      rw [← ih (by omega)]
      exact hs _ _ _ _ ⟨hr, by omega, by omega, by omega, by omega⟩ ⟨hr, by omega, by omega, by omega, by omega⟩ (Or.inr ⟨rfl, by omega⟩)
  have e1 := row (y - r.Y0).toNat (by omega)
  have e2 := col (x - r.X0).toNat (by omega)
  rw [show r.Y0 + ((y - r.Y0).toNat : Int) = y by omega] at e1
  rw [show r.X0 + ((x - r.X0).toNat : Int) = x by omega] at e2
  exact e1.trans e2
theorem side_list {P : List Rc} {S : Int → Int → Prop} (hok : ∀ r ∈ P, ROk r) (htc : TC P) (hs : ∀ x y u v, HasL P x y → HasL P u v → Nbr x y u v → (S x y ↔ S u v)) :
    ∀ n m, m ≤ n → m < P.length → ∀ x y, HasR (P.getD m zR) x y → (S x y ↔ S (P.getD 0 zR).X0 (P.getD 0 zR).Y0) := by
  have mem : ∀ {k}, k < P.length → P.getD k zR ∈ P := fun h => getD_mem h
  have inr : ∀ {k}, k < P.length → ∀ x y u v, HasR (P.getD k zR) x y → HasR (P.getD k zR) u v → Nbr x y u v → (S x y ↔ S u v) := fun hk x y u v h1 h2 h3 => hs x y u v ⟨_, mem hk, h1⟩ ⟨_, mem hk, h2⟩ h3
  intro n
  induction n with
  | zero =>
    intro m hm hml x y h
    obtain rfl : m = 0 := by omega
    exact side_rect (hok _ (mem hml)) (inr hml) h
  | succ n ih =>
    intro m hm hml x y h
    by_cases e : m ≤ n
    · exact ih m e hml x y h
    · obtain rfl : m = n + 1 := by omega
      obtain ⟨j, hj, ht⟩ := htc (n + 1) (by omega) hml
      obtain ⟨p, q, u, v, h1, h2, h3⟩ := near_has (hok _ (mem (by omega))) (hok _ (mem hml)) (touch_near ht)
      have e1 := ih j (by omega) (by omega) p q h1
      have e2 := hs p q u v ⟨_, mem (by omega), h1⟩ ⟨_, mem hml, h2⟩ h3
      have e3 := side_rect (hok _ (mem hml)) (inr hml) h
      have e4 := side_rect (hok _ (mem hml)) (inr hml) h2
      exact e3.trans (e4.symm.trans (e2.symm.trans e1))
theorem side_all {P : List Rc} {S : Int → Int → Prop} (hok : ∀ r ∈ P, ROk r) (htc : TC P) (hs : ∀ x y u v, HasL P x y → HasL P u v → Nbr x y u v → (S x y ↔ S u v)) {x y u v : Int} (h1 : HasL P x y) (h2 : HasL P u v) : S x y ↔ S u v := by
  have key : ∀ {x y}, HasL P x y → (S x y ↔ S (P.getD 0 zR).X0 (P.getD 0 zR).Y0) := fun ⟨r, hr, h⟩ => by
    obtain ⟨m, hm, rfl⟩ := List.mem_iff_getElem.1 hr
    exact side_list hok htc hs m m (Nat.le_refl _) hm _ _ (by rw [getD_in _ _ hm]; exact h)
  exact (key h1).trans (key h2).symm
/-! ### rectangles without common cells -/
def Off (r q : Rc) : Prop := ∀ x y, HasR r x y → ¬ HasR q x y
theorem off_symm {r q : Rc} (h : Off r q) : Off q r := fun x y h1 h2 => h x y h2 h1
theorem disj_pair : ∀ {l : List Rc}, Disj l ↔ l.Pairwise Off := by
  intro l
  induction l with
  | nil => exact ⟨fun _ => List.Pairwise.nil, fun _ => trivial⟩
  | cons r l ih =>
    rw [List.pairwise_cons, ← ih]
    exact Iff.rfl
theorem disj_perm {l m : List Rc} (h : l.Perm m) (hl : Disj l) : Disj m := disj_pair.2 ((h.pairwise_iff (fun hh => off_symm hh)).1 (disj_pair.1 hl))
theorem form_disj {l : List Rc} (h : IsForm l) : Disj l := by
  obtain ⟨S, hS, rfl⟩ := h
  exact slabs_disj hS
theorem areaL_perm {l m : List Rc} (h : l.Perm m) : areaL l = areaL m := by
  induction h with
  | nil => rfl
  | cons x _ ih => simp only [areaL, ih]
  | swap x y l => simp only [areaL]; omega
  | trans _ _ h1 h2 => exact h1.trans h2
theorem hasL_perm {l m : List Rc} (h : l.Perm m) (x y : Int) : HasL l x y ↔ HasL m x y := ⟨fun ⟨r, hr, k⟩ => ⟨r, h.subset hr, k⟩, fun ⟨r, hr, k⟩ => ⟨r, h.symm.subset hr, k⟩⟩
theorem hasL_app (l m : List Rc) (x y : Int) : HasL (l ++ m) x y ↔ HasL l x y ∨ HasL m x y := by unfold HasL; simp only [List.mem_append, or_and_right, exists_or]
/-- the form of rectangles without common cells has their area. -/
theorem form_area_eq {P : List Rc} (hok : ∀ r ∈ P, ROk r) (hd : Disj P) : areaL (formL P) = areaL P := by
  obtain ⟨f1, f2⟩ := formL_is hok
  rw [form_area f1, area_cnt hd (n := 1048576) (fun r hr => ⟨hok r hr, by have := (hok r hr).1.2.2; omega, by have := (hok r hr).2.2.2; omega⟩)]
  have e : cntC 1048576 (hasD (formL P)) = cntC 1048576 (hasD P) := cntC_congr (fun x y _ _ => by rw [Bool.eq_iff_iff, hasD_iff, hasD_iff, f2])
  rw [e]
/-! ### a form of a connected list is one part -/
theorem one_part {Q P : List Rc} (hQ : IsForm Q) (hP : ∀ r ∈ P, ROk r) (htc : TC P) (hcell : ∀ x y, HasL Q x y ↔ HasL P x y) (hpos : 0 < Q.length) : ∃ P1, partsM Q = [P1] ∧ P1.Perm Q := by
  have hokQ := form_ok hQ
  have c : (partsN Q 0).1.getD 0 true = false := by
    show (List.replicate Q.length false).getD 0 true = false
    rw [getD_in _ _ (by simpa using hpos)]; simp
  have hl := partsN_len Q 0
  have hf := connM_found hl c
  have hp := connM_perm hl c
  have hu : unr Q (partsN Q 0).1 = Q := unr_start Q
  rw [hu] at hp
  rcases parts_step (a := Q) (k := 0) with ⟨_, e1, e2⟩ | ⟨c2, _⟩
  · generalize hS : connM Q 0 (partsN Q 0).1 = S at *
    have hdis : (S.2 ++ unr Q S.1).Pairwise Off := disj_pair.1 (disj_perm hp.symm (form_disj hQ))
    obtain ⟨_, _, hx⟩ := List.pairwise_append.1 hdis
    have okS : ∀ r ∈ S.2, ROk r := fun r hr => hokQ r (hp.subset (List.mem_append_left _ hr))
    have okU : ∀ r ∈ unr Q S.1, ROk r := fun r hr => hokQ r (hp.subset (List.mem_append_right _ hr))
    have hone : ∀ x y u v, HasL P x y → HasL P u v → Nbr x y u v → HasL S.2 x y → HasL S.2 u v := fun x y u v h1 h2 h3 h4 => by
      obtain ⟨r, hr, k1⟩ := h4
      have := (hcell u v).2 h2
      rw [← hasL_perm hp, hasL_app] at this
      rcases this with h | ⟨q, hq, k2⟩
      · exact h
      · have hnt : ¬ TouchR r q := by
          obtain ⟨m, hm, rfl⟩ := List.mem_iff_getElem.1 hr
          obtain ⟨j, _, j2, j3⟩ := unr_mem.1 hq
          have := hf.done m hm j j2
          rw [getD_in _ _ hm, ← j3] at this
          exact this
        obtain ⟨x', y', g1, g2⟩ := near_touch (okS r hr) (okU q hq) (near_of_cells k1 k2 h3) hnt
        exact absurd g2 (hx r hr q hq x' y' g1)
    have hside : ∀ x y u v, HasL P x y → HasL P u v → Nbr x y u v → (HasL S.2 x y ↔ HasL S.2 u v) := fun x y u v h1 h2 h3 => ⟨hone x y u v h1 h2 h3, hone u v x y h2 h1 (nbr_symm h3)⟩
    have hnil : unr Q S.1 = [] := by
      rw [List.eq_nil_iff_forall_not_mem]
      intro q hq
      obtain ⟨P0, hP0⟩ := hf.grow
      have hr : Q.getD 0 zR ∈ S.2 := by rw [hP0]; simp
      have okr := okS _ hr
      have okq := okU q hq
      have c1 : HasR (Q.getD 0 zR) (Q.getD 0 zR).X0 (Q.getD 0 zR).Y0 := ⟨okr, Int.le_refl _, okr.1.2.1, Int.le_refl _, okr.2.2.1⟩
      have c2 : HasR q q.X0 q.Y0 := ⟨okq, Int.le_refl _, okq.1.2.1, Int.le_refl _, okq.2.2.1⟩
      have m1 : HasL P (Q.getD 0 zR).X0 (Q.getD 0 zR).Y0 := (hcell _ _).1 ⟨_, getD_mem hpos, c1⟩
      have m2 : HasL P q.X0 q.Y0 := (hcell _ _).1 ⟨q, hp.subset (List.mem_append_right _ hq), c2⟩
      obtain ⟨p, hpm, hph⟩ := (side_all (S := HasL S.2) hP htc hside m1 m2).1 ⟨_, hr, c1⟩
      exact hx p hpm q hq _ _ hph c2
    rw [hnil, List.append_nil] at hp
    refine ⟨S.2, ?_, hp⟩
    have hall : ∀ j, j < Q.length → S.1.getD j true = true := fun j hj => by
      refine bool_true (fun h => ?_)
      have : Q.getD j zR ∈ unr Q S.1 := unr_mem.2 ⟨j, hj, h, rfl⟩
      rw [hnil] at this; cases this
    have stay : ∀ k, k + 1 ≤ Q.length → partsN Q (k + 1) = (S.1, [S.2]) := by
      intro k
      induction k with
      | zero => intro _; exact Prod.ext e1 (by rw [e2]; rfl)
      | succ k ih =>
        intro hk
        have h := ih (by omega)
        rw [partsN, h]
        rw [if_neg (by rw [hall (k + 1) (by omega)]; simp)]
    have := stay (Q.length - 1) (by omega)
    rw [show Q.length - 1 + 1 = Q.length by omega] at this
    unfold partsM
    rw [this]
  · exact absurd c c2
/-! ### the form of a part has no more rectangles -/
/-- no side of one lies strictly within the other. -/
def Flush (P : List Rc) : Prop := ∀ r ∈ P, ∀ q ∈ P, (q.X0 ≤ r.X0 ∨ r.X1 ≤ q.X0) ∧ (q.X1 ≤ r.X0 ∨ r.X1 ≤ q.X1)
theorem sumZ_none {f : Int → Nat} : ∀ {E : List Int}, (∀ e ∈ E, f e = 0) → sumZ f E = 0 := by
  intro E
  induction E with
  | nil => intro _; rfl
  | cons e E ih =>
    intro h
    have h1 := h e List.mem_cons_self
    have h2 := ih (fun z hz => h z (List.mem_cons_of_mem _ hz))
    show f e + sumZ f E = 0
    omega
theorem ins_one {r : Rc} : ∀ {E : List Int}, E.Nodup → (∀ e ∈ E, r.X0 ≤ e → e < r.X1 → e = r.X0) → sumZ (insX r) E ≤ 1 := by
  intro E
  induction E with
  | nil => intro _ _; exact Nat.zero_le _
  | cons e E ih =>
    intro hn he
    obtain ⟨n1, n2⟩ := List.nodup_cons.1 hn
    show insX r e + sumZ (insX r) E ≤ 1
    by_cases c : r.X0 ≤ e ∧ e < r.X1
    · have e0 := he e List.mem_cons_self c.1 c.2
      have : sumZ (insX r) E = 0 := sumZ_none (fun z hz => by
        unfold insX
        rw [if_neg]
        intro cz
        have := he z (List.mem_cons_of_mem _ hz) cz.1 cz.2
        exact n1 (by rw [e0, ← this]; exact hz))
      unfold insX at *
      rw [if_pos c]; omega
    · have := ih n2 (fun z hz => he z (List.mem_cons_of_mem _ hz))
      have e0 : insX r e = 0 := by unfold insX; rw [if_neg c]
      omega
theorem cov_sum {E : List Int} (hn : E.Nodup) : ∀ {l : List Rc}, (∀ r ∈ l, ∀ e ∈ E, r.X0 ≤ e → e < r.X1 → e = r.X0) → sumZ (covX l) E ≤ l.length := by
  intro l
  induction l with
  | nil => intro _; rw [sumZ_none (f := covX []) (fun e _ => rfl)]; exact Nat.zero_le _
  | cons r l ih =>
    intro h
    have e : sumZ (covX (r :: l)) E = sumZ (fun e => insX r e + covX l e) E := by
      congr 1; funext x; exact covX_cons r l x
    rw [e, sumZ_add, List.length_cons]
    have h1 := ins_one hn (h r List.mem_cons_self)
    have h2 := ih (fun q hq => h q (List.mem_cons_of_mem _ hq))
    omega
theorem form_le {P : List Rc} (hok : ∀ r ∈ P, ROk r) (hf : Flush P) : (formL P).length ≤ P.length := by
  have h1 := grow_up (fun x => comb or (colS P x) (colS [] x)) (sortS (sides P ++ sides [])) []
  obtain ⟨s1, s2⟩ := sortS_is (sides P ++ sides [])
  have hmem : ∀ e ∈ sortS (sides P ++ sides []), ∃ q ∈ P, e = q.X0 ∨ e = q.X1 := fun e he => by
    have := (s2 e).1 he
    simp only [sides, List.flatMap_nil, List.append_nil, List.mem_flatMap, List.mem_cons, List.not_mem_nil, or_false] at this
    exact this
  have h2 : sumZ (fun e => (comb or (colS P e) (colS [] e)).length) (sortS (sides P ++ sides [])) ≤ sumZ (fun e => covX P e + covX P e) (sortS (sides P ++ sides [])) := sumZ_le (fun e => by
    have k1 := comb_lenI or (colS P e) (colS [] e)
    have k2 := colS_lenI P e
    have k3 : (colS [] e).length = 0 := rfl
    omega) _
  rw [sumZ_add] at h2
  have h3 := cov_sum (asc_nodup s1) (l := P) (fun r hr e he c1 c2 => by
    obtain ⟨q, hq, h⟩ := hmem e he
    have := hf r hr q hq
    rcases h with rfl | rfl <;> omega)
  have h4 : (flatS []).length = 0 := rfl
  show (flatS (growF _ _ _)).length ≤ _
  rw [h4] at h1
  omega
theorem form_flush {l : List Rc} (h : IsForm l) : Flush l := by
  obtain ⟨S, hS, rfl⟩ := h
  intro r hr q hq
  have key : ∀ {S : List Slab}, SlabsOk S → ∀ r ∈ flatS S, ∀ q ∈ flatS S, (r.X0 = q.X0 ∧ r.X1 = q.X1) ∨ r.X1 ≤ q.X0 ∨ q.X1 ≤ r.X0 := by
    intro S
    induction S with
    | nil => intro _ r hr; cases hr
    | cons s S ih =>
      intro hS r hr q hq
      have ks := hS.head
      have ofS : ∀ {z}, z ∈ rectsOf s.x0 s.x1 s.t → z.X0 = s.x0 ∧ z.X1 = s.x1 := fun hz => ⟨((twos_disj (x0 := s.x0) (x1 := s.x1) s.t ks.ev ks.asc).2 _ hz).1, ((twos_disj (x0 := s.x0) (x1 := s.x1) s.t ks.ev ks.asc).2 _ hz).2.1⟩
      have ofT : ∀ {z}, z ∈ flatS S → s.x1 ≤ z.X0 := fun hz => by
        obtain ⟨u, hu, hz⟩ := List.mem_flatMap.1 hz
        have ku := hS.each u (List.mem_cons_of_mem _ hu)
        rw [((twos_disj (x0 := u.x0) (x1 := u.x1) u.t ku.ev ku.asc).2 _ hz).1]
        exact hS.after u hu
      rcases List.mem_append.1 hr with h1 | h1 <;> rcases List.mem_append.1 hq with h2 | h2
      · have := ofS h1; have := ofS h2; left; omega
      · have := ofS h1; have := ofT h2; right; left; omega
      · have := ofT h1; have := ofS h2; right; right; omega
      · exact ih hS.tail r h1 q h2
  have k := key hS r hr q hq
  have o1 := form_ok ⟨S, hS, rfl⟩ r hr
  have o2 := form_ok ⟨S, hS, rfl⟩ q hq
  have := o1.1.2.1; have := o2.1.2.1
  omega
/-! ### the order of a form -/
def LexLt (r q : Rc) : Prop := r.X0 < q.X0 ∨ r.X0 = q.X0 ∧ r.Y0 < q.Y0
theorem rects_order {x0 x1 : Int} : ∀ t, Even t → Asc t → (rectsOf x0 x1 t).Pairwise LexLt := by
  intro t he
  refine even_ind (P := fun t => Asc t → (rectsOf x0 x1 t).Pairwise LexLt) (fun _ => List.Pairwise.nil) (fun a b t ht ih ha => ?_) t he
  show (⟨x0, a, x1, b⟩ :: rectsOf x0 x1 t).Pairwise LexLt
  rw [List.pairwise_cons]
  refine ⟨fun q hq => ?_, ih ha.2.tail⟩
  obtain ⟨k1, _, k3⟩ := (twos_disj (x0 := x0) (x1 := x1) t ht ha.2.tail).2 q hq
  have := k3 b ha.2.lt
  have hab := ha.1
  exact Or.inr ⟨k1.symm, by show a < q.Y0; omega⟩
theorem form_order {l : List Rc} (h : IsForm l) : l.Pairwise LexLt := by
  obtain ⟨S, hS, rfl⟩ := h
  revert hS
  induction S with
  | nil => intro _; exact List.Pairwise.nil
  | cons s S ih =>
    intro hS
    have ks := hS.head
    show (rectsOf s.x0 s.x1 s.t ++ flatS S).Pairwise LexLt
    rw [List.pairwise_append]
    refine ⟨rects_order s.t ks.ev ks.asc, ih hS.tail, fun r hr q hq => ?_⟩
    obtain ⟨u, hu, hq⟩ := List.mem_flatMap.1 hq
    have ku := hS.each u (List.mem_cons_of_mem _ hu)
    have e1 := ((twos_disj (x0 := s.x0) (x1 := s.x1) s.t ks.ev ks.asc).2 r hr).1
    have e2 := ((twos_disj (x0 := u.x0) (x1 := u.x1) u.t ku.ev ku.asc).2 q hq).1
    have := hS.after u hu
    have := ks.x.2.1
    exact Or.inl (by omega)
def LexLe (r q : Rc) : Prop := r.X0 < q.X0 ∨ r.X0 = q.X0 ∧ r.Y0 ≤ q.Y0
theorem order_at {l : List Rc} (h : l.Pairwise LexLt) {i j : Nat} (hij : i ≤ j) (hj : j < l.length) : LexLe (l.getD i zR) (l.getD j zR) := by
  rw [getD_in _ _ (by omega), getD_in _ _ hj]
  by_cases e : i = j
  · subst e; exact Or.inr ⟨rfl, Int.le_refl _⟩
  · have := List.pairwise_iff_getElem.1 h i j (by omega) hj (by omega)
    unfold LexLt at this; unfold LexLe; omega
/-- the first rectangle of a form begins where the first one of the list does, if that one is the least. -/
theorem form_first {P Q : List Rc} (hP : ∀ r ∈ P, ROk r) (hQ : IsForm Q) (hc : ∀ x y, HasL Q x y ↔ HasL P x y) (hp : 0 < P.length) (hle : ∀ r ∈ P, LexLe (P.getD 0 zR) r) : 0 < Q.length ∧ (Q.getD 0 zR).X0 = (P.getD 0 zR).X0 ∧ (Q.getD 0 zR).Y0 = (P.getD 0 zR).Y0 := by
  have okp := hP _ (getD_mem hp)
  obtain ⟨q, hq, _, q1, q2, q3, q4⟩ := (hc _ _).2 ⟨_, getD_mem hp, okp, Int.le_refl _, okp.1.2.1, Int.le_refl _, okp.2.2.1⟩
  have hql : 0 < Q.length := List.length_pos_iff.2 (fun e => by rw [e] at hq; cases hq)
  have okq := form_ok hQ _ (getD_mem hql)
  obtain ⟨r, hr, _, r1, r2, r3, r4⟩ := (hc _ _).1 ⟨_, getD_mem hql, okq, Int.le_refl _, okq.1.2.1, Int.le_refl _, okq.2.2.1⟩
  have h1 := hle r hr
  obtain ⟨m, hm, rfl⟩ := List.mem_iff_getElem.1 hq
  have h2 := order_at (form_order hQ) (Nat.zero_le m) hm
  rw [getD_in _ _ hm] at h2
  unfold LexLe at h1 h2
  refine ⟨hql, ?_, ?_⟩ <;> omega
end Go.Proofs.Ytcnojedijimheaa
