/-
  Plain mathematics of RegionShifts: a form that is moved is a form.
-/
import Derived.Test.YtcnojedijimheaaIm
import Derived.Test.YtcnojedijimheaaGa
set_option linter.unusedVariables false
namespace Go.Proofs.Ytcnojedijimheaa

def mvL (dx dy : Int) (l : List Rc) : List Rc := l.map (mvR dx dy)
def MvOk (dx dy : Int) (l : List Rc) : Prop := ∀ r ∈ l, ROk (mvR dx dy r)
theorem mv_len (dx dy : Int) (l : List Rc) : (mvL dx dy l).length = l.length := by simp [mvL]
theorem mv_back (dx dy : Int) (l : List Rc) : mvL (-dx) (-dy) (mvL dx dy l) = l := by
  unfold mvL
  rw [List.map_map]
  have e : (mvR (-dx) (-dy) ∘ mvR dx dy) = id := by
    funext r
    apply Rc.eq <;> simp only [Function.comp, mvR, id] <;> omega
  rw [e, List.map_id]
theorem mv_all_ok {dx dy : Int} {l : List Rc} (h : MvOk dx dy l) : ∀ r ∈ mvL dx dy l, ROk r := fun r hr => by
  obtain ⟨q, hq, rfl⟩ := List.mem_map.1 hr
  exact h q hq
theorem mv_hasR {dx dy : Int} {r : Rc} (h : ROk r) (h2 : ROk (mvR dx dy r)) (x y : Int) : HasR (mvR dx dy r) x y ↔ HasR r (x - dx) (y - dy) := by
  unfold HasR
  simp only [h, h2, true_and]
  simp only [mvR]
  omega
theorem mv_hasL {dx dy : Int} {l : List Rc} (h : ∀ r ∈ l, ROk r) (h2 : MvOk dx dy l) (x y : Int) : HasL (mvL dx dy l) x y ↔ HasL l (x - dx) (y - dy) := by
  constructor
  · rintro ⟨r, hr, k⟩
    obtain ⟨q, hq, rfl⟩ := List.mem_map.1 hr
    exact ⟨q, hq, (mv_hasR (h q hq) (h2 q hq) x y).1 k⟩
  · rintro ⟨q, hq, k⟩
    exact ⟨_, List.mem_map.2 ⟨q, hq, rfl⟩, (mv_hasR (h q hq) (h2 q hq) x y).2 k⟩
theorem area_mv {dx dy : Int} {r : Rc} (h : ROk r) (h2 : ROk (mvR dx dy r)) : areaR (mvR dx dy r) = areaR r := by
  rw [area_ok h, area_ok h2]
  simp only [mvR]
  congr 1 <;> omega
theorem mv_areaL {dx dy : Int} : ∀ {l : List Rc}, (∀ r ∈ l, ROk r) → MvOk dx dy l → areaL (mvL dx dy l) = areaL l := by
  intro l
  induction l with
  | nil => intro _ _; rfl
  | cons r l ih =>
    intro h h2
    have e := ih (fun q hq => h q (List.mem_cons_of_mem _ hq)) (fun q hq => h2 q (List.mem_cons_of_mem _ hq))
    show areaR (mvR dx dy r) + areaL (mvL dx dy l) = areaR r + areaL l
    rw [e, area_mv (h r List.mem_cons_self) (h2 r List.mem_cons_self)]
/-! ### slabs that are moved -/
def mvS (dx dy : Int) (s : Slab) : Slab := ⟨s.x0 + dx, s.x1 + dx, s.t.map (· + dy)⟩
theorem twos_map (d : Int) : ∀ t : List Int, twos (t.map (· + d)) = (twos t).map fun p => (p.1 + d, p.2 + d)
  | [] => rfl
  | [_] => rfl
  | a :: b :: t => by
    show (a + d, b + d) :: twos (t.map (· + d)) = _
    rw [twos_map d t]; rfl
theorem rects_mv (dx dy x0 x1 : Int) (t : List Int) : rectsOf (x0 + dx) (x1 + dx) (t.map (· + dy)) = mvL dx dy (rectsOf x0 x1 t) := by
  unfold rectsOf mvL
  rw [twos_map, List.map_map, List.map_map]
  rfl
theorem flat_mv (dx dy : Int) (S : List Slab) : flatS (S.map (mvS dx dy)) = mvL dx dy (flatS S) := by
  unfold flatS mvL
  rw [List.flatMap_map, List.map_flatMap]
  congr 1
  funext s
  exact rects_mv dx dy s.x0 s.x1 s.t
theorem asc_mv (d : Int) : ∀ {t : List Int}, Asc t → Asc (t.map (· + d)) := by
  intro t
  induction t with
  | nil => intro _; trivial
  | cons a t ih =>
    intro h
    refine Asc.cons (ih h.tail) (fun x hx => ?_)
    obtain ⟨z, hz, rfl⟩ := List.mem_map.1 hx
    have := h.lt z hz
    show a + d < z + d
    omega
theorem twos_mem : ∀ {t : List Int}, Even t → ∀ z ∈ t, ∃ p ∈ twos t, z = p.1 ∨ z = p.2 := by
  intro t ht
  refine even_ind (P := fun t => ∀ z ∈ t, ∃ p ∈ twos t, z = p.1 ∨ z = p.2) (fun z hz => by cases hz) (fun a b t _ ih z hz => ?_) t ht
  rcases List.mem_cons.1 hz with rfl | hz
  · exact ⟨_, List.mem_cons_self, Or.inl rfl⟩
  · rcases List.mem_cons.1 hz with rfl | hz
    · exact ⟨_, List.mem_cons_self, Or.inr rfl⟩
    · obtain ⟨p, hp, h⟩ := ih z hz
      exact ⟨p, List.mem_cons_of_mem _ hp, h⟩
theorem slab_mv {dx dy : Int} {s : Slab} (h : SlabOk s) (h2 : MvOk dx dy (rectsOf s.x0 s.x1 s.t)) : SlabOk (mvS dx dy s) := by
  have hr : ∀ p ∈ twos s.t, ROk ⟨s.x0 + dx, p.1 + dy, s.x1 + dx, p.2 + dy⟩ := fun p hp => h2 ⟨s.x0, p.1, s.x1, p.2⟩ (List.mem_map.2 ⟨p, hp, rfl⟩)
  have hz : ∀ z ∈ s.t, Span (s.x0 + dx) (s.x1 + dx) ∧ 0 ≤ z + dy ∧ z + dy ≤ 1048576 := fun z hz => by
    obtain ⟨p, hp, e⟩ := twos_mem h.ev z hz
    obtain ⟨k1, k2, k3, k4⟩ := hr p hp
    refine ⟨k1, ?_⟩
    simp only at k1 k2 k3 k4
    rcases e with rfl | rfl <;> omega
  obtain ⟨z0, hz0⟩ := List.exists_mem_of_ne_nil _ h.ne
  refine ⟨(hz z0 hz0).1, fun e => h.ne (List.map_eq_nil_iff.1 e), asc_mv dy h.asc, ?_, fun x hx => ?_⟩
  · have := h.ev; unfold Even at *; simpa [mvS] using this
  · obtain ⟨z, hz1, rfl⟩ := List.mem_map.1 hx
    exact (hz z hz1).2
theorem map_inj {d : Int} {s t : List Int} (h : s.map (· + d) = t.map (· + d)) : s = t := by
  have e : (s.map (· + d)).map (· + (-d)) = (t.map (· + d)).map (· + (-d)) := by rw [h]
  rw [List.map_map, List.map_map] at e
  have k : ((fun x : Int => x + (-d)) ∘ fun x => x + d) = id := by funext x; simp only [Function.comp, id]; omega
  rw [k, List.map_id, List.map_id] at e
  exact e
theorem slabs_mv {dx dy : Int} : ∀ {S : List Slab}, SlabsOk S → MvOk dx dy (flatS S) → SlabsOk (S.map (mvS dx dy)) := by
  intro S
  induction S with
  | nil => intro _ _; trivial
  | cons s S ih =>
    intro h h2
    have hs : SlabOk (mvS dx dy s) := slab_mv h.head (fun r hr => h2 r (List.mem_append_left _ hr))
    have ht := ih h.tail (fun r hr => h2 r (List.mem_append_right _ hr))
    cases S with
    | nil => exact hs
    | cons u S =>
      obtain ⟨b1, b2⟩ := h.2.1
      refine ⟨hs, ⟨?_, fun e k => b2 ?_ (map_inj k)⟩, ht⟩
      · show s.x1 + dx ≤ u.x0 + dx; omega
      · have e' : s.x1 + dx = u.x0 + dx := e; omega
theorem form_mv {dx dy : Int} {l : List Rc} (h : IsForm l) (h2 : MvOk dx dy l) : IsForm (mvL dx dy l) := by
  obtain ⟨S, hS, rfl⟩ := h
  exact ⟨S.map (mvS dx dy), slabs_mv hS h2, (flat_mv dx dy S).symm⟩
/-- what lies in a list can be moved as the list can. -/
theorem mv_sub {dx dy : Int} {l m : List Rc} (hl : ∀ r ∈ l, ROk r) (hm : ∀ r ∈ m, ROk r) (h2 : MvOk dx dy l) (h : ∀ x y, HasL m x y → HasL l x y) : MvOk dx dy m := fun r hr => by
  have hk := hm r hr
  obtain ⟨⟨a1, a2, a3⟩, a4, a5, a6⟩ := hm r hr
  obtain ⟨p, hp, _, p1, p2, p3, p4⟩ := h r.X0 r.Y0 ⟨r, hr, hk, by omega, by omega, by omega, by omega⟩
  obtain ⟨q, hq, _, q1, q2, q3, q4⟩ := h (r.X1 - 1) (r.Y1 - 1) ⟨r, hr, hk, by omega, by omega, by omega, by omega⟩
  obtain ⟨⟨b1, b2, b3⟩, b4, b5, b6⟩ := h2 p hp
  obtain ⟨⟨c1, c2, c3⟩, c4, c5, c6⟩ := h2 q hq
  simp only [mvR] at b1 b2 b3 b4 b5 b6 c1 c2 c3 c4 c5 c6
  refine ⟨⟨?_, ?_, ?_⟩, ?_, ?_, ?_⟩ <;> simp only [mvR] <;> omega
/-- bounds are moved with a list that is not empty. -/
theorem bounds_mv {dx dy : Int} : ∀ (n : Nat) (l : List Rc), l.length = n → (∀ r ∈ l, ROk r) → MvOk dx dy l → l ≠ [] → boundsR (mvL dx dy l) = (mvR dx dy (boundsR l).1, true) ∧ (boundsR l).2 = true := by
  intro n
  induction n with
  | zero => intro l hl _ _ hne; exact absurd (List.eq_nil_of_length_eq_zero hl) hne
  | succ n ih =>
    intro l hl h h2 hne
    obtain ⟨m, r, rfl⟩ : ∃ m r, l = m ++ [r] := ⟨l.dropLast, l.getLast hne, (List.dropLast_concat_getLast hne).symm⟩
    have hr : ROk r := h r (by simp)
    have hr2 : ROk (mvR dx dy r) := h2 r (by simp)
    have e : mvL dx dy (m ++ [r]) = mvL dx dy m ++ [mvR dx dy r] := by simp [mvL]
    rw [e, bounds_snoc, bounds_snoc]
    by_cases hm : m = []
    · subst hm
      simp only [mvL, List.map_nil, boundsR, List.foldl_nil, boundsStep, if_pos hr, if_pos hr2]
      simp
    · obtain ⟨k1, k2⟩ := ih m (by simpa using hl) (fun q hq => h q (List.mem_append_left _ hq)) (fun q hq => h2 q (List.mem_append_left _ hq)) hm
      rw [k1]
      unfold boundsStep
      rw [if_pos hr, if_pos hr2, if_pos k2]
      simp only [if_true, and_true]
      refine Prod.ext ?_ rfl
      apply Rc.eq <;> simp only [hullR, mvR] <;> omega
theorem minus_mv {dx dy : Int} {x y : List Rc} (hx : IsForm x) (hy : IsForm y) (h2 : MvOk dx dy x) (h3 : MvOk dx dy y) : formO andnot (mvL dx dy x) (mvL dx dy y) = mvL dx dy (formO andnot x y) := by
  obtain ⟨f1, f2⟩ := formO_is (op := andnot) rfl (form_ok hx) (form_ok hy)
  obtain ⟨g1, g2⟩ := formO_is (op := andnot) rfl (mv_all_ok h2) (mv_all_ok h3)
  have hm : MvOk dx dy (formO andnot x y) := mv_sub (form_ok hx) (form_ok f1) h2 (fun a b hh => by
    have := (f2 a b).1 hh
    unfold andnot at this
    rw [Bool.and_eq_true, hasB_iff] at this
    exact this.1)
  refine form_eq g1 (form_mv f1 hm) (fun a b => ?_)
  rw [g2, mv_hasL (form_ok f1) hm, f2]
  have e1 : hasB (mvL dx dy x) a b = hasB x (a - dx) (b - dy) := by rw [Bool.eq_iff_iff, hasB_iff, hasB_iff, mv_hasL (form_ok hx) h2]
  have e2 : hasB (mvL dx dy y) a b = hasB y (a - dx) (b - dy) := by rw [Bool.eq_iff_iff, hasB_iff, hasB_iff, mv_hasL (form_ok hy) h3]
  rw [e1, e2]
theorem touch_mv {dx dy : Int} {a b : Rc} (ha : ROk a) (hb : ROk b) (ha2 : ROk (mvR dx dy a)) (hb2 : ROk (mvR dx dy b)) : TouchR (mvR dx dy a) (mvR dx dy b) ↔ TouchR a b := by
  unfold TouchR
  simp only [ha, hb, ha2, hb2, true_and]
  have e : ∀ p q r s d : Int, apartI (p + d) (q + d) (r + d) (s + d) = apartI p q r s := fun p q r s d => by unfold apartI; omega
  simp only [mvR, e]
end Go.Proofs.Ytcnojedijimheaa
