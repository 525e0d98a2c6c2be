/-
  Plain mathematics of sight (layer 11), 3: forms of cells and of cubes that are moved. No program in this text.
-/
import Derived.Test.YtkjblmfmaenllaaYc
set_option linter.unusedVariables false
namespace Go.Proofs.Ytkjblmfmaenllaa

def mvR (dx dy : Int) (r : Rc) : Rc := ⟨r.X0 + dx, r.Y0 + dy, r.X1 + dx, r.Y1 + dy⟩
def mvL (dx dy : Int) (l : List Rc) : List Rc := l.map (mvR dx dy)
def MvOk (dx dy : Int) (l : List Rc) : Prop := ∀ r ∈ l, ROk (mvR dx dy r)
theorem mv_len (dx dy : Int) (l : List Rc) : (mvL dx dy l).length = l.length := by simp [mvL]
theorem mv_back (dx dy : Int) (l : List Rc) : mvL (-dx) (-dy) (mvL dx dy l) = l := by
  unfold mvL
  rw [List.map_map]
  have e : (mvR (-dx) (-dy) ∘ mvR dx dy) = id := by
    funext r
    apply Rc.eq <;> simp only [Function.comp, mvR, id] <;> omega
  rw [e, List.map_id]
theorem mv_all_ok {dx dy : Int} {l : List Rc} (h : MvOk dx dy l) : ∀ r ∈ mvL dx dy l, ROk r := fun r hr => by
  obtain ⟨q, hq, rfl⟩ := List.mem_map.1 hr
  exact h q hq
theorem mv_hasR {dx dy : Int} {r : Rc} (h : ROk r) (h2 : ROk (mvR dx dy r)) (x y : Int) : HasR (mvR dx dy r) x y ↔ HasR r (x - dx) (y - dy) := by
  unfold HasR
  simp only [h, h2, true_and]
  simp only [mvR]
  omega
theorem mv_hasL {dx dy : Int} {l : List Rc} (h : ∀ r ∈ l, ROk r) (h2 : MvOk dx dy l) (x y : Int) : HasL (mvL dx dy l) x y ↔ HasL l (x - dx) (y - dy) := by
  constructor
  · rintro ⟨r, hr, k⟩
    obtain ⟨q, hq, rfl⟩ := List.mem_map.1 hr
    exact ⟨q, hq, (mv_hasR (h q hq) (h2 q hq) x y).1 k⟩
  · rintro ⟨q, hq, k⟩
    exact ⟨_, List.mem_map.2 ⟨q, hq, rfl⟩, (mv_hasR (h q hq) (h2 q hq) x y).2 k⟩
/-! ### slabs that are moved -/
def mvSb (dx dy : Int) (s : Slab) : Slab := ⟨s.x0 + dx, s.x1 + dx, s.t.map (· + dy)⟩
theorem twos_map (d : Int) : ∀ t : List Int, twos (t.map (· + d)) = (twos t).map fun p => (p.1 + d, p.2 + d)
  | [] => rfl
  | [_] => rfl
  | a :: b :: t => by
    show (a + d, b + d) :: twos (t.map (· + d)) = _
    rw [twos_map d t]; rfl
theorem rects_mv (dx dy x0 x1 : Int) (t : List Int) : rectsOf (x0 + dx) (x1 + dx) (t.map (· + dy)) = mvL dx dy (rectsOf x0 x1 t) := by
  unfold rectsOf mvL
  rw [twos_map, List.map_map, List.map_map]
  rfl
theorem flat_mv (dx dy : Int) (S : List Slab) : flatS (S.map (mvSb dx dy)) = mvL dx dy (flatS S) := by
  unfold flatS mvL
  rw [List.flatMap_map, List.map_flatMap]
  congr 1
  funext s
  exact rects_mv dx dy s.x0 s.x1 s.t
theorem asc_mv (d : Int) : ∀ {t : List Int}, Asc t → Asc (t.map (· + d)) := by
  intro t
  induction t with
  | nil => intro _; trivial
  | cons a t ih =>
    intro h
    refine Asc.cons (ih h.tail) (fun x hx => ?_)
    obtain ⟨z, hz, rfl⟩ := List.mem_map.1 hx
    have := h.lt z hz
    show a + d < z + d
    omega
theorem twos_mem : ∀ {t : List Int}, Even t → ∀ z ∈ t, ∃ p ∈ twos t, z = p.1 ∨ z = p.2 := by
  intro t ht
  refine even_ind (P := fun t => ∀ z ∈ t, ∃ p ∈ twos t, z = p.1 ∨ z = p.2) (fun z hz => by cases hz) (fun a b t _ ih z hz => ?_) t ht
  rcases List.mem_cons.1 hz with rfl | hz
  · exact ⟨_, List.mem_cons_self, Or.inl rfl⟩
  · rcases List.mem_cons.1 hz with rfl | hz
    · exact ⟨_, List.mem_cons_self, Or.inr rfl⟩
    · obtain ⟨p, hp, h⟩ := ih z hz
      exact ⟨p, List.mem_cons_of_mem _ hp, h⟩
theorem slab_mv {dx dy : Int} {s : Slab} (h : SlabOk s) (h2 : MvOk dx dy (rectsOf s.x0 s.x1 s.t)) : SlabOk (mvSb dx dy s) := by
  have hr : ∀ p ∈ twos s.t, ROk ⟨s.x0 + dx, p.1 + dy, s.x1 + dx, p.2 + dy⟩ := fun p hp => h2 ⟨s.x0, p.1, s.x1, p.2⟩ (List.mem_map.2 ⟨p, hp, rfl⟩)
  have hz : ∀ z ∈ s.t, Span (s.x0 + dx) (s.x1 + dx) ∧ 0 ≤ z + dy ∧ z + dy ≤ 1048576 := fun z hz => by
    obtain ⟨p, hp, e⟩ := twos_mem h.ev z hz
    obtain ⟨k1, k2, k3, k4⟩ := hr p hp
    refine ⟨k1, ?_⟩
    simp only at k1 k2 k3 k4
    rcases e with rfl | rfl <;> omega
  obtain ⟨z0, hz0⟩ := List.exists_mem_of_ne_nil _ h.ne
  refine ⟨(hz z0 hz0).1, fun e => h.ne (List.map_eq_nil_iff.1 e), asc_mv dy h.asc, ?_, fun x hx => ?_⟩
  · have := h.ev; unfold Even at *; simpa [mvSb] using this
  · obtain ⟨z, hz1, rfl⟩ := List.mem_map.1 hx
    exact (hz z hz1).2
theorem map_inj {d : Int} {s t : List Int} (h : s.map (· + d) = t.map (· + d)) : s = t := by
  have e : (s.map (· + d)).map (· + (-d)) = (t.map (· + d)).map (· + (-d)) := by rw [h]
  rw [List.map_map, List.map_map] at e
  have k : ((fun x : Int => x + (-d)) ∘ fun x => x + d) = id := by funext x; simp only [Function.comp, id]; omega
  rw [k, List.map_id, List.map_id] at e
  exact e
theorem slabs_mv {dx dy : Int} : ∀ {S : List Slab}, SlabsOk S → MvOk dx dy (flatS S) → SlabsOk (S.map (mvSb dx dy)) := by
  intro S
  induction S with
  | nil => intro _ _; trivial
  | cons s S ih =>
    intro h h2
    have hs : SlabOk (mvSb dx dy s) := slab_mv h.head (fun r hr => h2 r (List.mem_append_left _ hr))
    have ht := ih h.tail (fun r hr => h2 r (List.mem_append_right _ hr))
    cases S with
    | nil => exact hs
    | cons u S =>
      obtain ⟨b1, b2⟩ := h.2.1
      refine ⟨hs, ⟨?_, fun e k => b2 ?_ (map_inj k)⟩, ht⟩
      · show s.x1 + dx ≤ u.x0 + dx; omega
      · have e' : s.x1 + dx = u.x0 + dx := e; omega
theorem form_mv {dx dy : Int} {l : List Rc} (h : IsForm l) (h2 : MvOk dx dy l) : IsForm (mvL dx dy l) := by
  obtain ⟨S, hS, rfl⟩ := h
  exact ⟨S.map (mvSb dx dy), slabs_mv hS h2, (flat_mv dx dy S).symm⟩
/-- what lies in a list can be moved as the list can. -/
theorem mv_sub {dx dy : Int} {l m : List Rc} (hl : ∀ r ∈ l, ROk r) (hm : ∀ r ∈ m, ROk r) (h2 : MvOk dx dy l) (h : ∀ x y, HasL m x y → HasL l x y) : MvOk dx dy m := fun r hr => by
  have hk := hm r hr
  obtain ⟨⟨a1, a2, a3⟩, a4, a5, a6⟩ := hm r hr
  obtain ⟨p, hp, _, p1, p2, p3, p4⟩ := h r.X0 r.Y0 ⟨r, hr, hk, by omega, by omega, by omega, by omega⟩
  obtain ⟨q, hq, _, q1, q2, q3, q4⟩ := h (r.X1 - 1) (r.Y1 - 1) ⟨r, hr, hk, by omega, by omega, by omega, by omega⟩
  obtain ⟨⟨b1, b2, b3⟩, b4, b5, b6⟩ := h2 p hp
  obtain ⟨⟨c1, c2, c3⟩, c4, c5, c6⟩ := h2 q hq
  simp only [mvR] at b1 b2 b3 b4 b5 b6 c1 c2 c3 c4 c5 c6
  refine ⟨⟨?_, ?_, ?_⟩, ?_, ?_, ?_⟩ <;> simp only [mvR] <;> omega
/-! ### solids that are moved -/
def mvX (b : V3) (k : Bx) : Bx := ⟨mvR b.x b.y k.r, k.z0 + b.z, k.z1 + b.z⟩
def mvSl (b : V3) (s : Sl) : Sl := ⟨s.z0 + b.z, s.z1 + b.z, mvL b.x b.y s.ar⟩
theorem mvL_inj {dx dy : Int} {l m : List Rc} (h : mvL dx dy l = mvL dx dy m) : l = m := by
  have := congrArg (mvL (-dx) (-dy)) h
  rw [mv_back, mv_back] at this
  exact this
theorem mv_hasB {b : V3} {l : List Bx} (h : ∀ k ∈ l, BOk k) (h2 : ∀ k ∈ l, BOk (mvX b k)) (x y z : Int) : HasB (l.map (mvX b)) (x + b.x) (y + b.y) (z + b.z) ↔ HasB l x y z := by
  constructor
  · rintro ⟨k', hk, k1, k2, k3⟩
    obtain ⟨k, hq, rfl⟩ := List.mem_map.1 hk
    have e := (mv_hasR (h k hq).1 (h2 k hq).1 (x + b.x) (y + b.y)).1 k1
    rw [show x + b.x - b.x = x by omega, show y + b.y - b.y = y by omega] at e
    simp only [mvX] at k2 k3
    exact ⟨k, hq, e, by omega, by omega⟩
  · rintro ⟨k, hk, k1, k2, k3⟩
    refine ⟨mvX b k, List.mem_map.2 ⟨k, hk, rfl⟩, (mv_hasR (h k hk).1 (h2 k hk).1 (x + b.x) (y + b.y)).2 ?_, ?_, ?_⟩
    · rw [show x + b.x - b.x = x by omega, show y + b.y - b.y = y by omega]; exact k1
    · simp only [mvX]; omega
    · simp only [mvX]; omega
/-- a slab of the solid of some boxes that can be moved can be moved. -/
theorem mv_slab {b : V3} {l : List Bx} (h2 : ∀ k ∈ l, BOk (mvX b k)) {s : Sl} (hs : SlOk s) (hc : ∀ x y z, s.z0 ≤ z → z < s.z1 → HasL s.ar x y → HasB l x y z) : SlOk (mvSl b s) := by
  obtain ⟨⟨hz0, hz1, hz2⟩, hne, hf⟩ := hs
  have key : ∀ r ∈ s.ar, ROk (mvR b.x b.y r) ∧ 0 ≤ s.z0 + b.z ∧ s.z1 + b.z ≤ 4096 := by
    intro r hr
    have hk := form_ok hf r hr
    obtain ⟨⟨a1, a2, a3⟩, a4, a5, a6⟩ := form_ok hf r hr
    obtain ⟨p, hp, ⟨_, p1, p2, p3, p4⟩, p5, p6⟩ := hc r.X0 r.Y0 s.z0 (by omega) (by omega) ⟨r, hr, hk, by omega, by omega, by omega, by omega⟩
    obtain ⟨q, hq, ⟨_, q1, q2, q3, q4⟩, q5, q6⟩ := hc (r.X1 - 1) (r.Y1 - 1) (s.z1 - 1) (by omega) (by omega) ⟨r, hr, hk, by omega, by omega, by omega, by omega⟩
    obtain ⟨⟨⟨b1, b2, b3⟩, b4, b5, b6⟩, b7, b8, b9⟩ := h2 p hp
    obtain ⟨⟨⟨c1, c2, c3⟩, c4, c5, c6⟩, c7, c8, c9⟩ := h2 q hq
    simp only [mvX, mvR] at b1 b2 b3 b4 b5 b6 b7 b8 b9 c1 c2 c3 c4 c5 c6 c7 c8 c9
    refine ⟨⟨⟨?_, ?_, ?_⟩, ?_, ?_, ?_⟩, ?_, ?_⟩ <;> (try simp only [mvR]) <;> omega
  obtain ⟨r, hr⟩ := List.exists_mem_of_ne_nil _ hne
  refine ⟨⟨(key r hr).2.1, ?_, (key r hr).2.2⟩, fun e => hne (List.map_eq_nil_iff.1 e), form_mv hf (fun r hr => (key r hr).1)⟩
  simp only [mvSl]; omega
theorem sform_mv {b : V3} : ∀ {S : List Sl}, SForm S → (∀ s ∈ S, SlOk (mvSl b s)) → SForm (S.map (mvSl b)) := by
  intro S
  induction S with
  | nil => intro _ _; trivial
  | cons s S ih =>
    intro h h2
    have h0 := h2 s List.mem_cons_self
    have ht := ih h.tail (fun u hu => h2 u (List.mem_cons_of_mem _ hu))
    cases S with
    | nil => exact h0
    | cons u S =>
      obtain ⟨b1, b2⟩ := h.2.1
      refine ⟨h0, ⟨?_, fun e k => b2 ?_ (mvL_inj k)⟩, ht⟩
      · show s.z1 + b.z ≤ u.z0 + b.z; omega
      · have e' : s.z1 + b.z = u.z0 + b.z := e; omega
theorem sec_mv (b : V3) (S : List Sl) (z : Int) : secS (S.map (mvSl b)) (z + b.z) = mvL b.x b.y (secS S z) := by
  induction S with
  | nil => rfl
  | cons s S ih =>
    rw [List.map_cons, sec_cons, sec_cons, ih]
    have e0 : (mvSl b s).z0 = s.z0 + b.z := rfl
    have e1 : (mvSl b s).z1 = s.z1 + b.z := rfl
    rw [e0, e1]
    by_cases c : s.z0 ≤ z ∧ z < s.z1
    · rw [if_pos c, if_pos (by omega)]; rfl
    · rw [if_neg c, if_neg (by omega)]
theorem solB_mv {b : V3} {l : List Bx} (h : ∀ k ∈ l, BOk k) (h2 : ∀ k ∈ l, BOk (mvX b k)) : solB (l.map (mvX b)) = (solB l).map (mvSl b) := by
  have hS := cs_b h
  have h3 : ∀ k ∈ l.map (mvX b), BOk k := fun k hk => by
    obtain ⟨q, hq, rfl⟩ := List.mem_map.1 hk
    exact h2 q hq
  have hsl : ∀ s ∈ solB l, SlOk (mvSl b s) := fun s hs => mv_slab h2 (hS.form.each s hs) (fun x y z z0 z1 hh => (hS.cubes x y z).1 (by rw [sec_at hS.form s hs z z0 z1]; exact hh))
  have hM : CS ((solB l).map (mvSl b)) (HasB (l.map (mvX b))) := by
    refine ⟨sform_mv hS.form hsl, fun x y z => ?_⟩
    have e := sec_mv b (solB l) (z - b.z)
    rw [show z - b.z + b.z = z by omega] at e
    have k := mv_hasB (b := b) h h2 (x - b.x) (y - b.y) (z - b.z)
    rw [show x - b.x + b.x = x by omega, show y - b.y + b.y = y by omega, show z - b.z + b.z = z by omega] at k
    rw [k, ← hS.cubes, e]
    by_cases c : secS (solB l) (z - b.z) = []
    · rw [c]; exact ⟨fun ⟨r, hr, _⟩ => (by cases hr), fun ⟨r, hr, _⟩ => (by cases hr)⟩
    · obtain ⟨s, hs, s0, s1, es⟩ := sec_mem c
      have hok := hsl s hs
      rw [← es]
      exact mv_hasL (form_ok (hS.form.each s hs).form) (fun r hr => by
        have := form_ok hok.form (mvR b.x b.y r) (List.mem_map.2 ⟨r, hr, rfl⟩)
        exact this) x y
  exact (cs_b h3).eq hM (fun _ _ _ => Iff.rfl)
theorem ofS_mv {b : V3} {l : List Bx} (h : ∀ k ∈ l, BOk k) (h2 : ∀ k ∈ l, BOk (mvX b k)) : (ofS (l.map (mvX b))).2 = (ofS l).2 := by
  have h3 : ∀ k ∈ l.map (mvX b), BOk k := fun k hk => by
    obtain ⟨q, hq, rfl⟩ := List.mem_map.1 hk
    exact h2 q hq
  unfold ofS
  rw [if_pos h, if_pos h3, List.length_map, solB_mv h h2]
  by_cases c : l.length ≤ 200
  · rw [if_pos c, if_pos c]
    have e : (∀ s ∈ (solB l).map (mvSl b), s.ar.length ≤ 200) ↔ ∀ s ∈ solB l, s.ar.length ≤ 200 := by
      constructor
      · intro k s hs
        have := k _ (List.mem_map.2 ⟨s, hs, rfl⟩)
        simpa [mvSl, mv_len] using this
      · intro k s hs
        obtain ⟨q, hq, rfl⟩ := List.mem_map.1 hs
        simpa [mvSl, mv_len] using k q hq
    unfold capS
    rw [List.length_map]
    by_cases k : (solB l).length ≤ 80 ∧ ∀ s ∈ solB l, s.ar.length ≤ 200
    · rw [if_pos k, if_pos ⟨k.1, e.2 k.2⟩]
    · rw [if_neg k, if_neg (fun q => k ⟨q.1, e.1 q.2⟩)]
  · rw [if_neg c, if_neg c]
end Go.Proofs.Ytkjblmfmaenllaa
