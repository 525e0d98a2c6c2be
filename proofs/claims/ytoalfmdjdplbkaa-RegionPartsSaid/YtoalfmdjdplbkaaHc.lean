/-
  Plain mathematics of regions (layer 6): the program's way to tell that a list is a form, and to add a slab at its end. No program in this text.
-/
import Derived.Test.YtoalfmdjdplbkaaHb
set_option linter.unusedVariables false
namespace Go.Proofs.Ytoalfmdjdplbkaa

/-- the rectangles at the beginning that lie between the same x. -/
structure FirstAt (l : List Rc) (n : Nat) : Prop where
  pos : 0 < n
  le : n ≤ l.length
  same : ∀ j (h : j < l.length), j < n → l[j].X0 = (l[0]'(by omega)).X0 ∧ l[j].X1 = (l[0]'(by omega)).X1
  stop : ∀ h : n < l.length, ¬ (l[n].X0 = (l[0]'(by omega)).X0 ∧ l[n].X1 = (l[0]'(by omega)).X1)
/-- the rectangles at the end that begin at the same x. -/
structure LastAt (l : List Rc) (n : Nat) : Prop where
  le : n ≤ l.length
  same : ∀ j (h : j < l.length), n ≤ j → l[j].X0 = (l[l.length - 1]'(by omega)).X0
  stop : ∀ h : 0 < n, l[n - 1].X0 ≠ (l[l.length - 1]'(by omega)).X0
/-- the same interval of y. -/
def yyB (a b : Rc) : Bool := decide (a.Y0 = b.Y0 ∧ a.Y1 = b.Y1)
/-- two lists have the same intervals of y. -/
def yysB : List Rc → List Rc → Bool
  | [], [] => true
  | a :: l, b :: m => yyB a b && yysB l m
  | _, _ => false
/-- two slabs that are not empty are one. -/
def contB (l m : List Rc) (a b : Int) : Bool := decide (a = b) && yysB l m
/-- valid rectangles with ascending intervals of y that don't meet. -/
def IsColP (l : List Rc) : Prop := ∀ j (h : j < l.length), ROk l[j] ∧ ∀ h0 : 0 < j, l[j - 1].Y1 < l[j].Y0
theorem IsColP.tail {a : Rc} {l : List Rc} (h : IsColP (a :: l)) : IsColP l := fun j hj => by
  obtain ⟨h1, h2⟩ := h (j + 1) (by simpa using hj)
  refine ⟨by simpa using h1, fun h0 => ?_⟩
  obtain ⟨j, rfl⟩ : ∃ i, j = i + 1 := ⟨j - 1, by omega⟩
  have := h2 (by omega)
  simpa using this
def tog (l : List Rc) : List Int := l.flatMap fun r => [r.Y0, r.Y1]
theorem tog_cons (r : Rc) (l : List Rc) : tog (r :: l) = r.Y0 :: r.Y1 :: tog l := rfl
theorem tog_even (l : List Rc) : Even (tog l) := by
  induction l with
  | nil => unfold Even; rfl
  | cons r l ih => rw [tog_cons]; unfold Even at *; simp; omega
theorem tog_ok {l : List Rc} (h : IsColP l) : ColOk (tog l) := by
  refine ⟨?_, tog_even l, ?_⟩
  · induction l with
    | nil => trivial
    | cons r l ih =>
      rw [tog_cons]
      have hr := (h 0 (by simp)).1
      have ht := ih h.tail
      cases l with
      | nil => exact ⟨hr.2.2.1, trivial⟩
      | cons q l =>
        have := (h 1 (by simp)).2 (by omega)
        simp only [List.getElem_cons_succ, List.getElem_cons_zero, Nat.sub_self] at this
        rw [tog_cons] at ht ⊢
        exact ⟨hr.2.2.1, this, ht⟩
  · intro z hz
    obtain ⟨r, hr, hz⟩ := List.mem_flatMap.1 hz
    obtain ⟨j, hj, rfl⟩ := List.mem_iff_getElem.1 hr
    have := (h j hj).1.2
    unfold Span at this
    simp at hz; rcases hz with rfl | rfl <;> omega
theorem tog_rects (x0 x1 : Int) : ∀ t, Even t → tog (rectsOf x0 x1 t) = t := by
  intro t he
  refine even_ind (P := fun t => tog (rectsOf x0 x1 t) = t) rfl (fun a b t _ ih => ?_) t he
  show a :: b :: tog (rectsOf x0 x1 t) = _
  rw [ih]
theorem rects_tog {x0 x1 : Int} {l : List Rc} (h : ∀ r ∈ l, r.X0 = x0 ∧ r.X1 = x1) : rectsOf x0 x1 (tog l) = l := by
  induction l with
  | nil => rfl
  | cons r l ih =>
    rw [tog_cons]
    show (⟨x0, r.Y0, x1, r.Y1⟩ : Rc) :: rectsOf x0 x1 (tog l) = _
    rw [ih (fun q hq => h q (List.mem_cons_of_mem _ hq))]
    obtain ⟨h1, h2⟩ := h r List.mem_cons_self
    congr 1
    exact Rc.eq h1.symm rfl h2.symm rfl
theorem rects_x {x0 x1 : Int} {t : List Int} {r : Rc} (h : r ∈ rectsOf x0 x1 t) : r.X0 = x0 ∧ r.X1 = x1 := by
  unfold rectsOf at h
  obtain ⟨p, _, rfl⟩ := List.mem_map.1 h
  exact ⟨rfl, rfl⟩
theorem rects_ne {x0 x1 : Int} {t : List Int} (he : Even t) (hne : t ≠ []) : 0 < (rectsOf x0 x1 t).length := by
  match t with
  | [] => exact absurd rfl hne
  | [a] => exact absurd he (by unfold Even; simp)
  | a :: b :: t => simp [rectsOf, twos]
theorem first_y {x0 x1 b : Int} : ∀ {t : List Int}, Asc (b :: t) → ∀ h : 0 < (rectsOf x0 x1 t).length, b < ((rectsOf x0 x1 t)[0]).Y0 := by
  intro t ha h
  match t with
  | [] => simp [rectsOf, twos] at h
  | [c] => simp [rectsOf, twos] at h
  | c :: d :: t => exact ha.1
theorem tog_len (l : List Rc) : (tog l).length = 2 * l.length := by
  induction l with
  | nil => rfl
  | cons r l ih => rw [tog_cons]; simp [ih]; omega
theorem rects_col {x0 x1 : Int} (hx : Span x0 x1) : ∀ t, Even t → Asc t → InG t → IsColP (rectsOf x0 x1 t) := by
  intro t he
  refine even_ind (P := fun t => Asc t → InG t → IsColP (rectsOf x0 x1 t)) (fun _ _ j h => by simp [rectsOf, twos] at h) (fun a b t he ih ha hg => ?_) t he
  have e : rectsOf x0 x1 (a :: b :: t) = ⟨x0, a, x1, b⟩ :: rectsOf x0 x1 t := rfl
  have hga := hg a List.mem_cons_self
  have hgb := hg b (List.mem_cons_of_mem _ List.mem_cons_self)
  have ih := ih ha.2.tail (fun z hz => hg z (List.mem_cons_of_mem _ (List.mem_cons_of_mem _ hz)))
  intro j hj
  simp only [e] at hj ⊢
  cases j with
  | zero => exact ⟨⟨hx, hga.1, ha.1, hgb.2⟩, fun h => absurd h (Nat.lt_irrefl _)⟩
  | succ j =>
    obtain ⟨k1, k2⟩ := ih j (by simpa using hj)
    refine ⟨by simpa using k1, fun _ => ?_⟩
    cases j with
    | zero =>
      simp only [List.getElem_cons_succ, List.getElem_cons_zero, Nat.add_sub_cancel]
      exact first_y ha.2 _
    | succ j =>
      have := k2 (by omega)
      simpa using this
theorem yys_refl : ∀ l : List Rc, yysB l l = true := by
  intro l
  induction l with
  | nil => rfl
  | cons a l ih => simp [yysB, ih, yyB]
theorem yys_tog : ∀ {l m : List Rc}, yysB l m = true ↔ tog l = tog m := by
  intro l
  induction l with
  | nil => intro m; cases m with
    | nil => simp [yysB]
    | cons b m => simp [yysB, tog]
  | cons a l ih =>
    intro m
    cases m with
    | nil => simp [yysB, tog]
    | cons b m => rw [tog_cons, tog_cons]; simp [yysB, yyB, ih, and_assoc]
theorem yys_rects {a b c d : Int} {s t : List Int} (hs : Even s) (ht : Even t) : yysB (rectsOf a b s) (rectsOf c d t) = true ↔ s = t := by
  rw [yys_tog, tog_rects _ _ _ hs, tog_rects _ _ _ ht]

/-! ### the first slab -/
theorem flat_cons (t : Slab) (T : List Slab) : flatS (t :: T) = rectsOf t.x0 t.x1 t.t ++ flatS T := by simp [flatS]
theorem flat_append (S T : List Slab) : flatS (S ++ T) = flatS S ++ flatS T := by simp [flatS]
theorem first_slab {t : Slab} {T : List Slab} (h : SlabsOk (t :: T)) {n : Nat} (hn : FirstAt (flatS (t :: T)) n) : n = (rectsOf t.x0 t.x1 t.t).length := by
  have k := h.head
  have hp := rects_ne (x0 := t.x0) (x1 := t.x1) k.ev k.ne
  obtain ⟨h1, h2, h3, h4⟩ := hn
  have e0 : ((flatS (t :: T))[0]'(by rw [flat_cons, List.length_append]; omega)).X0 = t.x0 := by
    simp only [flat_cons]
    rw [List.getElem_append_left hp]
    exact (rects_x (List.getElem_mem hp)).1
  have e1 : ((flatS (t :: T))[0]'(by rw [flat_cons, List.length_append]; omega)).X1 = t.x1 := by
    simp only [flat_cons]
    rw [List.getElem_append_left hp]
    exact (rects_x (List.getElem_mem hp)).2
  rcases Nat.lt_trichotomy n (rectsOf t.x0 t.x1 t.t).length with c | c | c
  · exfalso
    refine h4 (by rw [flat_cons, List.length_append]; omega) ⟨?_, ?_⟩
    · rw [e0]; simp only [flat_cons]; rw [List.getElem_append_left c]; exact (rects_x (List.getElem_mem c)).1
    · rw [e1]; simp only [flat_cons]; rw [List.getElem_append_left c]; exact (rects_x (List.getElem_mem c)).2
  · exact c
  · exfalso
    have hlen : (rectsOf t.x0 t.x1 t.t).length < (flatS (t :: T)).length := by omega
    have := (h3 _ hlen c).1
    rw [e0] at this
    simp only [flat_cons] at this hlen
    rw [List.getElem_append_right (Nat.le_refl _)] at this
    rw [List.length_append] at hlen
    have hm : (flatS T)[(rectsOf t.x0 t.x1 t.t).length - (rectsOf t.x0 t.x1 t.t).length]'(by omega) ∈ flatS T := List.getElem_mem _
    obtain ⟨u, hu, hr⟩ := List.mem_flatMap.1 hm
    have g1 := (rects_x hr).1
    have g2 := h.after u hu
    have g3 := k.x.2.1
    rw [g1] at this
    omega

theorem SlabsOk.right : ∀ {S T : List Slab}, SlabsOk (S ++ T) → SlabsOk T := by
  intro S
  induction S with
  | nil => intro T h; exact h
  | cons s S ih => intro T h; exact ih h.tail
theorem SlabsOk.before : ∀ {T : List Slab} {s : Slab}, SlabsOk (T ++ [s]) → ∀ u ∈ T, u.x1 ≤ s.x0 := by
  intro T
  induction T with
  | nil => intro s _ u hu; cases hu
  | cons v T ih =>
    intro s h u hu
    rcases List.mem_cons.1 hu with rfl | hu
    · exact h.after s (by simp)
    · exact ih h.tail u hu
/-! ### telling a form -/
structure RightAt (a : List Rc) (k : Nat) (L : List Rc) : Prop where
  le : k ≤ a.length
  ex : ∃ S, SlabsOk S ∧ a.take k = flatS S ∧ (∀ T, SlabsOk T → a = flatS T → ∃ T', T = S ++ T') ∧ ((S = [] ∧ L = []) ∨ ∃ S' s, S = S' ++ [s] ∧ L = rectsOf s.x0 s.x1 s.t)
theorem RightAt.start (a : List Rc) : RightAt a 0 [] := ⟨Nat.zero_le _, [], trivial, rfl, fun T _ _ => ⟨T, rfl⟩, Or.inl ⟨rfl, rfl⟩⟩
theorem RightAt.done {a L : List Rc} (h : RightAt a a.length L) : IsForm a := by
  obtain ⟨S, h1, h2, _⟩ := h.ex
  exact ⟨S, h1, by rw [← h2, List.take_length]⟩
/-- what a form has next. -/
theorem RightAt.form {a L : List Rc} {k n : Nat} (h : RightAt a k L) (hk : k < a.length) (hn : FirstAt (a.drop k) n) (hf : IsForm a) :
    ∃ t, SlabOk t ∧ (a.drop k).take n = rectsOf t.x0 t.x1 t.t ∧ ∀ s : Slab, SlabOk s → L = rectsOf s.x0 s.x1 s.t → s.x1 ≤ t.x0 ∧ (s.x1 = t.x0 → s.t ≠ t.t) := by
  obtain ⟨S, h1, h2, h3, h4⟩ := h.ex
  obtain ⟨T, hT, rfl⟩ := hf
  obtain ⟨T', rfl⟩ := h3 T hT rfl
  rw [flat_append] at *
  have hl : k = (flatS S).length := by
    have := congrArg List.length h2
    rw [List.length_take, List.length_append] at this
    rw [List.length_append] at hk
    omega
  subst hl
  rw [List.drop_left] at *
  cases T' with
  | nil => simp [flatS] at hk
  | cons t T' =>
    have hT2 : SlabsOk (t :: T') := hT.right
    have e := first_slab hT2 hn
    refine ⟨t, hT2.head, by rw [e, flat_cons, List.take_left], fun s hs hL => ?_⟩
    rcases h4 with ⟨rfl, hL2⟩ | ⟨S', s', rfl, hL2⟩
    · rw [hL2] at hL
      have := rects_ne (x0 := s.x0) (x1 := s.x1) hs.ev hs.ne
      rw [← hL] at this; simp at this
    · have hs' : SlabOk s' := h1.each s' (by simp)
      have hb : Behind s' t := by
        clear h2 h3 hn hk h h1 hL hL2 e
        induction S' with
        | nil => exact hT.2.1
        | cons u S' ih => exact ih hT.tail
      have e1 : s'.t = s.t := by
        have := congrArg tog (hL2.symm.trans hL)
        rw [tog_rects _ _ _ hs'.ev, tog_rects _ _ _ hs.ev] at this
        exact this
      have e2 : s'.x1 = s.x1 := by
        have hp := rects_ne (x0 := s'.x0) (x1 := s'.x1) hs'.ev hs'.ne
        rw [← hL2] at hp
        obtain ⟨r, hr⟩ : ∃ r, r ∈ L := ⟨L[0], List.getElem_mem hp⟩
        have a1 := hr
        rw [hL2] at a1
        rw [hL] at hr
        rw [← (rects_x a1).2]; exact (rects_x hr).2
      rw [← e1, ← e2]
      exact hb
/-- the next slab fits. -/
theorem RightAt.step {a L : List Rc} {k n : Nat} (h : RightAt a k L) (hn : FirstAt (a.drop k) n) (hk : k < a.length) (hc : IsColP ((a.drop k).take n))
    (hb : ∀ (h1 : 0 < L.length) (h2 : 0 < ((a.drop k).take n).length), L[0].X1 ≤ ((a.drop k).take n)[0].X0 ∧ contB L ((a.drop k).take n) L[0].X1 ((a.drop k).take n)[0].X0 = false) : RightAt a (k + n) ((a.drop k).take n) := by
  obtain ⟨S, h1, h2, h3, h4⟩ := h.ex
  obtain ⟨n1, n2, n3, n4⟩ := hn
  rw [List.length_drop] at n2
  generalize hR : (a.drop k).take n = R at *
  have hRl : R.length = n := by rw [← hR, List.length_take, List.length_drop]; omega
  have h0 : 0 < R.length := by omega
  have hx : ∀ r ∈ R, r.X0 = R[0].X0 ∧ r.X1 = R[0].X1 := fun r hr => by
    obtain ⟨j, hj, rfl⟩ := List.mem_iff_getElem.1 hr
    have q := n3 j (by rw [List.length_drop]; omega) (by omega)
    have e1 : R[j] = (a.drop k)[j]'(by rw [List.length_drop]; omega) := by simp only [← hR, List.getElem_take]
    have e2 : R[0] = (a.drop k)[0]'(by rw [List.length_drop]; omega) := by simp only [← hR, List.getElem_take]
    rw [e1, e2]; exact q
  have hrt : rectsOf R[0].X0 R[0].X1 (tog R) = R := rects_tog hx
  have hok := tog_ok hc
  have hu : SlabOk ⟨R[0].X0, R[0].X1, tog R⟩ := by
    refine ⟨(hc 0 h0).1.1, fun e => ?_, hok.asc, hok.ev, hok.gr⟩
    have e' : tog R = [] := e
    have := tog_len R
    rw [e'] at this
    simp at this; omega
  refine ⟨by have := h.le; omega, S ++ [⟨R[0].X0, R[0].X1, tog R⟩], ?_, ?_, fun T hT e => ?_, Or.inr ⟨S, _, rfl, hrt.symm⟩⟩
  · refine h1.snoc hu (fun s hs => ?_)
    rcases h4 with ⟨rfl, _⟩ | ⟨S', s', rfl, hL⟩
    · simp at hs
    · simp at hs
      subst hs
      have hs' : SlabOk s' := h1.each s' (by simp)
      have hp := rects_ne (x0 := s'.x0) (x1 := s'.x1) hs'.ev hs'.ne
      rw [← hL] at hp
      obtain ⟨q1, q2⟩ := hb hp h0
      have e1 : L[0].X1 = s'.x1 := by
        have m : L[0] ∈ rectsOf s'.x0 s'.x1 s'.t := by rw [← hL]; exact List.getElem_mem hp
        exact (rects_x m).2
      rw [e1] at q1 q2
      refine ⟨q1, fun q3 q4 => ?_⟩
      have : contB L R s'.x1 R[0].X0 = true := by
        unfold contB
        rw [decide_eq_true q3, Bool.true_and, hL, yys_tog, tog_rects _ _ _ hs'.ev]
        exact q4
      rw [this] at q2; cases q2
  · rw [List.take_add, h2, hR, flat_append]
    congr 1
    rw [flat_cons]; simp only []; rw [hrt]; simp [flatS]
  · obtain ⟨T', rfl⟩ := h3 T hT e
    have hl : k = (flatS S).length := by
      have := congrArg List.length h2
      rw [List.length_take] at this; omega
    have hd : a.drop k = flatS T' := by rw [e, flat_append, hl, List.drop_left]
    cases T' with
    | nil => exfalso; have := congrArg List.length hd; rw [List.length_drop] at this; simp [flatS] at this; omega
    | cons t T' =>
      have hT2 : SlabsOk (t :: T') := hT.right
      have hn' : FirstAt (flatS (t :: T')) n := by rw [← hd]; exact ⟨n1, by rw [List.length_drop]; exact n2, n3, n4⟩
      have en := first_slab hT2 hn'
      have eR : R = rectsOf t.x0 t.x1 t.t := by rw [← hR, hd, en, flat_cons, List.take_left]
      have ht := hT2.head
      have m : R[0] ∈ rectsOf t.x0 t.x1 t.t := by rw [← eR]; exact List.getElem_mem h0
      have g1 := rects_x m
      refine ⟨T', ?_⟩
      rw [List.append_assoc]
      congr 1
      show t :: T' = _ :: T'
      congr 1
      cases t with
      | mk p0 p1 pt =>
        simp only at g1 eR ht
        rw [Slab.mk.injEq]
        exact ⟨g1.1.symm, g1.2.symm, by rw [eR, tog_rects _ _ _ ht.ev]⟩
/-! ### adding a slab at the end -/
theorem last_slab {T : List Slab} {s : Slab} (h : SlabsOk (T ++ [s])) {n : Nat} (hn : LastAt (flatS (T ++ [s])) n) (hlt : n < (flatS (T ++ [s])).length) : n = (flatS T).length := by
  have hs := h.each s (by simp)
  have hp := rects_ne (x0 := s.x0) (x1 := s.x1) hs.ev hs.ne
  have e : flatS (T ++ [s]) = flatS T ++ rectsOf s.x0 s.x1 s.t := by rw [flat_append, flat_cons]; simp [flatS]
  obtain ⟨h1, h2, h3⟩ := hn
  have hlen : (flatS (T ++ [s])).length = (flatS T).length + (rectsOf s.x0 s.x1 s.t).length := by rw [e, List.length_append]
  have e0 : ((flatS (T ++ [s]))[(flatS (T ++ [s])).length - 1]'(by omega)).X0 = s.x0 := by
    have m : (flatS (T ++ [s]))[(flatS (T ++ [s])).length - 1]'(by omega) ∈ rectsOf s.x0 s.x1 s.t := by
      simp only [e]
      rw [List.getElem_append_right (by rw [List.length_append]; omega)]
      exact List.getElem_mem _
    exact (rects_x m).1
  rcases Nat.lt_trichotomy n (flatS T).length with c | c | c
  · exfalso
    have := h2 n hlt (Nat.le_refl _)
    rw [e0] at this
    have hm : (flatS (T ++ [s]))[n] ∈ flatS T := by simp only [e]; rw [List.getElem_append_left c]; exact List.getElem_mem _
    obtain ⟨u, hu, hr⟩ := List.mem_flatMap.1 hm
    have g1 := (rects_x hr).1
    obtain ⟨h5, _, h6⟩ := h.init
    have g4 := h.each u (List.mem_append_left _ hu)
    have g5 : u.x1 ≤ s.x0 := h.before u hu
    have g6 := g4.x.2.1
    rw [g1] at this
    omega
  · exact c
  · exfalso
    refine h3 (by omega) ?_
    rw [e0]
    have m : (flatS (T ++ [s]))[n - 1]'(by omega) ∈ rectsOf s.x0 s.x1 s.t := by
      simp only [e]
      rw [List.getElem_append_right (by omega)]
      exact List.getElem_mem _
    exact (rects_x m).1
theorem rects_wide' (x0 x1 b : Int) (t : List Int) : (rectsOf x0 x1 t).map (fun r => (⟨r.X0, r.Y0, b, r.Y1⟩ : Rc)) = rectsOf x0 b t := by
  unfold rectsOf; rw [List.map_map]; rfl
end Go.Proofs.Ytoalfmdjdplbkaa
