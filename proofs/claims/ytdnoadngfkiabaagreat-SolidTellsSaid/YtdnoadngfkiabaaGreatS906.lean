/-
  Contracts of the program's layer 6 (5): what column works on: the counts of the lists, and the rectangles so far.
  Plain mathematics of solids (layer 9), 1: lists of slabs, cross-sections, the one form of a set of cubes, and how it grows. No program in this text.
-/
import Derived.Test.YtdnoadngfkiabaaGreatS902
import Derived.Test.YtdnoadngfkiabaaGreatS905
import Derived.Test.YtdnoadngfkiabaaGreatS900
set_option linter.unusedVariables false
set_option maxRecDepth 100000
namespace Go.Proofs.YtdnoadngfkiabaaGreat
open Go.RowKit

/-- a list of sides that can be read, in a block below B. -/
def EdRow (w : World) (B : Nat) (A : Option Addr) (E : List Ed) : Prop := 0 < E.length → ∃ b off, A = some ⟨b, off, none⟩ ∧ b < B ∧ b < w.heap.size ∧
  ∀ j (h : j < E.length), w.cell? ⟨b, off + j * 5, none⟩ = some (.int .i64 E[j].x0) ∧ w.cell? ⟨b, off + j * 5 + 1, none⟩ = some (.int .i64 E[j].x1) ∧ w.cell? ⟨b, off + j * 5 + 2, none⟩ = some (.int .i64 E[j].y) ∧ w.cell? ⟨b, off + j * 5 + 3, none⟩ = some (.int .i64 (E[j].l : Int)) ∧ w.cell? ⟨b, off + j * 5 + 4, none⟩ = some (.int .i64 E[j].s)
theorem EdRow.below {w w' : World} {B B' : Nat} {A : Option Addr} {E : List Ed} (h : EdRow w B A E) (hb : Below B' w w') (hB : B ≤ B') : EdRow w' B A E := fun h0 => by
  obtain ⟨b, off, rfl, hB2, hl, hc⟩ := h h0
  have e := fun o => hb.cell (p := ⟨b, o, none⟩) (show b < B' by omega)
  refine ⟨b, off, rfl, hB2, Nat.lt_of_lt_of_le hl hb.size, fun j hj => ?_⟩
  obtain ⟨h0, h1, h2, h3, h4⟩ := hc j hj
  exact ⟨(e _).trans h0, (e _).trans h1, (e _).trans h2, (e _).trans h3, (e _).trans h4⟩
structure CW (nb m cn : Nat) (c : List Int) (v : Value) (l : List Rc) (w wr : World) : Prop where
  n : wr.ownsRow nb 3 1 (.slice (some ⟨nb, 0, none⟩) m cn) m (icells c)
  own : wr.ownsRow w.heap.size 33 4 v l.length (rcells l)
  bel : Below nb w wr
  lt : nb < w.heap.size
section
variable {nb m cn : Nat} {c : List Int} {v : Value} {l : List Rc} {w wr w' : World}
theorem CW.go (h : CW nb m cn c v l w wr) (hb : Below wr.heap.size wr w') : CW nb m cn c v l w w' :=
  ⟨own_go h.n hb, own_go h.own hb, h.bel.trans (hb.mono (Nat.le_of_lt (Nat.lt_of_lt_of_le h.lt h.bel.size))), h.lt⟩
theorem CW.len (h : CW nb m cn c v l w wr) : c.length = m := by have := h.n.1; simpa [icells] using this
theorem CW.cell (h : CW nb m cn c v l w wr) (j : Nat) (hj : j < c.length) : wr.cell? ⟨nb, j, none⟩ = some (.int .i64 c[j]) := by
  have := h.len
  rw [h.n.cellAt j (by omega)]; simp [icells, hj]
theorem CW.irow (h : CW nb m cn c v l w wr) : IRow wr (some ⟨nb, 0, none⟩) c := fun _ =>
  ⟨nb, 0, rfl, (h.n.lt nb rfl).2, fun j hj => by rw [Nat.zero_add]; exact h.cell j hj⟩
theorem CW.setn (h : CW nb m cn c v l w wr) (j : Nat) (x : Int) : CW nb m cn (c.set j x) v l w (wr.setCell ⟨nb, j, none⟩ (.int .i64 x)) := by
  obtain ⟨h1, h2⟩ := h.n.stored j (.int .i64 x)
  refine ⟨?_, own_stays h.own (fun g hg => set_other _ _ _ _ ?_), h.bel.setCell (Nat.le_refl _) _, h.lt⟩
  · rw [show icells (c.set j x) = (icells c).set j (.int .i64 x) by simp [icells, List.map_set]]; exact h1
  · have := (h.own.lt g hg).1; have := h.lt; simp only; omega
theorem CW.grown (h : CW nb m cn c v l w wr) {v' : Value} {l' : List Rc} (ho : w'.ownsRow w.heap.size 33 4 v' l'.length (rcells l')) (hg : wr.grownBy w' v.ownBlock) : CW nb m cn c v' l' w w' := by
  refine ⟨own_stays h.n (fun g hg2 => ?_), ho, Below.grown h.bel hg (Nat.le_of_lt (Nat.lt_of_lt_of_le h.lt h.bel.size)) (fun k hk => ?_), h.lt⟩
  · obtain rfl : nb = g := by simpa [Value.ownBlock] using hg2
    refine hg.block nb (h.n.lt nb rfl).2 (fun e => ?_)
    have := (h.own.lt nb e.symm).1; have := h.lt; omega
  · have := (h.own.lt k hk).1; have := h.lt; omega
theorem CW.setr (h : CW nb m cn c v l w wr) {g cap : Nat} (hv : v = .slice (some ⟨g, 0, none⟩) l.length cap) {j : Nat} {x : Int} {l' : List Rc} (hl : l'.length = l.length) (he : (rcells l).set j (.int .i64 x) = rcells l') : CW nb m cn c v l' w (wr.setCell ⟨g, j, none⟩ (.int .i64 x)) := by
  subst hv
  have hg := (h.own.lt g rfl).1
  have hn := h.lt
  obtain ⟨h1, h2⟩ := h.own.stored j (.int .i64 x)
  refine ⟨own_stays h.n (fun g2 hg2 => set_other _ _ _ _ ?_), ?_, h.bel.setCell (show nb ≤ g by omega) _, h.lt⟩
  · obtain rfl : nb = g2 := by simpa [Value.ownBlock] using hg2
    simp only; omega
  · rw [he] at h1; rw [hl]; exact h1
end
theorem cnt_bound (a b : Int) (k : Nat) {E : List Ed} (h : ∀ e ∈ E, e.s = 1 ∨ e.s = -1) : -(E.length : Int) ≤ sumE (ctE a b k) E ∧ sumE (ctE a b k) E ≤ E.length := by
  induction E with
  | nil => exact ⟨by simp [sumE], by simp [sumE]⟩
  | cons e E ih =>
    have h1 := h e List.mem_cons_self
    obtain ⟨h2, h3⟩ := ih (fun g hg => h g (List.mem_cons_of_mem _ hg))
    show _ ≤ ctE a b k e + sumE (ctE a b k) E ∧ ctE a b k e + sumE (ctE a b k) E ≤ _
    have h4 : -1 ≤ ctE a b k e ∧ ctE a b k e ≤ 1 := by unfold ctE; split <;> omega
    simp only [List.length_cons]
    omega
theorem cnts_next (a b : Int) (m : Nat) (E : List Ed) (k : Nat) (h : k < E.length) : cntsE a b m (E.take (k + 1)) = if E[k].x0 ≤ a ∧ b ≤ E[k].x1 then (cntsE a b m (E.take k)).modify E[k].l (· + E[k].s) else cntsE a b m (E.take k) := by
  rw [List.take_succ_eq_append_getElem h, cntsE_snoc]
theorem modify_set (c : List Int) (j : Nat) (h : j < c.length) (s : Int) : c.modify j (· + s) = c.set j (c[j] + s) := by
  apply List.ext_getElem
  · simp
  · intro i h1 h2
    rw [List.getElem_modify, List.getElem_set]
    by_cases e : j = i
    · subst e; simp
    · simp [e]
end Go.Proofs.YtdnoadngfkiabaaGreat
namespace Go.Proofs.YtdnoadngfkiabaaGreat

/-- a slab of a solid: heights and cross-section. -/
structure Sl where
  z0 : Int
  z1 : Int
  ar : List Rc
theorem Sl.eq {s u : Sl} (h0 : s.z0 = u.z0) (h1 : s.z1 = u.z1) (h2 : s.ar = u.ar) : s = u := by
  cases s; cases u; simp at h0 h1 h2; subst h0; subst h1; subst h2; rfl
def HOk (a b : Int) : Prop := 0 ≤ a ∧ a < b ∧ b ≤ 4096
instance (a b : Int) : Decidable (HOk a b) := by unfold HOk; infer_instance
structure SlOk (s : Sl) : Prop where
  h : HOk s.z0 s.z1
  ne : s.ar ≠ []
  form : IsForm s.ar
/-- one slab above the other; where they meet their areas differ. -/
def SlB (s u : Sl) : Prop := s.z1 ≤ u.z0 ∧ (s.z1 = u.z0 → s.ar ≠ u.ar)
def SForm : List Sl → Prop
  | [] => True
  | [s] => SlOk s
  | s :: u :: S => SlOk s ∧ SlB s u ∧ SForm (u :: S)
theorem SForm.head {s : Sl} {S : List Sl} (h : SForm (s :: S)) : SlOk s := by
  cases S with
  | nil => exact h
  | cons u S => exact h.1
theorem SForm.tail {s : Sl} {S : List Sl} (h : SForm (s :: S)) : SForm S := by
  cases S with
  | nil => trivial
  | cons u S => exact h.2.2
theorem SForm.after {s : Sl} {S : List Sl} (h : SForm (s :: S)) : ∀ u ∈ S, s.z1 ≤ u.z0 := by
  induction S generalizing s with
  | nil => intro u hu; cases hu
  | cons v S ih =>
    intro u hu
    rcases List.mem_cons.1 hu with rfl | hu
    · exact h.2.1.1
    · have h1 := ih h.2.2 u hu
      have h2 := h.2.1.1
      have h3 := h.2.2.head.h.2.1
      omega
theorem SForm.each : ∀ {S : List Sl}, SForm S → ∀ s ∈ S, SlOk s := by
  intro S
  induction S with
  | nil => intro _ s hs; cases hs
  | cons u S ih =>
    intro h s hs
    rcases List.mem_cons.1 hs with rfl | hs
    · exact h.head
    · exact ih h.tail s hs
/-- the cross-section at a height: the area of the first slab that has it. -/
def secS : List Sl → Int → List Rc
  | [], _ => []
  | s :: S, z => if s.z0 ≤ z ∧ z < s.z1 then s.ar else secS S z
theorem sec_cons (s : Sl) (S : List Sl) (z : Int) : secS (s :: S) z = if s.z0 ≤ z ∧ z < s.z1 then s.ar else secS S z := rfl
theorem sec_below : ∀ {S : List Sl} {z : Int}, (∀ u ∈ S, z < u.z0) → secS S z = [] := by
  intro S
  induction S with
  | nil => intro z _; rfl
  | cons s S ih =>
    intro z h
    have := h s List.mem_cons_self
    rw [sec_cons, if_neg (by omega)]
    exact ih (fun u hu => h u (List.mem_cons_of_mem _ hu))
theorem sec_above : ∀ {S : List Sl} {z : Int}, (∀ u ∈ S, u.z1 ≤ z) → secS S z = [] := by
  intro S
  induction S with
  | nil => intro z _; rfl
  | cons s S ih =>
    intro z h
    have := h s List.mem_cons_self
    rw [sec_cons, if_neg (by omega)]
    exact ih (fun u hu => h u (List.mem_cons_of_mem _ hu))
theorem sec_mem : ∀ {S : List Sl} {z : Int}, secS S z ≠ [] → ∃ s ∈ S, s.z0 ≤ z ∧ z < s.z1 ∧ s.ar = secS S z := by
  intro S
  induction S with
  | nil => intro z h; exact absurd rfl h
  | cons s S ih =>
    intro z h
    rw [sec_cons] at h ⊢
    by_cases c : s.z0 ≤ z ∧ z < s.z1
    · rw [if_pos c]; exact ⟨s, List.mem_cons_self, c.1, c.2, rfl⟩
    · rw [if_neg c] at h ⊢
      obtain ⟨u, hu, k⟩ := ih h
      exact ⟨u, List.mem_cons_of_mem _ hu, k⟩
theorem sec_rest {s : Sl} {S : List Sl} {z : Int} (h : s.z1 ≤ z) : secS (s :: S) z = secS S z := by rw [sec_cons, if_neg (by omega)]
theorem sec_low {s : Sl} {S : List Sl} (h : SForm (s :: S)) {z : Int} (hz : z < s.z1) : secS S z = [] := sec_below (fun u hu => by have := h.after u hu; omega)
theorem sec_form {S : List Sl} (h : SForm S) (z : Int) : IsForm (secS S z) := by
  by_cases e : secS S z = []
  · rw [e]; exact ⟨[], trivial, rfl⟩
  · obtain ⟨s, hs, _, _, k⟩ := sec_mem e
    rw [← k]; exact (h.each s hs).form
/-- the end of the first slab is told by the cross-sections. -/
theorem end_le {s u : Sl} {S T : List Sl} (hS : SForm (s :: S)) (hT : SForm (u :: T)) (h0 : s.z0 = u.z0) (ha : s.ar = u.ar) (h : ∀ z, secS (s :: S) z = secS (u :: T) z) : u.z1 ≤ s.z1 := by
  rcases Int.lt_or_le s.z1 u.z1 with c | c
  · have k := h s.z1
    have k1 := hS.head.h.2.1
    have k2 : secS (u :: T) s.z1 = u.ar := by rw [sec_cons, if_pos (by omega)]
    rw [k2, sec_rest (Int.le_refl _)] at k
    cases S with
    | nil => exact absurd k.symm hT.head.ne
    | cons v S =>
      have b := hS.2.1
      rcases Int.lt_or_le s.z1 v.z0 with d | d
      · rw [sec_below (fun x hx => by
          rcases List.mem_cons.1 hx with rfl | hx
          · exact d
          · have := hS.tail.after x hx
            have := hS.tail.head.h.2.1
            omega)] at k
        exact absurd k.symm hT.head.ne
      · have e : s.z1 = v.z0 := by have := b.1; omega
        have := hS.tail.head.h.2.1
        rw [sec_cons, if_pos (by omega)] at k
        exact absurd (by rw [ha, k]) (b.2 e)
  · exact c
theorem solid_eq : ∀ {S T : List Sl}, SForm S → SForm T → (∀ z, secS S z = secS T z) → S = T := by
  intro S
  induction S with
  | nil =>
    intro T _ hT h
    cases T with
    | nil => rfl
    | cons u T =>
      have k := h u.z0
      have := hT.head.h.2.1
      rw [sec_cons, if_pos (by omega)] at k
      exact absurd k.symm hT.head.ne
  | cons s S ih =>
    intro T hS hT h
    cases T with
    | nil =>
      have k := h s.z0
      have := hS.head.h.2.1
      rw [sec_cons, if_pos (by omega)] at k
      exact absurd k hS.head.ne
    | cons u T =>
      have p1 := hS.head.h.2.1
      have p2 := hT.head.h.2.1
      have low : ∀ {s u : Sl} {S T : List Sl}, SForm (s :: S) → SForm (u :: T) → (∀ z, secS (s :: S) z = secS (u :: T) z) → u.z0 ≤ s.z0 := by
        intro s u S T hS hT h
        rcases Int.lt_or_le s.z0 u.z0 with c | c
        · have k := h s.z0
          have q1 := hS.head.h.2.1
          have q2 := hT.head.h.2.1
          rw [sec_cons, if_pos (by omega), sec_below (fun x hx => by
            rcases List.mem_cons.1 hx with rfl | hx
            · exact c
            · have := hT.after x hx; omega)] at k
          exact absurd k hS.head.ne
        · exact c
      have h0 : s.z0 = u.z0 := by
        have a := low hS hT h
        have b := low hT hS (fun z => (h z).symm)
        omega
      have ha : s.ar = u.ar := by
        have k := h s.z0
        rw [sec_cons, if_pos (by omega), sec_cons, if_pos (by omega)] at k
        exact k
      have h1 : s.z1 = u.z1 := by
        have a := end_le hS hT h0 ha h
        have b := end_le hT hS h0.symm ha.symm (fun z => (h z).symm)
        omega
      have e : s = u := Sl.eq h0 h1 ha
      subst e
      congr 1
      refine ih hS.tail hT.tail (fun z => ?_)
      rcases Int.lt_or_le z s.z1 with c | c
      · rw [sec_low hS c, sec_low hT c]
      · have := h z
        rw [sec_rest c, sec_rest c] at this
        exact this
/-- the form grows by a slab. -/
def joinS (F : List Sl) (s : Sl) : List Sl :=
  if s.ar = [] then F else match F.getLast? with
    | some p => if p.z1 = s.z0 ∧ p.ar = s.ar then F.dropLast ++ [⟨p.z0, s.z1, p.ar⟩] else F ++ [s]
    | none => F ++ [s]
theorem join_none {F : List Sl} {s : Sl} (h : s.ar = []) : joinS F s = F := if_pos h
theorem join_first {s : Sl} (h : s.ar ≠ []) : joinS [] s = [s] := by unfold joinS; rw [if_neg h]; rfl
theorem join_wide {F : List Sl} {p s : Sl} (h : s.ar ≠ []) (h1 : p.z1 = s.z0) (h2 : p.ar = s.ar) : joinS (F ++ [p]) s = F ++ [⟨p.z0, s.z1, p.ar⟩] := by
  unfold joinS
  rw [if_neg h]
  simp only [List.getLast?_append, List.getLast?_singleton, Option.some_or, List.dropLast_concat]
  rw [if_pos ⟨h1, h2⟩]
theorem join_new {F : List Sl} {p s : Sl} (h : s.ar ≠ []) (h1 : ¬ (p.z1 = s.z0 ∧ p.ar = s.ar)) : joinS (F ++ [p]) s = F ++ [p] ++ [s] := by
  unfold joinS
  rw [if_neg h]
  simp only [List.getLast?_append, List.getLast?_singleton, Option.some_or]
  rw [if_neg h1]
theorem join_cases (F : List Sl) (s : Sl) : (s.ar = [] ∧ joinS F s = F) ∨ (s.ar ≠ [] ∧ ∃ G p, F = G ++ [p] ∧ p.z1 = s.z0 ∧ p.ar = s.ar ∧ joinS F s = G ++ [⟨p.z0, s.z1, p.ar⟩]) ∨ (s.ar ≠ [] ∧ (∀ G p, F = G ++ [p] → ¬ (p.z1 = s.z0 ∧ p.ar = s.ar)) ∧ joinS F s = F ++ [s]) := by
  by_cases h : s.ar = []
  · exact Or.inl ⟨h, join_none h⟩
  · rcases List.eq_nil_or_concat F with rfl | ⟨G, p, rfl⟩
    · exact Or.inr (Or.inr ⟨h, fun G p e => by simp at e, by rw [join_first h]; rfl⟩)
    · rw [List.concat_eq_append]
      by_cases c : p.z1 = s.z0 ∧ p.ar = s.ar
      · exact Or.inr (Or.inl ⟨h, G, p, rfl, c.1, c.2, join_wide h c.1 c.2⟩)
      · refine Or.inr (Or.inr ⟨h, fun G' p' e => ?_, join_new h c⟩)
        have := List.append_inj' e rfl
        have e2 := this.2
        simp at e2
        rw [← e2]; exact c
theorem join_len (F : List Sl) (s : Sl) : F.length ≤ (joinS F s).length ∧ (joinS F s).length ≤ F.length + 1 := by
  rcases join_cases F s with ⟨_, e⟩ | ⟨_, G, p, rfl, _, _, e⟩ | ⟨_, _, e⟩
  · rw [e]; omega
  · rw [e]; simp
  · rw [e]; simp
theorem join_mem {F : List Sl} {s u : Sl} (h : u ∈ joinS F s) : u.ar = s.ar ∨ ∃ v ∈ F, v.ar = u.ar := by
  rcases join_cases F s with ⟨_, e⟩ | ⟨_, G, p, rfl, _, h2, e⟩ | ⟨_, _, e⟩
  · rw [e] at h; exact Or.inr ⟨u, h, rfl⟩
  · rw [e] at h
    rcases List.mem_append.1 h with h | h
    · exact Or.inr ⟨u, List.mem_append_left _ h, rfl⟩
    · rw [List.mem_singleton] at h; subst h; exact Or.inl h2
  · rw [e] at h
    rcases List.mem_append.1 h with h | h
    · exact Or.inr ⟨u, h, rfl⟩
    · rw [List.mem_singleton] at h; subst h; exact Or.inl rfl
theorem SForm.snoc : ∀ {S : List Sl} {u : Sl}, SForm S → SlOk u → (∀ G s, S = G ++ [s] → SlB s u) → SForm (S ++ [u]) := by
  intro S
  induction S with
  | nil => intro u _ hu _; exact hu
  | cons s S ih =>
    intro u h hu hb
    cases S with
    | nil => exact ⟨h, hb [] s rfl, hu⟩
    | cons v S => exact ⟨h.1, h.2.1, ih h.2.2 hu (fun G p e => hb (s :: G) p (by rw [e]; rfl))⟩
theorem SForm.init : ∀ {S : List Sl} {u : Sl}, SForm (S ++ [u]) → SForm S ∧ SlOk u ∧ ∀ G s, S = G ++ [s] → SlB s u := by
  intro S
  induction S with
  | nil => intro u h; exact ⟨trivial, h, fun G s e => by simp at e⟩
  | cons s S ih =>
    intro u h
    cases S with
    | nil => exact ⟨h.1, h.2.2, fun G p e => by
        cases G with
        | nil => simp at e; subst e; exact h.2.1
        | cons g G => simp at e⟩
    | cons v S =>
      obtain ⟨k1, k2, k3⟩ := ih h.2.2
      refine ⟨⟨h.1, h.2.1, k1⟩, k2, fun G p e => ?_⟩
      cases G with
      | nil => simp at e
      | cons g G =>
        simp only [List.cons_append, List.cons.injEq] at e
        exact k3 G p e.2
theorem sec_append : ∀ (S T : List Sl) (z : Int), (∀ t ∈ T, ∀ s ∈ S, s.z1 ≤ t.z0) → secS (S ++ T) z = if secS S z = [] then secS T z else secS S z := by
  intro S
  induction S with
  | nil => intro T z _; simp [secS]
  | cons s S ih =>
    intro T z h
    rw [List.cons_append, sec_cons, sec_cons, ih T z (fun t ht u hu => h t ht u (List.mem_cons_of_mem _ hu))]
    by_cases c : s.z0 ≤ z ∧ z < s.z1
    · rw [if_pos c, if_pos c]
      by_cases e : s.ar = []
      · rw [if_pos e, e, sec_below]
        intro t ht
        have := h t ht s List.mem_cons_self
        omega
      · rw [if_neg e]
    · rw [if_neg c, if_neg c]
structure GrownZ (F : List Sl) (a : Int) : Prop where
  form : SForm F
  le : ∀ u ∈ F, u.z1 ≤ a
theorem sec_snoc {F : List Sl} {s : Sl} (h : ∀ u ∈ F, u.z1 ≤ s.z0) (z : Int) : secS (F ++ [s]) z = if s.z0 ≤ z ∧ z < s.z1 then s.ar else secS F z := by
  rw [sec_append F [s] z (fun t ht u hu => by rw [List.mem_singleton] at ht; subst ht; exact h u hu), sec_cons]
  by_cases c : s.z0 ≤ z ∧ z < s.z1
  · rw [if_pos c, if_pos (sec_above (fun u hu => by have := h u hu; omega)), if_pos c]
  · rw [if_neg c, if_neg c]
    split
    · next e => rw [e]; rfl
    · rfl
theorem join_is {F : List Sl} {a b : Int} {c : List Rc} (h : GrownZ F a) (hab : HOk a b) (hc : IsForm c) : GrownZ (joinS F ⟨a, b, c⟩) b ∧ ∀ z, secS (joinS F ⟨a, b, c⟩) z = if a ≤ z ∧ z < b then c else secS F z := by
  unfold HOk at hab
  rcases join_cases F ⟨a, b, c⟩ with ⟨h1, e⟩ | ⟨h1, G, p, rfl, h2, h3, e⟩ | ⟨h1, h2, e⟩
  · rw [e]
    simp only at h1
    refine ⟨⟨h.form, fun u hu => by have := h.le u hu; omega⟩, fun z => ?_⟩
    split
    · rw [h1]; exact sec_above (fun u hu => by have := h.le u hu; omega)
    · rfl
  · rw [e]
    simp only at h1 h2 h3
    obtain ⟨k1, k2, k3⟩ := h.form.init
    have kp := k2.h
    unfold HOk at kp
    have hle : ∀ u ∈ G, u.z1 ≤ p.z0 := by
      intro u hu
      have hh := h.form
      clear h e k1 k3
      induction G with
      | nil => cases hu
      | cons g G ih =>
        rcases List.mem_cons.1 hu with rfl | hu
        · exact hh.after p (by simp)
        · exact ih hu hh.tail
    refine ⟨⟨k1.snoc ⟨by unfold HOk; simp only; omega, k2.ne, k2.form⟩ (fun G' s e => k3 G' s e), fun u hu => ?_⟩, fun z => ?_⟩
    · rcases List.mem_append.1 hu with hu | hu
      · have := h.le u (List.mem_append_left _ hu); omega
      · rw [List.mem_singleton] at hu; subst hu; simp only; omega
    · rw [sec_snoc (s := p) hle, sec_snoc (F := G) (s := ⟨p.z0, b, p.ar⟩) hle]
      simp only
      by_cases c1 : a ≤ z ∧ z < b
      · rw [if_pos c1, if_pos (by omega), h3]
      · rw [if_neg c1]
        by_cases c2 : p.z0 ≤ z ∧ z < p.z1
        · rw [if_pos c2, if_pos (by omega)]
        · rw [if_neg c2, if_neg (by omega)]
  · rw [e]
    simp only at h1
    refine ⟨⟨h.form.snoc ⟨hab, h1, hc⟩ (fun G s e => ⟨h.le s (by rw [e]; simp), fun e1 e2 => h2 G s e ⟨e1, e2⟩⟩), fun u hu => ?_⟩, fun z => ?_⟩
    · rcases List.mem_append.1 hu with hu | hu
      · have := h.le u hu; omega
      · rw [List.mem_singleton] at hu; subst hu; simp only; omega
    · rw [sec_snoc (fun u hu => h.le u hu)]
/-- the form along a list of heights. -/
def solGo (sec : Int → List Rc) : List Sl → List Int → List Sl
  | F, a :: b :: X => solGo sec (joinS F ⟨a, b, sec a⟩) (b :: X)
  | F, _ => F
theorem solGo_step (sec : Int → List Rc) : ∀ (X : List Int) (F : List Sl) (a b : Int), solGo sec F (X ++ [a, b]) = joinS (solGo sec F (X ++ [a])) ⟨a, b, sec a⟩ := by
  intro X
  induction X with
  | nil => intro F a b; rfl
  | cons x X ih =>
    intro F a b
    cases X with
    | nil => rfl
    | cons y X => exact ih _ a b
def InZ (X : List Int) : Prop := ∀ x ∈ X, 0 ≤ x ∧ x ≤ 4096
/-- the cross-sections change at the heights of a list only, and are empty outside. -/
structure Chg (sec : Int → List Rc) (X : List Int) : Prop where
  same : ∀ z z', z ≤ z' → (∀ x ∈ X, ¬ (z < x ∧ x ≤ z')) → sec z = sec z'
  low : ∀ z, (∀ x ∈ X, z < x) → sec z = []
  high : ∀ z, (∀ x ∈ X, x ≤ z) → sec z = []
theorem Chg.of {sec : Int → List Rc} {X Y : List Int} (h : Chg sec X) (hm : ∀ z, z ∈ X ↔ z ∈ Y) : Chg sec Y :=
  ⟨fun z z' a b => h.same z z' a (fun x hx => b x ((hm x).1 hx)), fun z a => h.low z (fun x hx => a x ((hm x).1 hx)), fun z a => h.high z (fun x hx => a x ((hm x).1 hx))⟩
theorem solGo_is {sec : Int → List Rc} (hf : ∀ z, IsForm (sec z)) : ∀ (X : List Int) (F : List Sl) (a : Int), Asc (a :: X) → InZ (a :: X) → GrownZ F a →
    (∀ z z', a ≤ z → z ≤ z' → (∀ x ∈ X, ¬ (z < x ∧ x ≤ z')) → sec z = sec z') → SForm (solGo sec F (a :: X)) ∧ ∀ z, secS (solGo sec F (a :: X)) z = if a ≤ z ∧ ∃ x ∈ X, z < x then sec z else secS F z := by
  intro X
  induction X with
  | nil =>
    intro F a _ _ hg _
    refine ⟨hg.form, fun z => ?_⟩
    rw [if_neg (by rintro ⟨_, x, hx, _⟩; cases hx)]
    rfl
  | cons b X ih =>
    intro F a hA hZ hg hs
    have hab : a < b := hA.lt b List.mem_cons_self
    have ha := hZ a List.mem_cons_self
    have hb := hZ b (List.mem_cons_of_mem _ List.mem_cons_self)
    obtain ⟨j1, j2⟩ := join_is hg (⟨ha.1, hab, hb.2⟩ : HOk a b) (hf a)
    obtain ⟨k1, k2⟩ := ih (joinS F ⟨a, b, sec a⟩) b hA.tail (fun x hx => hZ x (List.mem_cons_of_mem _ hx)) j1 (fun z z' h1 h2 h3 => hs z z' (by omega) h2 (fun x hx => by
      rcases List.mem_cons.1 hx with rfl | hx
      · omega
      · exact h3 x hx))
    refine ⟨k1, fun z => ?_⟩
    show secS (solGo sec (joinS F ⟨a, b, sec a⟩) (b :: X)) z = _
    rw [k2, j2]
    by_cases c1 : b ≤ z ∧ ∃ x ∈ X, z < x
    · rw [if_pos c1, if_pos ⟨by omega, by obtain ⟨_, x, hx, hh⟩ := c1; exact ⟨x, List.mem_cons_of_mem _ hx, hh⟩⟩]
    · rw [if_neg c1]
      by_cases c2 : a ≤ z ∧ z < b
      · rw [if_pos c2, if_pos ⟨c2.1, b, List.mem_cons_self, c2.2⟩]
        refine hs a z (Int.le_refl _) c2.1 (fun x hx => ?_)
        rcases List.mem_cons.1 hx with rfl | hx
        · omega
        · have := hA.tail.lt x hx; omega
      · rw [if_neg c2, if_neg]
        rintro ⟨h1, x, hx, h2⟩
        rcases List.mem_cons.1 hx with rfl | hx
        · exact c2 ⟨h1, h2⟩
        · exact c1 ⟨by omega, x, hx, h2⟩
theorem sol_is {sec : Int → List Rc} (hf : ∀ z, IsForm (sec z)) {X : List Int} (hA : Asc X) (hZ : InZ X) (hC : Chg sec X) : SForm (solGo sec [] X) ∧ ∀ z, secS (solGo sec [] X) z = sec z := by
  cases X with
  | nil => exact ⟨trivial, fun z => (hC.low z (fun x hx => by cases hx)).symm⟩
  | cons a X =>
    obtain ⟨k1, k2⟩ := solGo_is hf X [] a hA hZ ⟨trivial, fun u hu => by cases hu⟩ (fun z z' h1 h2 h3 => hC.same z z' h2 (fun x hx => by
      rcases List.mem_cons.1 hx with rfl | hx
      · omega
      · exact h3 x hx))
    refine ⟨k1, fun z => ?_⟩
    rw [k2]
    by_cases c : a ≤ z ∧ ∃ x ∈ X, z < x
    · rw [if_pos c]
    · rw [if_neg c]
      show [] = sec z
      rcases Int.lt_or_le z a with d | d
      · refine (hC.low z (fun x hx => ?_)).symm
        rcases List.mem_cons.1 hx with rfl | hx
        · exact d
        · have := hA.lt x hx; omega
      · refine (hC.high z (fun x hx => ?_)).symm
        rcases List.mem_cons.1 hx with rfl | hx
        · exact d
        · rcases Int.lt_or_le z x with e | e
          · exact absurd ⟨d, x, hx, e⟩ c
          · exact e
theorem solGo_len (sec : Int → List Rc) : ∀ (X : List Int) (F : List Sl), F.length ≤ (solGo sec F X).length ∧ (solGo sec F X).length ≤ F.length + (X.length - 1) := by
  intro X
  induction X with
  | nil => intro F; exact ⟨Nat.le_refl _, by show F.length ≤ _; omega⟩
  | cons a X ih =>
    intro F
    cases X with
    | nil => exact ⟨Nat.le_refl _, by show F.length ≤ _; omega⟩
    | cons b X =>
      obtain ⟨h1, h2⟩ := ih (joinS F ⟨a, b, sec a⟩)
      obtain ⟨h3, h4⟩ := join_len F ⟨a, b, sec a⟩
      have e : solGo sec F (a :: b :: X) = solGo sec (joinS F ⟨a, b, sec a⟩) (b :: X) := rfl
      rw [e]
      simp only [List.length_cons] at h2 ⊢
      omega
theorem solGo_app (sec : Int → List Rc) : ∀ (X Y : List Int) (F : List Sl) (a : Int), solGo sec F (X ++ a :: Y) = solGo sec (solGo sec F (X ++ [a])) (a :: Y) := by
  intro X
  induction X with
  | nil => intro Y F a; rfl
  | cons x X ih =>
    intro Y F a
    cases X with
    | nil => rfl
    | cons y X => exact ih Y _ a
/-- what the program calls a solid. -/
structure SolP (S : List Sl) : Prop where
  form : SForm S
  len : S.length ≤ 80
  rects : ∀ s ∈ S, s.ar.length ≤ 200
/-- a list of slabs and an error: what is too large is refused. -/
def capS (S : List Sl) : List Sl × Int := if S.length ≤ 80 ∧ ∀ s ∈ S, s.ar.length ≤ 200 then (S, 0) else ([], 6)
theorem capS_yes {S : List Sl} (h1 : S.length ≤ 80) (h2 : ∀ s ∈ S, s.ar.length ≤ 200) : capS S = (S, 0) := if_pos ⟨h1, h2⟩
theorem capS_no {S : List Sl} (h : 80 < S.length ∨ ∃ s ∈ S, 200 < s.ar.length) : capS S = ([], 6) := if_neg (by
  rintro ⟨h1, h2⟩
  rcases h with h | ⟨s, hs, h⟩
  · omega
  · have := h2 s hs; omega)
theorem SolP.cap {S : List Sl} (h : SolP S) : capS S = (S, 0) := capS_yes h.len h.rects
end Go.Proofs.YtdnoadngfkiabaaGreat
