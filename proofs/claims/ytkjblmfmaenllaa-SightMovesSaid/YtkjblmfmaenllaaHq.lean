/-
  Contracts of the program's layer 6 (9): what form builds: the sides and the edges of some lists; the sorts of whatever length.
-/
import Derived.Test.YtkjblmfmaenllaaHn
import Derived.Test.YtkjblmfmaenllaaHa
import Derived.Test.YtkjblmfmaenllaaHm
set_option linter.unusedVariables false
set_option maxRecDepth 100000
namespace Go.Proofs.Ytkjblmfmaenllaa
open Go.RowKit

theorem icells_append (l m : List Int) : icells (l ++ m) = icells l ++ icells m := by simp [icells]
theorem own_apart {w : World} {B B' e e' s s' n n' : Nat} {v v' : Value} {xs xs' : List Value} (h : w.ownsRow B e s v n xs) (h' : w.ownsRow B' e' s' v' n' xs') (hne : e ≠ e') : ∀ g, v.ownBlock = some g → v'.ownBlock ≠ some g := by
  intro g hg hg'
  obtain ⟨_, h⟩ := h
  obtain ⟨_, h'⟩ := h'
  rcases h with ⟨rfl, _⟩ | ⟨g1, cap, cur, rfl, _, hc, _⟩
  · simp [Value.ownBlock] at hg
  · rcases h' with ⟨rfl, _⟩ | ⟨g2, cap2, cur2, rfl, _, hc2, _⟩
    · simp [Value.ownBlock] at hg'
    · simp only [Value.ownBlock, Option.some.injEq] at hg hg'
      subst hg; subst hg'
      rw [hc] at hc2
      simp only [Option.some.injEq, Obj.cells.injEq] at hc2
      exact hne hc2.2.1
theorem own_kept {w w' : World} {B B' e e' s s' n n' : Nat} {v v' : Value} {xs xs' : List Value} (h : w.ownsRow B e s v n xs) (h' : w.ownsRow B' e' s' v' n' xs') (hne : e' ≠ e) (hg : w.grownBy w' v.ownBlock) : w'.ownsRow B' e' s' v' n' xs' :=
  own_stays h' (fun g hgb => hg.block g (h'.lt g hgb).2 (fun e => own_apart h' h hne g hgb e.symm))
/-- what form has built so far. -/
structure BW (vs ve : Value) (S : List Int) (E : List Ed) (w wr : World) : Prop where
  own1 : wr.ownsRow w.heap.size 3 1 vs S.length (icells S)
  own2 : wr.ownsRow w.heap.size 110 5 ve E.length (ecells E)
  bel : Below w.heap.size w wr
theorem BW.go {vs ve : Value} {S : List Int} {E : List Ed} {w wr w' : World} (h : BW vs ve S E w wr) (hb : Below wr.heap.size wr w') : BW vs ve S E w w' := ⟨own_go h.own1 hb, own_go h.own2 hb, h.bel.trans (hb.mono h.bel.size)⟩
theorem BW.add1 {vs ve vs' : Value} {S S' : List Int} {E : List Ed} {w wr w' : World} (h : BW vs ve S E w wr) (ho : w'.ownsRow w.heap.size 3 1 vs' S'.length (icells S')) (hg : wr.grownBy w' vs.ownBlock) : BW vs' ve S' E w w' :=
  ⟨ho, own_kept h.own1 h.own2 (by decide) hg, Below.grown h.bel hg h.bel.size (fun k hk => (h.own1.lt k hk).1)⟩
theorem BW.add2 {vs ve ve' : Value} {S : List Int} {E E' : List Ed} {w wr w' : World} (h : BW vs ve S E w wr) (ho : w'.ownsRow w.heap.size 110 5 ve' E'.length (ecells E')) (hg : wr.grownBy w' ve.ownBlock) : BW vs ve' S E' w w' :=
  ⟨own_kept h.own2 h.own1 (by decide) hg, ho, Below.grown h.bel hg h.bel.size (fun k hk => (h.own2.lt k hk).1)⟩
/-- lists of rectangles one after the other. -/
def LRow (w : World) (A : Option Addr) (LL : List (List Rc)) : Prop := 0 < LL.length → ∃ b off, A = some ⟨b, off, none⟩ ∧ b < w.heap.size ∧ ∀ j (h : j < LL.length), ∃ Aj cj, w.cell? ⟨b, off + j, none⟩ = some (.slice Aj LL[j].length cj) ∧ RRow w Aj LL[j]
theorem own_ints {w : World} {B : Nat} {v : Value} {l : List Int} (h : w.ownsRow B 3 1 v l.length (icells l)) :
    ∃ A cap, v = .slice A l.length cap ∧ IRow w A l ∧ (0 < l.length → ∃ g, A = some ⟨g, 0, none⟩ ∧ B ≤ g ∧ g < w.heap.size) := by
  obtain ⟨A, cap, rfl, hA⟩ := own_parts h
  refine ⟨A, cap, rfl, fun h0 => ?_, fun h0 => ?_⟩
  · obtain ⟨g, rfl, hg, hc⟩ := hA h0
    exact ⟨g, 0, rfl, hg, fun j hj => by rw [Nat.zero_add, hc j (by omega)]; simp [icells, hj]⟩
  · obtain ⟨g, rfl, hg, hc⟩ := hA h0
    exact ⟨g, rfl, (h.lt g rfl).1, hg⟩
def SortIs (v : Value) (l : List Int) (w : World) (e : Ending) (w' : World) : Prop := e = .returned (.tuple #[]) ∧ ∃ S : List Int, S.Perm l ∧ SortN S ∧ (∀ A n c, v = .slice A n c → IRow w' A S) ∧ w.grownBy w' v.ownBlock
theorem gsort_all (B : Nat) (v : Value) (l : List Int) (w : World) (h : w.ownsRow B 3 1 v l.length (icells l)) (hl : l.length ≤ 1099511627776) : Calls Try.prog 63 #[v] w (SortIs v l w) := by
  have hh := h
  obtain ⟨A, cap, rfl, _, hA⟩ := own_ints h
  rcases Nat.eq_zero_or_pos l.length with h0 | h0
  · rw [h0]
    refine (Go.Proofs.Try.slices_Sort_int_none A cap w).mono ?_
    rintro e w' ⟨rfl, rfl⟩
    obtain rfl := List.length_eq_zero_iff.1 h0
    exact ⟨rfl, [], List.Perm.refl _, (fun i j hi => by simp at hi), fun A n c _ => IRow.nil _ _, World.grownBy.refl _ _⟩
  · obtain ⟨g, rfl, hg1, hg2⟩ := hA h0
    refine (gsort_any B g cap l w hh hl).mono ?_
    rintro e w' ⟨rfl, S, h1, h2, h3, h4⟩
    refine ⟨rfl, S, h1, h2, fun A n c e => ?_, h4⟩
    injection e with e1 e2 e3
    subst e1
    exact fun _ => ⟨g, 0, rfl, Nat.lt_of_lt_of_le hg2 h4.size, fun j hj => by rw [Nat.zero_add]; exact h3 j hj⟩
theorem own_eds {w : World} {B : Nat} {v : Value} {l : List Ed} (h : w.ownsRow B 110 5 v l.length (ecells l)) :
    ∃ A cap, v = .slice A l.length cap ∧ (0 < l.length → ∃ g, A = some ⟨g, 0, none⟩ ∧ B ≤ g ∧ g < w.heap.size) := by
  obtain ⟨A, cap, rfl, hA⟩ := own_parts h
  refine ⟨A, cap, rfl, fun h0 => ?_⟩
  obtain ⟨g, rfl, hg, hc⟩ := hA h0
  exact ⟨g, rfl, (h.lt g rfl).1, hg⟩
def SortFIs (v : Value) (E : List Ed) (w : World) (e : Ending) (w' : World) : Prop := e = .returned (.tuple #[]) ∧ ∃ E' : List Ed, E.Perm E' ∧ SortE E' ∧ (∀ A n c, v = .slice A n c → EdRow w' w'.heap.size A E') ∧ w.grownBy w' v.ownBlock
theorem gsortf_all (B : Nat) (v : Value) (E : List Ed) (w : World) (h : w.ownsRow B 110 5 v E.length (ecells E)) (hl : E.length ≤ 1099511627776) : Calls Try.prog 84 #[v, .func (.func 85) #[] #[]] w (SortFIs v E w) := by
  have hh := h
  obtain ⟨A, cap, rfl, hA⟩ := own_eds h
  rcases Nat.eq_zero_or_pos E.length with h0 | h0
  · rw [h0]
    have hc := AnyF.slices_SortFunc_none Go.Proofs.Try.laysSlF06_f84 A cap (.func (.func 85) #[] #[]) w
    change Calls Try.prog 84 _ _ _ at hc
    refine hc.mono ?_
    rintro e w' ⟨rfl, rfl⟩
    obtain rfl := List.length_eq_zero_iff.1 h0
    exact ⟨rfl, [], List.Perm.refl _, (fun i j hi => by simp at hi), fun A n c _ h => absurd h (by simp), World.grownBy.refl _ _⟩
  · obtain ⟨g, rfl, hg1, hg2⟩ := hA h0
    refine (gsortf_any B g cap E w hh hl).mono ?_
    rintro e w' ⟨rfl, S, h1, h2, h3, h4⟩
    refine ⟨rfl, S, h1, h2, fun A n c e => ?_, h4⟩
    injection e with e1 e2 e3
    subst e1
    have hg3 : g < w'.heap.size := Nat.lt_of_lt_of_le hg2 h4.size
    exact fun _ => ⟨g, 0, rfl, hg3, hg3, fun j hj => by rw [Nat.zero_add]; exact h3 j hj⟩
theorem asc_len : ∀ {t : List Int} {lo hi : Int}, Asc t → (∀ x ∈ t, lo ≤ x ∧ x ≤ hi) → lo ≤ hi + 1 → (t.length : Int) ≤ hi - lo + 1 := by
  intro t
  induction t with
  | nil => intro lo hi _ _ h; simp; omega
  | cons a t ih =>
    intro lo hi h hx _
    obtain ⟨h1, h2⟩ := hx a List.mem_cons_self
    have := ih (lo := a + 1) (hi := hi) h.tail (fun x hx2 => ⟨by have := h.lt x hx2; omega, (hx x (List.mem_cons_of_mem _ hx2)).2⟩) (by omega)
    simp only [List.length_cons]; omega
theorem twos_le : ∀ t : List Int, (twos t).length * 2 ≤ t.length := by
  intro t
  match t with
  | [] => simp [twos]
  | [x] => simp [twos]
  | x :: y :: t =>
    have := twos_le t
    simp only [twos, List.length_cons]; omega
theorem col_rects_len {c : List Int} (h : ColOk c) (a b : Int) : (rectsOf a b c).length ≤ 1048576 := by
  have h1 := asc_len (lo := 0) (hi := 1048576) h.asc h.gr (by omega)
  have h2 := twos_le c
  have h3 : (rectsOf a b c).length = (twos c).length := by simp [rectsOf]
  omega
/-- a row that another row's turning leaves. -/
theorem irow_kept {w w' : World} {A : Option Addr} {S : List Int} {row : Option Nat} (h : IRow w A S) (hg : w.grownBy w' row) (hne : ∀ g o, A = some ⟨g, o, none⟩ → some g ≠ row) : IRow w' A S := fun h0 => by
  obtain ⟨b, off, rfl, hl, hc⟩ := h h0
  refine ⟨b, off, rfl, Nat.lt_of_lt_of_le hl hg.size, fun j hj => ?_⟩
  have := hg.block b hl (hne b off rfl)
  rw [← hc j hj]
  simp [World.cell?, this]
end Go.Proofs.Ytkjblmfmaenllaa
