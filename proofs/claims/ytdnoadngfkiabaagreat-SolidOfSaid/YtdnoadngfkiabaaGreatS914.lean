/-
  Solids in memory: a list of slabs that can be read, an own list of slabs, what a solid's functions give.
  Mathematics of the laws of layer 9: what stays small.
-/
import Derived.Test.YtdnoadngfkiabaaGreatS911
import Derived.Test.YtdnoadngfkiabaaGreatS912
import Derived.Test.YtdnoadngfkiabaaGreatS913
import Derived.IntWalk
set_option linter.unusedVariables false
set_option maxRecDepth 100000
namespace Go.Proofs.YtdnoadngfkiabaaGreat
open Go.RowKit

/-- a list of slabs that can be read. -/
def SlRow (w : World) (A : Option Addr) (S : List Sl) : Prop := 0 < S.length → ∃ b off, A = some ⟨b, off, none⟩ ∧ b < w.heap.size ∧ ∀ j (h : j < S.length), w.cell? ⟨b, off + j * 3, none⟩ = some (.int .i64 S[j].z0) ∧ w.cell? ⟨b, off + j * 3 + 1, none⟩ = some (.int .i64 S[j].z1) ∧ ∃ Aj cj, w.cell? ⟨b, off + j * 3 + 2, none⟩ = some (.slice Aj S[j].ar.length cj) ∧ RIn w Aj cj S[j].ar
theorem SlRow.below {w w' : World} {A : Option Addr} {S : List Sl} (h : SlRow w A S) (hb : Below w.heap.size w w') : SlRow w' A S := fun h0 => by
  obtain ⟨b, off, e, hl, hc⟩ := h h0
  refine ⟨b, off, e, Nat.lt_of_lt_of_le hl hb.size, fun j hj => ?_⟩
  obtain ⟨c0, c1, Aj, cj, c2, hr⟩ := hc j hj
  have wc := fun o => hb.cell (p := ⟨b, o, none⟩) hl
  exact ⟨(wc _).trans c0, (wc _).trans c1, Aj, cj, (wc _).trans c2, hr.below hb⟩
theorem SlRow.nil (w : World) (A : Option Addr) : SlRow w A [] := fun h => absurd h (by simp)
/-- a list of slabs at a slice, as contracts ask it. -/
structure SIn (w : World) (A : Option Addr) (cap : Nat) (S : List Sl) : Prop where
  row : SlRow w A S
  len : S.length ≤ 1099511627776
  room : S.length ≤ cap
  room2 : cap ≤ 9223372036854775807
theorem SIn.below {w w' : World} {A : Option Addr} {cap : Nat} {S : List Sl} (h : SIn w A cap S) (hb : Below w.heap.size w w') : SIn w' A cap S := ⟨h.row.below hb, h.len, h.room, h.room2⟩
theorem SIn.nil (w : World) : SIn w none 0 [] := ⟨SlRow.nil _ _, by simp, by simp, by omega⟩
/-- a solid and an error. -/
def SolRes (x : List Sl × Int) (w : World) (e : Ending) (w' : World) : Prop := ∃ A c, e = .returned (.tuple #[.slice A x.1.length c, .int .i64 x.2]) ∧ SIn w' A c x.1 ∧ Below w.heap.size w w'
/-! ### an own list of slabs -/
theorem infoSlab : (Tryz.prog.info? 40).map (fun i => (i.zero, i.size, i.bytes)) = some (some (.agg #[.int .i64 0, .int .i64 0, .slice none 0 0]), 3, 40) := by kernel_rfl
structure SlV where
  s : Sl
  A : Option Addr
  c : Nat
def svc (t : SlV) : List Value := [.int .i64 t.s.z0, .int .i64 t.s.z1, .slice t.A t.s.ar.length t.c]
def svcells (L : List SlV) : List Value := L.flatMap svc
def svS (L : List SlV) : List Sl := L.map (·.s)
theorem svS_len (L : List SlV) : (svS L).length = L.length := by simp [svS]
theorem svS_append (L M : List SlV) : svS (L ++ M) = svS L ++ svS M := by simp [svS]
theorem svcells_append (L M : List SlV) : svcells (L ++ M) = svcells L ++ svcells M := by simp [svcells]
theorem svcells_len (L : List SlV) : (svcells L).length = L.length * 3 := by
  induction L with
  | nil => rfl
  | cons t L ih => rw [show svcells (t :: L) = svc t ++ svcells L from rfl, List.length_append, ih]; simp [svc]; omega
theorem svcells_at : ∀ (L : List SlV) (j : Nat) (h : j < L.length), (svcells L)[j * 3]? = some (.int .i64 L[j].s.z0) ∧ (svcells L)[j * 3 + 1]? = some (.int .i64 L[j].s.z1) ∧ (svcells L)[j * 3 + 2]? = some (.slice L[j].A L[j].s.ar.length L[j].c) := by
  intro L
  induction L with
  | nil => intro j h; exact absurd h (by simp)
  | cons t L ih =>
    intro j h
    have e : svcells (t :: L) = .int .i64 t.s.z0 :: .int .i64 t.s.z1 :: .slice t.A t.s.ar.length t.c :: svcells L := rfl
    rw [e]
    cases j with
    | zero => exact ⟨rfl, rfl, rfl⟩
    | succ j =>
      obtain ⟨h0, h1, h2⟩ := ih j (by simp at h; omega)
      rw [show (j + 1) * 3 = j * 3 + 1 + 1 + 1 by omega]
      simp only [List.getElem?_cons_succ, List.getElem_cons_succ]
      exact ⟨h0, h1, h2⟩
structure SW (v : Value) (L : List SlV) (w wr : World) : Prop where
  own : wr.ownsRow w.heap.size 40 3 v L.length (svcells L)
  ar : ∀ t ∈ L, wr.ownsRow w.heap.size 33 4 (.slice t.A t.s.ar.length t.c) t.s.ar.length (rcells t.s.ar)
  bel : Below w.heap.size w wr
theorem SW.go {v : Value} {L : List SlV} {w wr w' : World} (h : SW v L w wr) (hb : Below wr.heap.size wr w') : SW v L w w' := ⟨own_go h.own hb, fun t ht => own_go (h.ar t ht) hb, h.bel.trans (hb.mono h.bel.size)⟩
theorem SW.nil (w : World) : SW (.slice none 0 0) [] w w := ⟨World.ownsRow_nil _ _ _ _, fun t ht => (by cases ht), Below.refl _ _⟩
theorem SW.start {w wr : World} (h : Below w.heap.size w wr) : SW (.slice none 0 0) [] w wr := ⟨World.ownsRow_nil _ _ _ _, fun t ht => (by cases ht), h⟩
theorem SW.app {v v' : Value} {L : List SlV} {t : SlV} {w wr w' : World} (h : SW v L w wr) (ht : wr.ownsRow w.heap.size 33 4 (.slice t.A t.s.ar.length t.c) t.s.ar.length (rcells t.s.ar))
    (ho : w'.ownsRow w.heap.size 40 3 v' (L.length + 1) (svcells L ++ svc t)) (hg : wr.grownBy w' v.ownBlock) : SW v' (L ++ [t]) w w' := by
  refine ⟨?_, fun u hu => ?_, h.bel.grown hg h.bel.size (fun k hk => (h.own.lt k hk).1)⟩
  · rw [List.length_append, svcells_append]
    rw [show svcells [t] = svc t by simp [svcells]]
    exact ho
  · rcases List.mem_append.1 hu with hu | hu
    · exact own_kept h.own (h.ar u hu) (by decide) hg
    · rw [List.mem_singleton] at hu; subst hu; exact own_kept h.own ht (by decide) hg
theorem svcells_last (L : List SlV) (p : SlV) (x : Int) : (svcells (L ++ [p])).set (L.length * 3 + 1) (.int .i64 x) = svcells (L ++ [⟨⟨p.s.z0, x, p.s.ar⟩, p.A, p.c⟩]) := by
  rw [svcells_append, svcells_append, List.set_append_right _ _ (by rw [svcells_len]; omega), svcells_len]
  rw [show L.length * 3 + 1 - L.length * 3 = 1 by omega]
  simp [svcells, svc]
theorem SW.setz {v : Value} {L : List SlV} {p : SlV} {w wr : World} (h : SW v (L ++ [p]) w wr) {g cap : Nat} (hv : v = .slice (some ⟨g, 0, none⟩) (L.length + 1) cap) (x : Int) : SW v (L ++ [⟨⟨p.s.z0, x, p.s.ar⟩, p.A, p.c⟩]) w (wr.setCell ⟨g, L.length * 3 + 1, none⟩ (.int .i64 x)) := by
  subst hv
  have hg := (h.own.lt g rfl).1
  have ho := h.own
  rw [show (L ++ [p]).length = L.length + 1 by simp] at ho
  obtain ⟨h1, h2⟩ := ho.stored (L.length * 3 + 1) (.int .i64 x)
  have ha : ∀ u ∈ L ++ [p], (wr.setCell ⟨g, L.length * 3 + 1, none⟩ (.int .i64 x)).ownsRow w.heap.size 33 4 (.slice u.A u.s.ar.length u.c) u.s.ar.length (rcells u.s.ar) := fun u hu => own_stays (h.ar u hu) (fun k hk => set_other _ _ _ _ (fun e => by
    simp only at e
    subst e
    exact own_apart (h.ar u hu) ho (by decide) _ hk rfl))
  refine ⟨?_, fun u hu => ?_, h.bel.setCell hg _⟩
  · rw [svcells_last] at h1
    rw [show (L ++ [(⟨⟨p.s.z0, x, p.s.ar⟩, p.A, p.c⟩ : SlV)]).length = L.length + 1 by simp]
    exact h1
  · rcases List.mem_append.1 hu with hu | hu
    · exact ha u (List.mem_append_left _ hu)
    · rw [List.mem_singleton] at hu; subst hu; exact ha p (by simp)
/-- the cells of a slab of an own list. -/
theorem SW.cells {v : Value} {L : List SlV} {w wr : World} (h : SW v L w wr) : ∃ A cap, v = .slice A L.length cap ∧ L.length ≤ cap ∧ cap ≤ 9223372036854775807 ∧ (0 < L.length → ∃ g, A = some ⟨g, 0, none⟩ ∧ w.heap.size ≤ g ∧ g < wr.heap.size ∧ ∀ j (hj : j < L.length), wr.cell? ⟨g, j * 3, none⟩ = some (.int .i64 L[j].s.z0) ∧ wr.cell? ⟨g, j * 3 + 1, none⟩ = some (.int .i64 L[j].s.z1) ∧ wr.cell? ⟨g, j * 3 + 2, none⟩ = some (.slice L[j].A L[j].s.ar.length L[j].c)) := by
  have hh := h.own
  have hlt := hh.lt
  obtain ⟨h1, h2⟩ := h.own
  rcases h2 with ⟨rfl, h3⟩ | ⟨g, cap, cur, rfl, hB, hg, h4⟩
  · exact ⟨none, 0, by rw [h3], by omega, by omega, fun h => by omega⟩
  · refine ⟨_, cap, rfl, h4.1, ?_, fun _ => ⟨g, rfl, hB, (hlt g rfl).2, fun j hj => ?_⟩⟩
    · have := h4.2.1; unfold maxLen at this; omega
    · have c := fun i (hi : i < L.length * 3) => World.ownsRow.cellAt hh i hi
      obtain ⟨e0, e1, e2⟩ := svcells_at L j hj
      exact ⟨(c _ (by omega)).trans e0, (c _ (by omega)).trans e1, (c _ (by omega)).trans e2⟩
theorem own_rin {w : World} {B : Nat} {A : Option Addr} {c : Nat} {l : List Rc} (h : w.ownsRow B 33 4 (.slice A l.length c) l.length (rcells l)) (hl : l.length ≤ 1099511627776) : RIn w A c l := by
  obtain ⟨A', c', e, h1, h2, h3, _⟩ := own_rects h
  injection e with e1 _ e2
  subst e1; subst e2
  exact ⟨h1, hl, h2, h3⟩
theorem SW.sin {v : Value} {L : List SlV} {w wr : World} (h : SW v L w wr) (hl : L.length ≤ 1099511627776) (ha : ∀ t ∈ L, t.s.ar.length ≤ 1099511627776) : ∃ A cap, v = .slice A (svS L).length cap ∧ SIn wr A cap (svS L) := by
  obtain ⟨A, cap, rfl, h1, h2, h3⟩ := h.cells
  refine ⟨A, cap, by rw [svS_len], fun h0 => ?_, by rw [svS_len]; exact hl, by rw [svS_len]; exact h1, h2⟩
  rw [svS_len] at h0
  obtain ⟨g, rfl, _, hg, hc⟩ := h3 h0
  refine ⟨g, 0, rfl, hg, fun j hj => ?_⟩
  rw [svS_len] at hj
  obtain ⟨c0, c1, c2⟩ := hc j hj
  have e : (svS L)[j]'(by rw [svS_len]; exact hj) = L[j].s := by simp [svS]
  rw [Nat.zero_add, e]
  exact ⟨c0, c1, _, _, c2, own_rin (h.ar _ (List.getElem_mem hj)) (ha _ (List.getElem_mem hj))⟩
end Go.Proofs.YtdnoadngfkiabaaGreat
namespace Go.Proofs.YtdnoadngfkiabaaGreat

theorem ofS_bad {l : List Bx} (h : ¬ ∀ b ∈ l, BOk b) : ofS l = ([], 1) := if_neg h
end Go.Proofs.YtdnoadngfkiabaaGreat
