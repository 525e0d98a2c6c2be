/-
  Solids in memory: a list of slabs that can be read, an own list of slabs, what a solid's functions give.
  RegionAlgebra: an append of a slice that was handed in, and what the sets say.
-/
import Derived.Test.YtdnoadngfkiabaaU14
import Derived.Test.YtdnoadngfkiabaaU15
import Derived.Test.YtdnoadngfkiabaaU02
import Derived.IntWalk
import Derived.Test.YtdnoadngfkiabaaU01
import Derived.Laws.AppendOwnNone
set_option linter.unusedVariables false
set_option maxRecDepth 100000
namespace Go.Proofs.Ytdnoadngfkiabaa
open Go.RowKit

/-- a list of slabs that can be read. -/
def SlRow (w : World) (A : Option Addr) (S : List Sl) : Prop := 0 < S.length → ∃ b off, A = some ⟨b, off, none⟩ ∧ b < w.heap.size ∧ ∀ j (h : j < S.length), w.cell? ⟨b, off + j * 3, none⟩ = some (.int .i64 S[j].z0) ∧ w.cell? ⟨b, off + j * 3 + 1, none⟩ = some (.int .i64 S[j].z1) ∧ ∃ Aj cj, w.cell? ⟨b, off + j * 3 + 2, none⟩ = some (.slice Aj S[j].ar.length cj) ∧ RIn w Aj cj S[j].ar
theorem SlRow.below {w w' : World} {A : Option Addr} {S : List Sl} (h : SlRow w A S) (hb : Below w.heap.size w w') : SlRow w' A S := fun h0 => by
  obtain ⟨b, off, e, hl, hc⟩ := h h0
  refine ⟨b, off, e, Nat.lt_of_lt_of_le hl hb.size, fun j hj => ?_⟩
  obtain ⟨c0, c1, Aj, cj, c2, hr⟩ := hc j hj
  have wc := fun o => hb.cell (p := ⟨b, o, none⟩) hl
  exact ⟨(wc _).trans c0, (wc _).trans c1, Aj, cj, (wc _).trans c2, hr.below hb⟩
theorem SlRow.nil (w : World) (A : Option Addr) : SlRow w A [] := fun h => absurd h (by simp)
/-- a list of slabs at a slice, as contracts ask it. -/
structure SIn (w : World) (A : Option Addr) (cap : Nat) (S : List Sl) : Prop where
  row : SlRow w A S
  len : S.length ≤ 1099511627776
  room : S.length ≤ cap
  room2 : cap ≤ 9223372036854775807
theorem SIn.below {w w' : World} {A : Option Addr} {cap : Nat} {S : List Sl} (h : SIn w A cap S) (hb : Below w.heap.size w w') : SIn w' A cap S := ⟨h.row.below hb, h.len, h.room, h.room2⟩
theorem SIn.nil (w : World) : SIn w none 0 [] := ⟨SlRow.nil _ _, by simp, by simp, by omega⟩
/-- a solid and an error. -/
def SolRes (x : List Sl × Int) (w : World) (e : Ending) (w' : World) : Prop := ∃ A c, e = .returned (.tuple #[.slice A x.1.length c, .int .i64 x.2]) ∧ SIn w' A c x.1 ∧ Below w.heap.size w w'
/-! ### an own list of slabs -/
structure SlV where
  s : Sl
  A : Option Addr
  c : Nat
def svc (t : SlV) : List Value := [.int .i64 t.s.z0, .int .i64 t.s.z1, .slice t.A t.s.ar.length t.c]
def svcells (L : List SlV) : List Value := L.flatMap svc
def svS (L : List SlV) : List Sl := L.map (·.s)
theorem svS_len (L : List SlV) : (svS L).length = L.length := by simp [svS]
theorem svcells_at : ∀ (L : List SlV) (j : Nat) (h : j < L.length), (svcells L)[j * 3]? = some (.int .i64 L[j].s.z0) ∧ (svcells L)[j * 3 + 1]? = some (.int .i64 L[j].s.z1) ∧ (svcells L)[j * 3 + 2]? = some (.slice L[j].A L[j].s.ar.length L[j].c) := by
  intro L
  induction L with
  | nil => intro j h; exact absurd h (by simp)
  | cons t L ih =>
    intro j h
    have e : svcells (t :: L) = .int .i64 t.s.z0 :: .int .i64 t.s.z1 :: .slice t.A t.s.ar.length t.c :: svcells L := rfl
    rw [e]
    cases j with
    | zero => exact ⟨rfl, rfl, rfl⟩
    | succ j =>
      obtain ⟨h0, h1, h2⟩ := ih j (by simp at h; omega)
      rw [show (j + 1) * 3 = j * 3 + 1 + 1 + 1 by omega]
      simp only [List.getElem?_cons_succ, List.getElem_cons_succ]
      exact ⟨h0, h1, h2⟩
structure SW (v : Value) (L : List SlV) (w wr : World) : Prop where
  own : wr.ownsRow w.heap.size 50 3 v L.length (svcells L)
  ar : ∀ t ∈ L, wr.ownsRow w.heap.size 43 4 (.slice t.A t.s.ar.length t.c) t.s.ar.length (rcells t.s.ar)
  bel : Below w.heap.size w wr
theorem SW.go {v : Value} {L : List SlV} {w wr w' : World} (h : SW v L w wr) (hb : Below wr.heap.size wr w') : SW v L w w' := ⟨own_go h.own hb, fun t ht => own_go (h.ar t ht) hb, h.bel.trans (hb.mono h.bel.size)⟩
theorem SW.nil (w : World) : SW (.slice none 0 0) [] w w := ⟨World.ownsRow_nil _ _ _ _, fun t ht => (by cases ht), Below.refl _ _⟩
theorem SW.start {w wr : World} (h : Below w.heap.size w wr) : SW (.slice none 0 0) [] w wr := ⟨World.ownsRow_nil _ _ _ _, fun t ht => (by cases ht), h⟩
/-- the cells of a slab of an own list. -/
theorem SW.cells {v : Value} {L : List SlV} {w wr : World} (h : SW v L w wr) : ∃ A cap, v = .slice A L.length cap ∧ L.length ≤ cap ∧ cap ≤ 9223372036854775807 ∧ (0 < L.length → ∃ g, A = some ⟨g, 0, none⟩ ∧ w.heap.size ≤ g ∧ g < wr.heap.size ∧ ∀ j (hj : j < L.length), wr.cell? ⟨g, j * 3, none⟩ = some (.int .i64 L[j].s.z0) ∧ wr.cell? ⟨g, j * 3 + 1, none⟩ = some (.int .i64 L[j].s.z1) ∧ wr.cell? ⟨g, j * 3 + 2, none⟩ = some (.slice L[j].A L[j].s.ar.length L[j].c)) := by
  have hh := h.own
  have hlt := hh.lt
  obtain ⟨h1, h2⟩ := h.own
  rcases h2 with ⟨rfl, h3⟩ | ⟨g, cap, cur, rfl, hB, hg, h4⟩
  · exact ⟨none, 0, by rw [h3], by omega, by omega, fun h => by omega⟩
  · refine ⟨_, cap, rfl, h4.1, ?_, fun _ => ⟨g, rfl, hB, (hlt g rfl).2, fun j hj => ?_⟩⟩
    · have := h4.2.1; unfold maxLen at this; omega
    · have c := fun i (hi : i < L.length * 3) => World.ownsRow.cellAt hh i hi
      obtain ⟨e0, e1, e2⟩ := svcells_at L j hj
      exact ⟨(c _ (by omega)).trans e0, (c _ (by omega)).trans e1, (c _ (by omega)).trans e2⟩
end Go.Proofs.Ytdnoadngfkiabaa
namespace Go.Proofs.Ytdnoadngfkiabaa
open Go.RowKit

/-! ### the sets -/
/-- a set of cells and its form. -/
structure FS (F : List Rc) (S : Int → Int → Prop) : Prop where
  form : IsForm F
  cells : ∀ x y, HasL F x y ↔ S x y
theorem FS.eq {F G : List Rc} {S S' : Int → Int → Prop} (h : FS F S) (k : FS G S') (e : ∀ x y, S x y ↔ S' x y) : F = G := form_eq h.form k.form (fun x y => by rw [h.cells, k.cells, e])
theorem FS.ok {F : List Rc} {S : Int → Int → Prop} (h : FS F S) : ∀ r ∈ F, ROk r := form_ok h.form
end Go.Proofs.Ytdnoadngfkiabaa
