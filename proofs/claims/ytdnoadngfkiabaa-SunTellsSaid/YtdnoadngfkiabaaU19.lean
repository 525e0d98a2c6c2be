/-
  Mathematics: the boxes of a solid.
  Rows of boxes in memory, as a function that makes one hands it back.
  Contracts of the program's layer 6 (13): Has, with slices.ContainsFunc and slices.IndexFunc at its closure.
  Contracts of the program's layer 9, 3: Has, Volume, Section, Same.
-/
import Derived.Test.YtdnoadngfkiabaaU02
import Derived.Test.YtdnoadngfkiabaaU17
import Derived.Test.YtdnoadngfkiabaaU14
import Derived.Test.YtdnoadngfkiabaaU18
import Derived.Test.YtdnoadngfkiabaaU16
import Derived.Shelf.Abstract
set_option linter.unusedVariables false
set_option maxRecDepth 100000
namespace Go.Proofs.Ytdnoadngfkiabaa

def boxL (s : Sl) : List Bx := s.ar.map fun r => ⟨r, s.z0, s.z1⟩
def boxesS (S : List Sl) : List Bx := S.flatMap boxL
theorem boxesS_next (S : List Sl) (k : Nat) (h : k < S.length) : boxesS (S.take (k + 1)) = boxesS (S.take k) ++ boxL S[k] := by
  unfold boxesS; rw [List.take_succ_eq_append_getElem h, List.flatMap_append]; simp
theorem boxesS_len {S : List Sl} (h : ∀ s ∈ S, s.ar.length ≤ 200) : (boxesS S).length ≤ S.length * 200 := by
  induction S with
  | nil => simp [boxesS]
  | cons s S ih =>
    have h1 := ih (fun u hu => h u (List.mem_cons_of_mem _ hu))
    have h2 := h s List.mem_cons_self
    rw [show boxesS (s :: S) = boxL s ++ boxesS S from rfl, List.length_append, List.length_cons]
    simp only [boxL, List.length_map]; omega
theorem boxes_ok {S : List Sl} (h : SForm S) : ∀ b ∈ boxesS S, BOk b := by
  intro b hb
  obtain ⟨s, hs, hb⟩ := List.mem_flatMap.1 hb
  obtain ⟨r, hr, rfl⟩ := List.mem_map.1 hb
  exact ⟨form_ok (h.each s hs).form r hr, (h.each s hs).h⟩
end Go.Proofs.Ytdnoadngfkiabaa
namespace Go.Proofs.Ytdnoadngfkiabaa
open Go.RowKit

theorem infoBox : (Try.prog.info? 45).map (fun i => (i.zero, i.size, i.bytes)) = some (some (.agg #[.int .i64 0, .int .i64 0, .int .i64 0, .int .i64 0, .int .i64 0, .int .i64 0]), 6, 48) := by kernel_rfl
def bxc (b : Bx) : List Value := [.int .i64 b.r.X0, .int .i64 b.r.Y0, .int .i64 b.r.X1, .int .i64 b.r.Y1, .int .i64 b.z0, .int .i64 b.z1]
def bxcells (l : List Bx) : List Value := l.flatMap bxc
theorem bxcells_append (l m : List Bx) : bxcells (l ++ m) = bxcells l ++ bxcells m := by simp [bxcells]
theorem bxcells_at : ∀ (l : List Bx) (j : Nat) (h : j < l.length), (bxcells l)[j * 6]? = some (.int .i64 l[j].r.X0) ∧ (bxcells l)[j * 6 + 1]? = some (.int .i64 l[j].r.Y0) ∧ (bxcells l)[j * 6 + 2]? = some (.int .i64 l[j].r.X1) ∧ (bxcells l)[j * 6 + 3]? = some (.int .i64 l[j].r.Y1) ∧ (bxcells l)[j * 6 + 4]? = some (.int .i64 l[j].z0) ∧ (bxcells l)[j * 6 + 5]? = some (.int .i64 l[j].z1) := by
  intro l
  induction l with
  | nil => intro j h; exact absurd h (by simp)
  | cons b l ih =>
    intro j h
    have e : bxcells (b :: l) = .int .i64 b.r.X0 :: .int .i64 b.r.Y0 :: .int .i64 b.r.X1 :: .int .i64 b.r.Y1 :: .int .i64 b.z0 :: .int .i64 b.z1 :: bxcells l := rfl
    rw [e]
    cases j with
    | zero => exact ⟨rfl, rfl, rfl, rfl, rfl, rfl⟩
    | succ j =>
      obtain ⟨h0, h1, h2, h3, h4, h5⟩ := ih j (by simp at h; omega)
      rw [show (j + 1) * 6 = j * 6 + 1 + 1 + 1 + 1 + 1 + 1 by omega]
      simp only [List.getElem?_cons_succ, List.getElem_cons_succ]
      exact ⟨h0, h1, h2, h3, h4, h5⟩
theorem own_boxes {w : World} {B : Nat} {v : Value} {l : List Bx} (h : w.ownsRow B 45 6 v l.length (bxcells l)) : ∃ A cap, v = .slice A l.length cap ∧ BxRow w A l ∧ l.length ≤ cap ∧ cap ≤ 9223372036854775807 := by
  have hh := h
  have hlt := h.lt
  obtain ⟨h1, h2⟩ := h
  rcases h2 with ⟨rfl, h3⟩ | ⟨g, cap, cur, rfl, hB, hg, h4⟩
  · exact ⟨none, 0, by rw [h3], fun h => by omega, by omega, by omega⟩
  · refine ⟨_, cap, rfl, fun h0 => ⟨g, 0, rfl, (hlt g rfl).2, fun j hj => ?_⟩, h4.1, by have := h4.2.1; unfold maxLen at this; omega⟩
    have c := fun i (hi : i < l.length * 6) => World.ownsRow.cellAt hh i hi
    obtain ⟨e0, e1, e2, e3, e4, e5⟩ := bxcells_at l j hj
    rw [Nat.zero_add]
    exact ⟨(c _ (by omega)).trans e0, (c _ (by omega)).trans e1, (c _ (by omega)).trans e2, (c _ (by omega)).trans e3, (c _ (by omega)).trans e4, (c _ (by omega)).trans e5⟩
def BxRes (F : List Bx) (w : World) (e : Ending) (w' : World) : Prop := ∃ v, e = .returned v ∧ w'.ownsRow w.heap.size 45 6 v F.length (bxcells F) ∧ Below w.heap.size w w'
structure QW (v : Value) (F : List Bx) (w wr : World) : Prop where
  own : wr.ownsRow w.heap.size 45 6 v F.length (bxcells F)
  bel : Below w.heap.size w wr
end Go.Proofs.Ytdnoadngfkiabaa
namespace Go.Proofs.Ytdnoadngfkiabaa
open Go.RowKit

end Go.Proofs.Ytdnoadngfkiabaa
namespace Go.Proofs.Ytdnoadngfkiabaa
open Go.RowKit

theorem bright_yes {A : Option Addr} {cap : Nat} {S : List Sl} {w : World} (h : SIn w A cap S) (hs : SolP S) : Calls Try.prog 28 #[.slice A S.length cap] w (BlIs true w) :=
  (bright_any A cap S w h).mono fun e w' ⟨b, hb, h'⟩ => by obtain rfl := hb.2 hs; exact h'
theorem bright_no {A : Option Addr} {cap : Nat} {S : List Sl} {w : World} (h : SIn w A cap S) (hs : ¬ SolP S) : Calls Try.prog 28 #[.slice A S.length cap] w (BlIs false w) :=
  (bright_any A cap S w h).mono fun e w' ⟨b, hb, h'⟩ => by
    cases b with
    | false => exact h'
    | true => exact absurd (hb.1 rfl) hs
/-! ### the volume -/
def Vx (p : Nat) (u : Sl) (A : Option Addr) (c : Nat) (w0 w : World) : Prop := w.cell? ⟨p, 0, none⟩ = some (.int .i64 u.z0) ∧ w.cell? ⟨p, 1, none⟩ = some (.int .i64 u.z1) ∧ w.cell? ⟨p, 2, none⟩ = some (.slice A u.ar.length c) ∧ p < w.heap.size ∧ Hid (Below w0.heap.size w0 w)
theorem Vx.go {p : Nat} {u : Sl} {A : Option Addr} {c : Nat} {w0 w w' : World} (h : Vx p u A c w0 w) (hb : Below w.heap.size w w') : Vx p u A c w0 w' := by
  obtain ⟨h0, h1, h2, h6, h8⟩ := h
  have cp := fun i => hb.cell (p := ⟨p, i, none⟩) h6
  exact ⟨(cp _).trans h0, (cp _).trans h1, (cp _).trans h2, Nat.lt_of_lt_of_le h6 hb.size, Lib.hid (h8.out.trans (hb.mono h8.out.size))⟩
theorem Vx.drewN {p : Nat} {u : Sl} {A : Option Addr} {c : Nat} {w0 w : World} (h : Vx p u A c w0 w) (n : Nat) : Vx p u A c w0 (w.drewN n) := h.go (below_drewN (Below.refl _ _) n)
noncomputable def volG (S : List Sl) : Int := @ite _ (SolP S) (Classical.propDecidable _) (volS S) 0
end Go.Proofs.Ytdnoadngfkiabaa
