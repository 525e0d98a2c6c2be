/-
  Contracts of the program's layer 8 (3): the closure of rowsAround, and eachSlab at it.
-/
import Derived.Test.YtcnojedijimheaaSg
import Derived.Shelf.Abstract
set_option linter.unusedVariables false
set_option maxRecDepth 100000
namespace Go.Proofs.Ytcnojedijimheaa
open Go.RowKit

/-- what the closure has caught: the missing columns at bm, the rows at br. -/
structure RowsSt (W0 : World) (bm br : Nat) (m : Int) (P : List (Int × Int)) (w : World) : Prop where
  m : w.heap[bm]? = some (.cells #[.int .i64 m] 3 (0, 0))
  r : ∃ A c, w.heap[br]? = some (.cells #[.slice A P.length c] 58 (0, 0)) ∧ SpRow w 0 A P ∧ (∀ g, Value.ownBlock (.slice A P.length c) = some g → g ≠ bm ∧ g ≠ br) ∧ P.length ≤ c ∧ c ≤ 9223372036854775807
  lt : bm < br
  base : W0.heap.size ≤ bm
  bel : Below W0.heap.size W0 w
theorem heap_set {w : World} {b : Nat} {x y : Value} {t : TypeId} (h : w.heap[b]? = some (.cells #[x] t (0, 0))) : (w.setCell ⟨b, 0, none⟩ y).heap[b]? = some (.cells #[y] t (0, 0)) := by
  simp [World.setCell, Array.getElem?_modify, h]
theorem RowsSt.setm {W0 : World} {bm br : Nat} {m : Int} {P : List (Int × Int)} {w : World} (h : RowsSt W0 bm br m P w) (m' : Int) : RowsSt W0 bm br m' P (w.setCell ⟨bm, 0, none⟩ (.int .i64 m')) := by
  obtain ⟨A, c, h1, h2, hx, h3, h4⟩ := h.r
  refine ⟨heap_set h.m, ⟨A, c, ?_, fun h0 => ?_, hx, h3, h4⟩, h.lt, h.base, h.bel.setCell h.base _⟩
  · rw [set_other _ _ _ _ (by have := h.lt; simp only; omega)]; exact h1
  · obtain ⟨b, off, e, hB, hl, hc⟩ := h2 h0
    have hxx := hx b (by rw [e]; rfl)
    have hne : ∀ o, (w.setCell ⟨bm, 0, none⟩ (.int .i64 m')).cell? ⟨b, o, none⟩ = w.cell? ⟨b, o, none⟩ := fun o => World.cell?_of_block (set_other _ _ _ _ (by simp only; exact hxx.1))
    exact ⟨b, off, e, hB, by simpa [World.setCell] using hl, fun j hj => ⟨(hne _).trans (hc j hj).1, (hne _).trans (hc j hj).2⟩⟩
theorem RowsSt.setr {W0 : World} {bm br : Nat} {m : Int} {P P' : List (Int × Int)} {w : World} (h : RowsSt W0 bm br m P w) {A : Option Addr} {c : Nat} (h2 : SpRow w 0 A P') (hx : ∀ g, Value.ownBlock (.slice A P'.length c) = some g → g ≠ bm ∧ g ≠ br) (h3 : P'.length ≤ c) (h4 : c ≤ 9223372036854775807) : RowsSt W0 bm br m P' (w.setCell ⟨br, 0, none⟩ (.slice A P'.length c)) := by
  obtain ⟨_, _, h1, _, _, _, _⟩ := h.r
  have hlt := h.lt
  refine ⟨?_, ⟨A, c, heap_set h1, fun h0 => ?_, hx, h3, h4⟩, h.lt, h.base, h.bel.setCell (by have := h.base; simp only; omega) _⟩
  · rw [set_other _ _ _ _ (by simp only; omega)]; exact h.m
  · obtain ⟨b, off, e, hB, hl, hc⟩ := h2 h0
    have hxx := hx b (by rw [e]; rfl)
    have hne : ∀ o, (w.setCell ⟨br, 0, none⟩ (.slice A P'.length c)).cell? ⟨b, o, none⟩ = w.cell? ⟨b, o, none⟩ := fun o => World.cell?_of_block (set_other _ _ _ _ (by simp only; exact hxx.2))
    exact ⟨b, off, e, hB, by simpa [World.setCell] using hl, fun j hj => ⟨(hne _).trans (hc j hj).1, (hne _).trans (hc j hj).2⟩⟩
theorem RowsSt.go {W0 : World} {bm br : Nat} {m : Int} {P : List (Int × Int)} {w w' : World} (h : RowsSt W0 bm br m P w) (hb : Below w.heap.size w w') : RowsSt W0 bm br m P w' := by
  obtain ⟨A, c, h1, h2, hx, h3, h4⟩ := h.r
  have l1 := (Array.getElem?_eq_some_iff.1 h.m).1
  have l2 := (Array.getElem?_eq_some_iff.1 h1).1
  exact ⟨(hb.block _ l1).trans h.m, ⟨A, c, (hb.block _ l2).trans h1, h2.below hb, hx, h3, h4⟩, h.lt, h.base, h.bel.trans (hb.mono h.bel.size)⟩
set_option maxHeartbeats 8000000 in
theorem yrowsC_any (W0 : World) (bm br : Nat) (m : Int) (P : List (Int × Int)) (A2 : Option Addr) (c2 : Nat) (l : List Rc) (c : Int) (w : World) (h : RowsSt W0 bm br m P w) (h2 : RRow W0 A2 l) (k3 : l.length ≤ c2) (k4 : c2 ≤ 9223372036854775807) (hs : P.length + l.length ≤ 4294967296) (hm : -1073741824 ≤ m - c ∧ m - c ≤ 1073741824) :
    Calls Try.prog 96 #[.slice A2 l.length c2, .int .i64 c, .pointer (some ⟨bm, 0, none⟩), .pointer (some ⟨br, 0, none⟩)] w fun e w' => e = .returned (.tuple #[]) ∧ RowsSt W0 bm br (m - c) (comS P (spansR l)) w' := by
  have y0 : w.cell? ⟨bm, 0, none⟩ = some (.int .i64 m) := by rw [Lib.cell_of_heap h.m]; rfl
  have f0 : w.frozen? ⟨bm, 0, none⟩ = false := Lib.frozen_of_heap h.m 0
  have S1 := h.setm (m - c)
  obtain ⟨A, c1, e1, h1, _, k1, k2⟩ := S1.r
  have y1 : (w.setCell ⟨bm, 0, none⟩ (.int .i64 (m - c))).cell? ⟨br, 0, none⟩ = some (.slice A P.length c1) := by rw [Lib.cell_of_heap e1]; rfl
  have f1 : (w.setCell ⟨bm, 0, none⟩ (.int .i64 (m - c))).frozen? ⟨br, 0, none⟩ = false := Lib.frozen_of_heap e1 0
  have lt2 : br < (w.setCell ⟨bm, 0, none⟩ (.int .i64 (m - c))).heap.size := (Array.getElem?_eq_some_iff.1 e1).1
  have hrow : RRow (w.setCell ⟨bm, 0, none⟩ (.int .i64 (m - c))) A2 l := h2.below S1.bel
  have HC := Lib.hid (ycom_any 0 A c1 A2 c2 P l _ h1 hrow k1 k2 k3 k4 hs)
  have HS1 := Lib.hid S1
  have q1 : IntKind.i64.wrap (m - c) = m - c := IntWalk.i64_in _ (by omega)
  have HX : Hid (∀ e w', SpIs (comS P (spansR l)) (w.setCell ⟨bm, 0, none⟩ (.int .i64 (m - c))) e w' → ∃ A' c', e = .returned (.slice A' (comS P (spansR l)).length c') ∧ w'.frozen? ⟨br, 0, none⟩ = false ∧ (∃ y, w'.cell? ⟨br, 0, none⟩ = some y) ∧ RowsSt W0 bm br (m - c) (comS P (spansR l)) (w'.setCell ⟨br, 0, none⟩ (.slice A' (comS P (spansR l)).length c'))) := Lib.hid (by
    rintro e w' ⟨v, rfl, ho, hb⟩
    obtain ⟨A', c', rfl, r1, r2, r3, _⟩ := own_spans ho
    have S2 := S1.go hb
    refine ⟨A', c', rfl, (hb.frozen (p := ⟨br, 0, none⟩) lt2).trans f1, ⟨_, (hb.cell (p := ⟨br, 0, none⟩) lt2).trans y1⟩, S2.setr (r1.base (Nat.zero_le _)) (fun g hg => by have := (ho.lt g hg).1; have := S1.lt; omega) r2 r3⟩)
  clear S1 h h1 h2 hrow e1 k1 k2 k3 k4 hs hm lt2
  generalize comS P (spansR l) = R at *
  go_enter Try.func96, Try.ntmps96
  go_wp2_with fail
  refine HC.out.mono ?_
  intro e w' hsp
  obtain ⟨A', c', rfl, f2, ⟨y, y2⟩, hfin⟩ := HX.out e w' hsp
  have HF := Lib.hid hfin
  clear hfin hsp HX HC HS1
  go_wp2_with fail
  go_end0
  exact ⟨rfl, HF.out⟩
end Go.Proofs.Ytcnojedijimheaa
