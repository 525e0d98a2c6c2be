/-
  Rows of bytes that a conversion laid or an append made, and the contract of the reference's Put.
-/
import Derived.Test.YtncadnmoiiiahaaDoorRz
import Derived.Laws.IdiomStrings
import Derived.ArgAppend
import Derived.Deep.Onto
import Derived.Lib.Builder
set_option linter.unusedVariables false
namespace Go.Proofs.YtncadnmoiiiahaaDoor
open Go.RowKit

def bcs (l : List UInt8) : List Value := l.map fun b => Value.int .u8 (b.toNat : Int)
theorem bcs_length (l : List UInt8) : (bcs l).length = l.length := by simp [bcs]
theorem bcs_append (l m : List UInt8) : bcs (l ++ m) = bcs l ++ bcs m := by simp [bcs]
theorem bcs_at (l : List UInt8) (j : Nat) (h : j < l.length) : (bcs l)[j]? = some (.int .u8 (l[j].toNat : Int)) := by simp [bcs, h]

/-- the call ends with a string of these bytes, and has only made memory. -/
def StrIs (L : List UInt8) (w : World) (e : Ending) (w' : World) : Prop := ∃ s : ByteArray, e = .returned (.string s) ∧ s.data.toList = L ∧ Below w.heap.size w w'

/-- a slice of bytes of the call's own, whose spare cells may be written. -/
def BRow (w : World) (B : Nat) (v : Value) (l : List UInt8) : Prop :=
  ∃ g cap cur z, v = .slice (some ⟨g, 0, none⟩) l.length cap ∧ B ≤ g ∧ w.heap[g]? = some (.cells cur 5 z) ∧ (z = (0, 0) ∨ cur.size ≤ z.1) ∧ l.length ≤ cap ∧ cap ≤ cur.size ∧ cur.toList.take l.length = bcs l

theorem brow_lt {w : World} {g : Nat} {o : Obj} (h : w.heap[g]? = some o) : g < w.heap.size := by
  rcases Nat.lt_or_ge g w.heap.size with hlt | hge
  · exact hlt
  · rw [Array.getElem?_eq_none hge] at h; cases h
theorem frozen_behind {w : World} {g : Nat} {cur : Array Value} {T : TypeId} {z : Nat × Nat} (h : w.heap[g]? = some (.cells cur T z)) (hz : z = (0, 0) ∨ cur.size ≤ z.1) {j : Nat} (hj : j < cur.size) : w.frozen? ⟨g, j, none⟩ = false := by
  obtain ⟨lo, hi⟩ := z
  simp only [World.frozen?, h]
  rcases hz with hz | hz
  · simp only [Prod.mk.injEq] at hz
    obtain ⟨rfl, rfl⟩ := hz
    simp
  · simp only at hz
    simp; omega

theorem BRow.parts {w : World} {B : Nat} {v : Value} {l : List UInt8} (h : BRow w B v l) :
    ∃ g cap, v = .slice (some ⟨g, 0, none⟩) l.length cap ∧ g < w.heap.size ∧ B ≤ g ∧ (∀ j (hj : j < l.length), w.cell? ⟨g, j, none⟩ = some (.int .u8 (l[j].toNat : Int))) ∧ (∀ j, j < cap → (w.cell? ⟨g, j, none⟩).isSome = true ∧ w.frozen? ⟨g, j, none⟩ = false) ∧ l.length ≤ cap := by
  obtain ⟨g, cap, cur, z, rfl, hB, hg, hz, hl, hc, ht⟩ := h
  refine ⟨g, cap, rfl, brow_lt hg, hB, fun j hj => ?_, fun j hj => ⟨?_, frozen_behind hg hz (by omega)⟩, hl⟩
  · rw [Lib.cell_of_heap hg, ← bcs_at l j hj, ← ht, List.getElem?_take, if_pos hj]; simp
  · rw [Lib.cell_of_heap hg]; simp; omega

theorem brow_fresh (w : World) (s : ByteArray) (n : Nat) : BRow (w.drew.alloc (.cells (bytesRow s (grownCap w s.size 0 5)) 5 ((bytesRow s (grownCap w s.size 0 5)).size, (bytesRow s (grownCap w s.size 0 5)).size + 1))) w.heap.size (.slice (some ⟨w.heap.size, 0, none⟩) s.size (grownCap w s.size 0 5)) s.data.toList := by
  have hge := grownCap_ge w s.size 0 5
  have hsz : s.data.toList.length = s.size := Array.length_toList
  generalize grownCap w s.size 0 5 = cap at *
  refine ⟨w.heap.size, cap, bytesRow s cap, _, by rw [hsz], Nat.le_refl _, heap_alloc_new w.drew _, .inr (Nat.le_refl _), by rw [hsz]; exact hge, ?_, ?_⟩
  · simp [bytesRow]; omega
  · rw [hsz]
    unfold bytesRow bcs
    rw [Array.toList_append, List.take_append_of_le_length (by simp), List.take_of_length_le (by simp)]
    simp

theorem BRow.of_own {w : World} {B n : Nat} {v : Value} {l : List UInt8} (h : w.ownsRow B 5 1 v n (bcs l)) (hn : 0 < n) : BRow w B v l := by
  obtain ⟨hl, hv⟩ := h
  rw [bcs_length, Nat.mul_one] at hl
  rcases hv with ⟨_, rfl⟩ | ⟨g, cap, cur, rfl, hB, hg, hc, _, hs, ht⟩
  · exact absurd hn (Nat.lt_irrefl _)
  · subst hl
    rw [Nat.mul_one] at hs ht
    exact ⟨g, cap, cur, (0, 0), rfl, hB, hg, .inl rfl, hc, by omega, ht⟩

theorem heap_set {w : World} {g j : Nat} {u : Value} {cur : Array Value} {T : TypeId} {z : Nat × Nat} (h : w.heap[g]? = some (.cells cur T z)) : (w.setCell ⟨g, j, none⟩ u).heap[g]? = some (.cells (cur.setIfInBounds j u) T z) := by
  simp [World.setCell, Array.getElem?_modify, h]

theorem BRow.stored {w : World} {B g n cap j : Nat} {l : List UInt8} (h : BRow w B (.slice (some ⟨g, 0, none⟩) n cap) l) (c : UInt8) :
    BRow (w.setCell ⟨g, j, none⟩ (.int .u8 (c.toNat : Int))) B (.slice (some ⟨g, 0, none⟩) n cap) (l.set j c) := by
  obtain ⟨g', cap', cur, z, hv, hB, hg, hz, hl, hc, ht⟩ := h
  simp only [Value.slice.injEq, Option.some.injEq, Addr.mk.injEq, and_true] at hv
  obtain ⟨rfl, rfl, rfl⟩ := hv
  refine ⟨g, cap, _, z, by rw [List.length_set], hB, heap_set hg, by simpa using hz, by simpa using hl, by simpa using hc, ?_⟩
  rw [List.length_set, Array.toList_setIfInBounds, List.take_set, ht]
  simp [bcs, List.map_set]
theorem BRow.room {w : World} {B g n cap : Nat} {l : List UInt8} (h : BRow w B (.slice (some ⟨g, 0, none⟩) n cap) l) (c : UInt8) (hr : n + 1 ≤ cap) :
    BRow (w.setCell ⟨g, n, none⟩ (.int .u8 (c.toNat : Int))) B (.slice (some ⟨g, 0, none⟩) (n + 1) cap) (l ++ [c]) := by
  obtain ⟨g', cap', cur, z, hv, hB, hg, hz, hl, hc, ht⟩ := h
  simp only [Value.slice.injEq, Option.some.injEq, Addr.mk.injEq, and_true] at hv
  obtain ⟨rfl, rfl, rfl⟩ := hv
  refine ⟨g, cap, _, z, by simp, hB, heap_set hg, by simpa using hz, by simpa using hr, by simpa using hc, ?_⟩
  rw [Array.toList_setIfInBounds, List.length_append, List.length_singleton, List.take_set, bcs_append, ← ht]
  have hlt : l.length < cur.toList.length := by simp; omega
  rw [List.take_succ_eq_append_getElem hlt, List.set_append_right _ _ (by simp; omega)]
  have e : l.length - (cur.toList.take l.length).length = 0 := by simp; omega
  rw [e]; rfl
theorem BRow.kept {w w' : World} {B : Nat} {v : Value} {l : List UInt8} (h : BRow w B v l) (hb : Below w.heap.size w w') : BRow w' B v l := by
  obtain ⟨g, cap, cur, z, hv, hB, hg, h2⟩ := h
  exact ⟨g, cap, cur, z, hv, hB, (hb.block g (brow_lt hg)).trans hg, h2⟩

end Go.Proofs.YtncadnmoiiiahaaDoor
