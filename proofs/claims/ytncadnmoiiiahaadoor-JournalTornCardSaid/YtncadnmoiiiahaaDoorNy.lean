/-
  Two disks in a law, and new lists of ints.
-/
import Derived.Test.YtncadnmoiiiahaaDoorNz
set_option linter.unusedVariables false
set_option maxRecDepth 100000
namespace Go.Proofs.YtncadnmoiiiahaaDoor
open Go.RowKit

/-- two disks that share nothing written. -/
structure Pair (W : World) (r : Nat) (L : Lay) (d : Dk) (n : Nat) (r2 : Nat) (L2 : Lay) (d2 : Dk) (n2 : Nat) (w : World) : Prop where
  one : Held W r L d n w
  two : Held W r2 L2 d2 n2 w
  far : Apart r L r2 L2
section
variable {W : World} {r : Nat} {L L' : Lay} {d d' : Dk} {n n' : Nat} {r2 : Nat} {L2 : Lay} {d2 : Dk} {n2 : Nat} {w w' : World}
theorem Pair.swap (h : Pair W r L d n r2 L2 d2 n2 w) : Pair W r2 L2 d2 n2 r L d n w := ⟨h.two, h.one, h.far.symm⟩
theorem Pair.below (h : Pair W r L d n r2 L2 d2 n2 w) (hb : Below w.heap.size w w') : Pair W r L d n r2 L2 d2 n2 w' := ⟨h.one.below hb, h.two.below hb, h.far⟩
theorem Pair.step (h : Pair W r L d n r2 L2 d2 n2 w) (hd : DAt r L' d' n' w') (k : PStep r L L' w w') : Pair W r L' d' n' r2 L2 d2 n2 w' := by
  obtain ⟨h1, h2⟩ := h.two.at_.far h.one.at_ h.far k
  exact ⟨h.one.step hd k, ⟨h1, (h.one.step hd k).bel, h.two.own⟩, h2⟩
theorem Pair.mono (h : Pair W r L d n r2 L2 d2 n2 w) (hn : n ≤ n') : Pair W r L d n' r2 L2 d2 n2 w := ⟨h.one.mono hn, h.two, h.far⟩
theorem Held.pair (h : Held W r L d n w) (h2 : Held w r2 L2 d2 n2 w') : Pair W r L d n r2 L2 d2 n2 w' :=
  ⟨h.below h2.bel, ⟨h2.at_, h.bel.trans (h2.bel.mono h.bel.size), fun b hb => Nat.le_trans h.bel.size (h2.own b hb)⟩, fun b h1 h3 => by
    have := h.at_.own_lt h1
    have := h2.own b h3
    omega⟩
end

/-- a new list of ints: no disk's own. -/
theorem krd_new {r : Nat} {L : Lay} {d : Dk} {n : Nat} {w : World} (h : DAt r L d n w) (zs : List Int) (T : TypeId) : KRd r L (w.alloc (.cells (zs.map (Value.int .i64)).toArray T)) (.slice (some ⟨w.heap.size, 0, none⟩) zs.length zs.length) zs := by
  refine ⟨_, _, rfl, fun h0 => ⟨w.heap.size, 0, rfl, ?_, fun ho => ?_, fun j hj => ?_⟩⟩
  · exact brow_lt (heap_alloc_new w _)
  · have := h.own_lt ho
    omega
  · rw [Nat.zero_add]
    rw [Lib.cell_of_heap (heap_alloc_new w _)]
    simp [hj]
theorem below_alloc (w : World) (o : Obj) : Below w.heap.size w (w.alloc o) := (Below.refl _ _).alloc (Nat.le_refl _) o
theorem ret_is {e : Ending} {a b : Int} (h : e = .returned (.int .i64 a)) (hab : a = b) : e = .returned (.int .i64 b) := by rw [h, hab]
theorem two_is {e : Ending} {s : ByteArray} {a b : Int} (h : e = .returned (.tuple #[.string s, .int .i64 a])) (hab : a = b) : e = .returned (.tuple #[.string s, .int .i64 b]) := by rw [h, hab]
theorem str_is {s : ByteArray} {l : List UInt8} {a : Array UInt8} (h : s.data.toList = l) (hl : l = a.toList) : s = ⟨a⟩ := ByteArray.ext (Array.toList_inj.1 (h.trans hl))


end Go.Proofs.YtncadnmoiiiahaaDoor
