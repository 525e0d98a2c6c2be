/-
  A disk in a law: over the world in which the law was called.
  Two disks in a law, and new lists of ints.
-/
import Derived.Test.YtbpkcgkcamkggaaGreatDoorT925
import Derived.BigRegion
set_option linter.unusedVariables false
set_option maxRecDepth 100000
namespace Go.Proofs.YtbpkcgkcamkggaaGreatDoor
open Go.RowKit

/-- a list of ints that can be read. -/
def JRow (w : World) (A : Option Addr) (l : List Int) : Prop := 0 < l.length → ∃ b off, A = some ⟨b, off, none⟩ ∧ b < w.heap.size ∧ ∀ j (h : j < l.length), w.cell? ⟨b, off + j, none⟩ = some (.int .i64 l[j])
theorem JRow.below {w w' : World} {A : Option Addr} {l : List Int} (h : JRow w A l) (hb : Below w.heap.size w w') : JRow w' A l := fun h0 => by
  obtain ⟨b, off, rfl, hl, hc⟩ := h h0
  exact ⟨b, off, rfl, Nat.lt_of_lt_of_le hl hb.size, fun j hj => (hb.cell (p := ⟨b, off + j, none⟩) hl).trans (hc j hj)⟩
/-- read at a later world: no disk of its own owns it. -/
theorem JRow.krd {w w' : World} {A : Option Addr} {l : List Int} (h : JRow w A l) (hb : Below w.heap.size w w') {r : Nat} {L : Lay} (ho : ∀ b, Own r L b → w.heap.size ≤ b) (cap : Nat) : KRd r L w' (.slice A l.length cap) l := by
  refine ⟨A, cap, rfl, fun h0 => ?_⟩
  obtain ⟨b, off, rfl, hl, hc⟩ := h.below hb h0
  obtain ⟨b2, off2, e, hl2, _⟩ := h h0
  cases e
  exact ⟨b, off, rfl, hl, fun h1 => by have := ho b h1; omega, hc⟩

theorem MLeft.after {r : Nat} {L : Lay} {d' : Dk} {n' n'' : Nat} {res res' : Value} {w w1 w' : World} {e : Ending} (h : MLeft r L d' n' res w1 e w') (hb : Below w.heap.size w w1) (hn : n' ≤ n'') : ∃ L', DAt r L' d' n'' w' ∧ PStep r L L' w w' := by
  obtain ⟨_, L', h1, h2⟩ := h
  exact ⟨L', h1.mono hn, (PStep.of_below hb).trans h2⟩


/-- a disk that has come into being since W. -/
structure Held (W : World) (r : Nat) (L : Lay) (d : Dk) (n : Nat) (w : World) : Prop where
  at_ : DAt r L d n w
  bel : Below W.heap.size W w
  own : ∀ b, Own r L b → W.heap.size ≤ b
theorem Held.step {W : World} {r : Nat} {L L' : Lay} {d d' : Dk} {n n' : Nat} {w w' : World} (h : Held W r L d n w) (hd : DAt r L' d' n' w') (k : PStep r L L' w w') : Held W r L' d' n' w' :=
  ⟨hd, h.bel.trans (k.fr.below h.bel.size h.own), fun b hb => by
    rcases k.own b hb with h1 | h1
    · exact h.own b h1
    · exact Nat.le_trans h.bel.size h1⟩
theorem Held.below {W : World} {r : Nat} {L : Lay} {d : Dk} {n : Nat} {w w' : World} (h : Held W r L d n w) (hb : Below w.heap.size w w') : Held W r L d n w' :=
  ⟨h.at_.below hb, h.bel.trans (hb.mono h.bel.size), h.own⟩
theorem Held.mono {W : World} {r : Nat} {L : Lay} {d : Dk} {n m : Nat} {w : World} (h : Held W r L d n w) (hn : n ≤ m) : Held W r L d m w := ⟨h.at_.mono hn, h.bel, h.own⟩

/-- what a method of the disk leaves in a law. -/
def HLeft (W : World) (r : Nat) (d' : Dk) (n' : Nat) (res : Value) (e : Ending) (w' : World) : Prop := e = .returned res ∧ ∃ L', Held W r L' d' n' w'
theorem Held.left {W : World} {r : Nat} {L : Lay} {d d' : Dk} {n n' : Nat} {w w' : World} {res : Value} {e : Ending} (h : Held W r L d n w) (hm : MLeft r L d' n' res w e w') : HLeft W r d' n' res e w' := by
  obtain ⟨he, L', hd, hs⟩ := hm
  exact ⟨he, L', h.step hd hs⟩

section
variable {W : World} {r : Nat} {L : Lay} {d : Dk} {n : Nat} {w : World}
end
theorem hNew {W w : World} (hb : Below W.heap.size W w) : Calls Tryz.prog 6 #[] w fun e w' => ∃ r L, e = .returned (.pointer (some ⟨r, 0, none⟩)) ∧ Held W r L Dk.new 0 w' ∧ Below w.heap.size w w' ∧ ∀ b, Own r L b → w.heap.size ≤ b :=
  (mNew w).mono fun e w' ⟨r, L, he, hd, hbb, ho⟩ => ⟨r, L, he, ⟨hd, hb.trans (hbb.mono hb.size), fun b h => Nat.le_trans hb.size (ho b h)⟩, hbb, ho⟩

theorem below_drew (w : World) (n : Nat) : Below w.heap.size w (w.drewN n) := ⟨rfl, rfl, rfl, Nat.le_refl _, fun _ _ => rfl⟩

end Go.Proofs.YtbpkcgkcamkggaaGreatDoor
namespace Go.Proofs.YtbpkcgkcamkggaaGreatDoor
open Go.RowKit

/-- two disks that share nothing written. -/
structure Pair (W : World) (r : Nat) (L : Lay) (d : Dk) (n : Nat) (r2 : Nat) (L2 : Lay) (d2 : Dk) (n2 : Nat) (w : World) : Prop where
  one : Held W r L d n w
  two : Held W r2 L2 d2 n2 w
  far : Apart r L r2 L2
section
variable {W : World} {r : Nat} {L L' : Lay} {d d' : Dk} {n n' : Nat} {r2 : Nat} {L2 : Lay} {d2 : Dk} {n2 : Nat} {w w' : World}
theorem Pair.below (h : Pair W r L d n r2 L2 d2 n2 w) (hb : Below w.heap.size w w') : Pair W r L d n r2 L2 d2 n2 w' := ⟨h.one.below hb, h.two.below hb, h.far⟩
theorem Pair.step (h : Pair W r L d n r2 L2 d2 n2 w) (hd : DAt r L' d' n' w') (k : PStep r L L' w w') : Pair W r L' d' n' r2 L2 d2 n2 w' := by
  obtain ⟨h1, h2⟩ := h.two.at_.far h.one.at_ h.far k
  exact ⟨h.one.step hd k, ⟨h1, (h.one.step hd k).bel, h.two.own⟩, h2⟩
theorem Pair.mono (h : Pair W r L d n r2 L2 d2 n2 w) (hn : n ≤ n') : Pair W r L d n' r2 L2 d2 n2 w := ⟨h.one.mono hn, h.two, h.far⟩
end

theorem below_alloc (w : World) (o : Obj) : Below w.heap.size w (w.alloc o) := (Below.refl _ _).alloc (Nat.le_refl _) o
theorem ret_is {e : Ending} {a b : Int} (h : e = .returned (.int .i64 a)) (hab : a = b) : e = .returned (.int .i64 b) := by rw [h, hab]
theorem str_is {s : ByteArray} {l : List UInt8} {a : Array UInt8} (h : s.data.toList = l) (hl : l = a.toList) : s = ⟨a⟩ := ByteArray.ext (Array.toList_inj.1 (h.trans hl))


end Go.Proofs.YtbpkcgkcamkggaaGreatDoor
