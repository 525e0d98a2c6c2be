/-
  A disk in a law: over the world in which the law was called.
-/
import Derived.Test.YtncadnmoiiiahaaDoorMw
import Derived.BigRegion
set_option linter.unusedVariables false
set_option maxRecDepth 100000
namespace Go.Proofs.YtncadnmoiiiahaaDoor
open Go.RowKit

/-- a list of ints that can be read. -/
def JRow (w : World) (A : Option Addr) (l : List Int) : Prop := 0 < l.length → ∃ b off, A = some ⟨b, off, none⟩ ∧ b < w.heap.size ∧ ∀ j (h : j < l.length), w.cell? ⟨b, off + j, none⟩ = some (.int .i64 l[j])
theorem JRow.below {w w' : World} {A : Option Addr} {l : List Int} (h : JRow w A l) (hb : Below w.heap.size w w') : JRow w' A l := fun h0 => by
  obtain ⟨b, off, rfl, hl, hc⟩ := h h0
  exact ⟨b, off, rfl, Nat.lt_of_lt_of_le hl hb.size, fun j hj => (hb.cell (p := ⟨b, off + j, none⟩) hl).trans (hc j hj)⟩
/-- read at a later world: no disk of its own owns it. -/
theorem JRow.krd {w w' : World} {A : Option Addr} {l : List Int} (h : JRow w A l) (hb : Below w.heap.size w w') {r : Nat} {L : Lay} (ho : ∀ b, Own r L b → w.heap.size ≤ b) (cap : Nat) : KRd r L w' (.slice A l.length cap) l := by
  refine ⟨A, cap, rfl, fun h0 => ?_⟩
  obtain ⟨b, off, rfl, hl, hc⟩ := h.below hb h0
  obtain ⟨b2, off2, e, hl2, _⟩ := h h0
  cases e
  exact ⟨b, off, rfl, hl, fun h1 => by have := ho b h1; omega, hc⟩

theorem MLeft.after {r : Nat} {L : Lay} {d' : Dk} {n' n'' : Nat} {res res' : Value} {w w1 w' : World} {e : Ending} (h : MLeft r L d' n' res w1 e w') (hb : Below w.heap.size w w1) (hn : n' ≤ n'') : ∃ L', DAt r L' d' n'' w' ∧ PStep r L L' w w' := by
  obtain ⟨_, L', h1, h2⟩ := h
  exact ⟨L', h1.mono hn, (PStep.of_below hb).trans h2⟩


/-- a disk that has come into being since W. -/
structure Held (W : World) (r : Nat) (L : Lay) (d : Dk) (n : Nat) (w : World) : Prop where
  at_ : DAt r L d n w
  bel : Below W.heap.size W w
  own : ∀ b, Own r L b → W.heap.size ≤ b
theorem Held.step {W : World} {r : Nat} {L L' : Lay} {d d' : Dk} {n n' : Nat} {w w' : World} (h : Held W r L d n w) (hd : DAt r L' d' n' w') (k : PStep r L L' w w') : Held W r L' d' n' w' :=
  ⟨hd, h.bel.trans (k.fr.below h.bel.size h.own), fun b hb => by
    rcases k.own b hb with h1 | h1
    · exact h.own b h1
    · exact Nat.le_trans h.bel.size h1⟩
theorem Held.below {W : World} {r : Nat} {L : Lay} {d : Dk} {n : Nat} {w w' : World} (h : Held W r L d n w) (hb : Below w.heap.size w w') : Held W r L d n w' :=
  ⟨h.at_.below hb, h.bel.trans (hb.mono h.bel.size), h.own⟩
theorem Held.mono {W : World} {r : Nat} {L : Lay} {d : Dk} {n m : Nat} {w : World} (h : Held W r L d n w) (hn : n ≤ m) : Held W r L d m w := ⟨h.at_.mono hn, h.bel, h.own⟩

/-- what a method of the disk leaves in a law. -/
def HLeft (W : World) (r : Nat) (d' : Dk) (n' : Nat) (res : Value) (e : Ending) (w' : World) : Prop := e = .returned res ∧ ∃ L', Held W r L' d' n' w'
theorem Held.left {W : World} {r : Nat} {L : Lay} {d d' : Dk} {n n' : Nat} {w w' : World} {res : Value} {e : Ending} (h : Held W r L d n w) (hm : MLeft r L d' n' res w e w') : HLeft W r d' n' res e w' := by
  obtain ⟨he, L', hd, hs⟩ := hm
  exact ⟨he, L', h.step hd hs⟩

section
variable {W : World} {r : Nat} {L : Lay} {d : Dk} {n : Nat} {w : World}
theorem hSync (h : Held W r L d n w) (hn : n ≤ 137438953472) {f : Int} (h64 : In64 f) : Calls Tryd.prog 17 #[.pointer (some ⟨r, 0, none⟩), .int .i64 f] w (HLeft W r (d.sync f).1 n (.int .i64 (d.sync f).2)) :=
  (mSync h.at_ hn h64).mono fun e w' hm => h.left hm
theorem hTrunc (h : Held W r L d n w) (hn : n ≤ 137438953472) {f k : Int} (h64 : In64 f) (hk : In64 k) : Calls Tryd.prog 19 #[.pointer (some ⟨r, 0, none⟩), .int .i64 f, .int .i64 k] w (HLeft W r (d.trunc f k).1 n (.int .i64 (d.trunc f k).2)) :=
  (mTrunc h.at_ hn h64 hk).mono fun e w' hm => h.left hm
theorem hWrite (h : Held W r L d n w) (hn : n ≤ 137438953472) {f a : Int} (h64 : In64 f) (ha : In64 a) (s : ByteArray) (hs : s.size ≤ 300) : Calls Tryd.prog 11 #[.pointer (some ⟨r, 0, none⟩), .int .i64 f, .int .i64 a, .string s] w (HLeft W r (d.write f a s.data.toList).1 (n + 302) (.int .i64 (d.write f a s.data.toList).2)) :=
  (mWrite h.at_ hn h64 ha s (by omega)).mono fun e w' hm => by
    obtain ⟨he, L', hh⟩ := h.left hm
    exact ⟨he, L', hh.mono (by omega)⟩
theorem hCrash (h : Held W r L d n w) (hn : n ≤ 137438953472) {A : Option Addr} {l : List Int} (cap : Nat) (hr : JRow W A l) (hl : l.length ≤ 60) : Calls Tryd.prog 23 #[.pointer (some ⟨r, 0, none⟩), .slice A l.length cap] w (HLeft W r (d.crash l) n (.tuple #[])) :=
  (mCrash h.at_ hn (hr.krd h.bel h.own cap) (by omega)).mono fun e w' hm => h.left hm
theorem hCrash0 (h : Held W r L d n w) (hn : n ≤ 137438953472) : Calls Tryd.prog 23 #[.pointer (some ⟨r, 0, none⟩), .slice none 0 0] w (HLeft W r (d.crash []) n (.tuple #[])) :=
  hCrash (l := []) h hn 0 (fun h => absurd h (by simp)) (by simp)
/-- what a read gives in a law. -/
def HRead (W : World) (r : Nat) (L : Lay) (d : Dk) (n : Nat) (res : List UInt8 × Int) (e : Ending) (w' : World) : Prop :=
  ∃ s : ByteArray, e = .returned (.tuple #[.string s, .int .i64 res.2]) ∧ s.data.toList = res.1 ∧ Held W r L d n w'
theorem hRead (h : Held W r L d n w) (hn : n ≤ 137438953472) {f a k : Int} (h64 : In64 f) (ha : In64 a) (hk : In64 k) : Calls Tryd.prog 10 #[.pointer (some ⟨r, 0, none⟩), .int .i64 f, .int .i64 a, .int .i64 k] w (HRead W r L d n (d.read f a k)) :=
  (mRead h.at_ hn h64 ha hk).mono fun e w' ⟨s, he, hs, hb⟩ => ⟨s, he, hs, h.below hb⟩
end
theorem hNew {W w : World} (hb : Below W.heap.size W w) : Calls Tryd.prog 6 #[] w fun e w' => ∃ r L, e = .returned (.pointer (some ⟨r, 0, none⟩)) ∧ Held W r L Dk.new 0 w' ∧ Below w.heap.size w w' ∧ ∀ b, Own r L b → w.heap.size ≤ b :=
  (mNew w).mono fun e w' ⟨r, L, he, hd, hbb, ho⟩ => ⟨r, L, he, ⟨hd, hb.trans (hbb.mono hb.size), fun b h => Nat.le_trans hb.size (ho b h)⟩, hbb, ho⟩

theorem below_drew (w : World) (n : Nat) : Below w.heap.size w (w.drewN n) := ⟨rfl, rfl, rfl, Nat.le_refl _, fun _ _ => rfl⟩

end Go.Proofs.YtncadnmoiiiahaaDoor
