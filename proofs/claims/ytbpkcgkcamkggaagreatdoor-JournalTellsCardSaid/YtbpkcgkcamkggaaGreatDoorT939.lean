/-
  The reference's journal as it lies in memory, and what leaves it.
-/
import Derived.Test.YtbpkcgkcamkggaaGreatDoorT927
import Derived.Test.YtbpkcgkcamkggaaGreatDoorT938
set_option linter.unusedVariables false
set_option maxRecDepth 100000
namespace Go.Proofs.YtbpkcgkcamkggaaGreatDoor
open Go.RowKit W

/-- block k is none of those that the reference's disk or journal writes to. -/
def NonQ (w : World) (k : Nat) : Prop := ∀ c z, w.heap[k]? ≠ some (.cells c 68 z) ∧ w.heap[k]? ≠ some (.cells c 84 z) ∧ w.heap[k]? ≠ some (.cells c 49 z)
structure QFr (B : Nat) (w w' : World) : Prop where
  os : w'.os = w.os
  tape : w'.tape = w.tape
  output : w'.output = w.output
  size : w.heap.size ≤ w'.heap.size
  block : ∀ k, k < w.heap.size → k < B ∨ NonQ w k → w'.heap[k]? = w.heap[k]?
theorem QFr.refl (B : Nat) (w : World) : QFr B w w := ⟨rfl, rfl, rfl, Nat.le_refl _, fun _ _ _ => rfl⟩
theorem QFr.trans {B : Nat} {a b c : World} (h : QFr B a b) (k : QFr B b c) : QFr B a c :=
  ⟨k.os.trans h.os, k.tape.trans h.tape, k.output.trans h.output, Nat.le_trans h.size k.size, fun i hi hn => by
    have h1 := h.block i hi hn
    refine (k.block i (Nat.lt_of_lt_of_le hi h.size) ?_).trans h1
    rcases hn with hn | hn
    · exact .inl hn
    · right; intro c z; rw [h1]; exact hn c z⟩
theorem QFr.of_below {B : Nat} {w w' : World} (h : Below w.heap.size w w') : QFr B w w' := ⟨h.os, h.tape, h.output, h.size, fun k hk _ => h.block k hk⟩
theorem QFr.of_r {B : Nat} {w w' : World} (h : RFr B w w') : QFr B w w' := ⟨h.os, h.tape, h.output, h.size, fun k hk hn => h.block k hk (hn.imp id fun hn c z => ⟨(hn c z).1, (hn c z).2.1⟩)⟩
theorem QFr.of_jrn {B r : Nat} {w w' : World} {c : Array Value} {z : Nat × Nat} (h : w.grownBy w' (some r)) (hB : B ≤ r) (hr : w.heap[r]? = some (.cells c 49 z)) : QFr B w w' :=
  ⟨h.os, h.tape, h.output, h.size, fun k hk hn => h.block k hk (fun e => by
    injection e with e
    subst e
    rcases hn with hn | hn
    · omega
    · exact (hn c z).2.2 hr)⟩
theorem QFr.bel {W w w' : World} (h : Below W.heap.size W w) (k : QFr W.heap.size w w') : Below W.heap.size W w' :=
  h.trans ⟨k.os, k.tape, k.output, k.size, fun i hi => k.block i (Nat.lt_of_lt_of_le hi h.size) (.inl hi)⟩
/-- a block of another kind has not turned. -/
theorem QFr.kind {B : Nat} {w w' : World} (k : QFr B w w') {b : Nat} {c : Array Value} {T : TypeId} {z : Nat × Nat} (hb : w.heap[b]? = some (.cells c T z)) (h1 : T ≠ 68) (h2 : T ≠ 84) (h3 : T ≠ 49) : w'.heap[b]? = w.heap[b]? :=
  k.block b (brow_lt hb) (.inr fun c' z' => by
    rw [hb]
    refine ⟨fun e => h1 ?_, fun e => h2 ?_, fun e => h3 ?_⟩ <;> (simp only [Option.some.injEq, Obj.cells.injEq] at e; exact e.2.1))

/-- a step of the reference leaves the program's disk and its journal. -/
theorem DAt.qfr {r : Nat} {L : Lay} {d : Dk} {n B : Nat} {w w' : World} (h : DAt r L d n w) (k : QFr B w w') : DAt r L d n w' := h.kept fun b c z T hT hl => k.block b hl (.inr fun c' z' => by
  rcases hT with ho | ⟨hb, rfl⟩
  · exact ⟨fun e => h.int_free e (by decide) (by decide) (by decide) (by decide) ho, fun e => h.int_free e (by decide) (by decide) (by decide) (by decide) ho, fun e => h.int_free e (by decide) (by decide) (by decide) (by decide) ho⟩
  · rw [hb]
    exact ⟨fun e => by simp at e, fun e => by simp at e, fun e => by simp at e⟩)
theorem JAt.qfr {rj : Nat} {v : Value} {r : Nat} {f : Int} {R : List (List UInt8)} {bad : Bool} {B : Nat} {w w' : World} (h : JAt rj v r f R bad w) (k : QFr B w w') : JAt rj v r f R bad w' :=
  h.kept fun b hb => by
    obtain ⟨c, T, hc, hT⟩ := h.kind hb
    rcases hT with rfl | rfl
    · exact k.kind hc (by decide) (by decide) (by decide)
    · exact k.kind hc (by decide) (by decide) (by decide)
theorem Held.qfr {W : World} {r : Nat} {L : Lay} {d : Dk} {n : Nat} {w w' : World} (h : Held W r L d n w) (k : QFr W.heap.size w w') : Held W r L d n w' := ⟨h.at_.qfr k, k.bel h.bel, h.own⟩
theorem JH.qfr {W : World} {r : Nat} {L : Lay} {d : Dk} {n rj : Nat} {v : Value} {f : Int} {R : List (List UInt8)} {bad : Bool} {w w' : World} (h : JH W r L d n rj v f R bad w) (k : QFr W.heap.size w w') : JH W r L d n rj v f R bad w' :=
  ⟨h.disk.qfr k, h.jrn.qfr k, k.bel h.bel, h.own⟩

/-- block rk is the reference's journal of the file f of its disk at r, with the records R; none of its blocks is one of O. -/
structure KAt (rk r B : Nat) (f : Int) (R : List (List UInt8)) (bad : Bool) (O : Nat → Prop) (w : World) : Prop where
  ex : ∃ v, w.heap[rk]? = some (.cells #[.pointer (some ⟨r, 0, none⟩), .int .i64 f, v, .bool bad] 49 (0, 0)) ∧ w.ownsRow B 9 1 v R.length (R.map vStr) ∧ ¬ O rk ∧ ∀ b, v.ownBlock = some b → ¬ O b
  ge : B ≤ rk

section
variable {rk r B : Nat} {f : Int} {R : List (List UInt8)} {bad : Bool} {O O' : Nat → Prop} {w w' : World}
theorem KAt.below (h : KAt rk r B f R bad O w) (hb : Below w.heap.size w w') : KAt rk r B f R bad O w' := by
  obtain ⟨v, h1, h2, h3, h4⟩ := h.ex
  exact ⟨⟨v, (hb.block _ (brow_lt h1)).trans h1, own_keep h2 (fun g c z hg => hb.block g (brow_lt hg)), h3, h4⟩, h.ge⟩
/-- a step of the reference's disk leaves it. -/
theorem KAt.rfr (h : KAt rk r B f R bad O w) (k : RFr B w w') : KAt rk r B f R bad O w' := by
  obtain ⟨v, h1, h2, h3, h4⟩ := h.ex
  have hk : ∀ (b : Nat) (c : Array Value) (T : TypeId) (z : Nat × Nat), w.heap[b]? = some (.cells c T z) → T ≠ 68 → T ≠ 84 → w'.heap[b]? = w.heap[b]? := fun b c T z hb e1 e2 => k.block b (brow_lt hb) (.inr fun c' z' => by
    rw [hb]
    refine ⟨fun e => e1 ?_, fun e => e2 ?_⟩ <;> (simp only [Option.some.injEq, Obj.cells.injEq] at e; exact e.2.1))
  exact ⟨⟨v, (hk _ _ _ _ h1 (by decide) (by decide)).trans h1, own_keep h2 (fun g c z hg => hk _ _ _ _ hg (by decide) (by decide)), h3, h4⟩, h.ge⟩
/-- a step of the program leaves it. -/
theorem KAt.mstep (h : KAt rk r B f R bad O w) (k : MStep O O' w w') : KAt rk r B f R bad O' w' := by
  obtain ⟨v, h1, h2, h3, h4⟩ := h.ex
  have hn : ∀ b, b < w.heap.size → ¬ O b → ¬ O' b := fun b hb ho hc => by
    rcases k.own b hc with h5 | h5
    · exact ho h5
    · omega
  refine ⟨⟨v, (k.fr.block _ (brow_lt h1) h3).trans h1, ?_, hn _ (brow_lt h1) h3, fun b hb => ?_⟩, h.ge⟩
  · refine ownKeep h2 fun b hb => k.fr.block b ?_ (h4 b hb)
    obtain ⟨c, hc⟩ := ownKind h2 hb
    exact brow_lt hc
  · obtain ⟨c, hc⟩ := ownKind h2 hb
    exact hn b (brow_lt hc) (h4 b hb)
theorem KAt.sub (h : KAt rk r B f R bad O w) (hs : ∀ b, O' b → O b) : KAt rk r B f R bad O' w := by
  obtain ⟨v, h1, h2, h3, h4⟩ := h.ex
  exact ⟨⟨v, h1, h2, fun c => h3 (hs _ c), fun b hb c => h4 b hb (hs _ c)⟩, h.ge⟩
theorem KAt.cells (h : KAt rk r B f R bad O w) : ∃ A cap, w.cell? ⟨rk, 0, none⟩ = some (.pointer (some ⟨r, 0, none⟩)) ∧ w.cell? ⟨rk, 1, none⟩ = some (.int .i64 f) ∧ w.cell? ⟨rk, 2, none⟩ = some (.slice A R.length cap) ∧ w.cell? ⟨rk, 3, none⟩ = some (.bool bad) ∧ (∀ i, w.frozen? ⟨rk, i, none⟩ = false) ∧ w.ownsRow B 9 1 (.slice A R.length cap) R.length (R.map vStr) := by
  obtain ⟨v, h1, h2, h3, h4⟩ := h.ex
  obtain ⟨A, cap, rfl, _⟩ := own_parts h2
  refine ⟨A, cap, ?_, ?_, ?_, ?_, fun i => Lib.frozen_of_heap h1 i, h2⟩ <;> (rw [Lib.cell_of_heap h1]; rfl)
theorem KAt.lt (h : KAt rk r B f R bad O w) : rk < w.heap.size := by
  obtain ⟨v, h1, _⟩ := h.ex
  exact brow_lt h1
end

/-- a step of the program leaves the reference's disk. -/
theorem RD.mstep {r B : Nat} {d : Dk} {k : Nat} {O O' : Nat → Prop} {w w' : World} (h : RD r B d k w) (hs : MStep O O' w w') (hO : ∀ (b : Nat) (c : Array Value) (T : TypeId) (z : Nat × Nat), w.heap[b]? = some (.cells c T z) → (T = 68 ∨ T = 86 ∨ T = 84 ∨ T = 3) → ¬ O b) : RD r B d k w' :=
  h.far fun b c T z hb hT => hs.fr.block b (brow_lt hb) (hO b c T z hb hT)
theorem Held.noref {W : World} {r : Nat} {L : Lay} {d : Dk} {n : Nat} {w : World} (h : Held W r L d n w) : ∀ (b : Nat) (c : Array Value) (T : TypeId) (z : Nat × Nat), w.heap[b]? = some (.cells c T z) → (T = 68 ∨ T = 86 ∨ T = 84 ∨ T = 3) → ¬ Own r L b := fun b c T z hb hT => by
  rcases hT with rfl | rfl | rfl | rfl
  all_goals exact h.at_.int_free hb (by decide) (by decide) (by decide) (by decide)
theorem JH.noref {W : World} {r : Nat} {L : Lay} {d : Dk} {n rj : Nat} {v : Value} {f : Int} {R : List (List UInt8)} {bad : Bool} {w : World} (h : JH W r L d n rj v f R bad w) : ∀ (b : Nat) (c : Array Value) (T : TypeId) (z : Nat × Nat), w.heap[b]? = some (.cells c T z) → (T = 68 ∨ T = 86 ∨ T = 84 ∨ T = 3) → ¬ MO r L rj v b := fun b c T z hb hT => by
  rintro (ho | ho)
  · exact h.held.noref b c T z hb hT ho
  · obtain ⟨c2, T2, hc, hT2⟩ := h.jrn.kind ho
    rw [hb] at hc
    simp only [Option.some.injEq, Obj.cells.injEq] at hc
    obtain ⟨_, e, _⟩ := hc
    rcases hT2 with e2 | e2 <;> rcases hT with e1 | e1 | e1 | e1 <;> (rw [e1, e2] at e; exact absurd e (by decide))

end Go.Proofs.YtbpkcgkcamkggaaGreatDoor
