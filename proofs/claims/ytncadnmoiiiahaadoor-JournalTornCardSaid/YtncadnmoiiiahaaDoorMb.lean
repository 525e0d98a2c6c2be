/-
  The program's disk in memory: its files, its pending sectors, and what may turn.
-/
import Derived.Test.YtncadnmoiiiahaaDoorMa
set_option linter.unusedVariables false
set_option maxRecDepth 100000
namespace Go.Proofs.YtncadnmoiiiahaaDoor
open Go.RowKit

/-- where the program's disk lies: the map of the files, the set of the listed sectors, each file's block, its two rows (false: its bytes; true: its durable part), the list of pending sectors, what survives the scheduled crash. -/
structure Lay where
  m : Nat
  l : Nat
  fb : Int → Nat
  rv : Int → Bool → Value
  qv : Value
  kv : Value

/-- the one side of a file or the other. -/
def side (now last : Int → List UInt8) (f : Int) (s : Bool) : List UInt8 := if s then last f else now f

structure FilesAt (w : World) (L : Lay) (now last : Int → List UInt8) : Prop where
  map : FMap w L.m L.fb
  file : ∀ f, Dk.fileOk f → w.heap[L.fb f]? = some (.cells #[L.rv f false, L.rv f true] 51 (0, 0))
  row : ∀ f s, Dk.fileOk f → w.ownsRow 0 5 1 (L.rv f s) (side now last f s).length (bcs (side now last f s))
  inj : ∀ f g, Dk.fileOk f → Dk.fileOk g → L.fb f = L.fb g → f = g
  apart : ∀ f s g t b, Dk.fileOk f → Dk.fileOk g → (L.rv f s).ownBlock = some b → (L.rv g t).ownBlock = some b → f = g ∧ s = t

/-- the blocks of the files. -/
def FOwn (L : Lay) (b : Nat) : Prop := b = L.m ∨ ∃ f, Dk.fileOk f ∧ (b = L.fb f ∨ ∃ s, (L.rv f s).ownBlock = some b)

/-- a row stays owned where its block stays. -/
theorem ownKeep {w w' : World} {B e size n : Nat} {v : Value} {xs : List Value} (h : w.ownsRow B e size v n xs) (hk : ∀ b, v.ownBlock = some b → w'.heap[b]? = w.heap[b]?) : w'.ownsRow B e size v n xs :=
  ⟨h.1, h.2.imp id fun ⟨g, cap, cur, h1, h2, h3, h4⟩ => ⟨g, cap, cur, h1, h2, (hk g (by rw [h1]; rfl)).trans h3, h4⟩⟩
theorem ownKind {w : World} {B e size n b : Nat} {v : Value} {xs : List Value} (h : w.ownsRow B e size v n xs) (hb : v.ownBlock = some b) : ∃ cur, w.heap[b]? = some (.cells cur e (0, 0)) := by
  rcases h.2 with ⟨rfl, _⟩ | ⟨g, cap, cur, rfl, _, h3, _⟩
  · cases hb
  · injection hb with hb
    subst hb
    exact ⟨cur, h3⟩
theorem ownBase {w : World} {B B' e size n : Nat} {v : Value} {xs : List Value} (h : w.ownsRow B e size v n xs) (hb : B' ≤ B) : w.ownsRow B' e size v n xs :=
  ⟨h.1, h.2.imp id fun ⟨g, cap, cur, h1, h2, h3⟩ => ⟨g, cap, cur, h1, Nat.le_trans hb h2, h3⟩⟩

theorem FilesAt.kind {w : World} {L : Lay} {now last : Int → List UInt8} (h : FilesAt w L now last) {b : Nat} (hb : FOwn L b) :
    (∃ es c, w.heap[b]? = some (.map es c)) ∨ (∃ c, w.heap[b]? = some (.cells c 51 (0, 0))) ∨ ∃ c, w.heap[b]? = some (.cells c 5 (0, 0)) := by
  rcases hb with rfl | ⟨f, hf, rfl | ⟨s, hs⟩⟩
  · exact .inl h.map.isMap
  · exact .inr (.inl ⟨_, h.file f hf⟩)
  · exact .inr (.inr (ownKind (h.row f s hf) hs))
theorem FilesAt.lt {w : World} {L : Lay} {now last : Int → List UInt8} (h : FilesAt w L now last) {b : Nat} (hb : FOwn L b) : b < w.heap.size := by
  rcases h.kind hb with ⟨_, _, h⟩ | ⟨_, h⟩ | ⟨_, h⟩ <;> exact brow_lt h
/-- a block of another type is none of the files'. -/
theorem FilesAt.free {w : World} {L : Lay} {now last : Int → List UInt8} (h : FilesAt w L now last) {b : Nat} {c : Array Value} {T : TypeId} {z : Nat × Nat} (hb : w.heap[b]? = some (.cells c T z)) (h1 : T ≠ 51) (h2 : T ≠ 5) : ¬ FOwn L b := by
  intro ho
  rcases h.kind ho with ⟨_, _, h⟩ | ⟨_, h⟩ | ⟨_, h⟩
  · rw [hb] at h; cases h
  · rw [hb] at h; simp only [Option.some.injEq, Obj.cells.injEq] at h; exact h1 h.2.1
  · rw [hb] at h; simp only [Option.some.injEq, Obj.cells.injEq] at h; exact h2 h.2.1
theorem FilesAt.keep {w w' : World} {L : Lay} {now last : Int → List UInt8} (h : FilesAt w L now last) (hk : ∀ b, FOwn L b → w'.heap[b]? = w.heap[b]?) : FilesAt w' L now last :=
  ⟨h.map.kept (hk _ (.inl rfl)), fun f hf => (hk _ (.inr ⟨f, hf, .inl rfl⟩)).trans (h.file f hf), fun f s hf => ownKeep (h.row f s hf) fun b hb => hk b (.inr ⟨f, hf, .inr ⟨s, hb⟩⟩), h.inj, h.apart⟩

/-- another row of a file. -/
def Lay.setRow (L : Lay) (f : Int) (s : Bool) (v : Value) : Lay := { L with rv := fun g t => if g = f ∧ t = s then v else L.rv g t }
def setSide (F : Int → List UInt8) (f : Int) (b : Bool) (X : List UInt8) : Int → List UInt8 := if b then upd F f X else F
theorem side_set (now last : Int → List UInt8) (f : Int) (s : Bool) (X : List UInt8) (g : Int) (t : Bool) :
    side (setSide now f (!s) X) (setSide last f s X) g t = if g = f ∧ t = s then X else side now last g t := by
  unfold side setSide
  by_cases c : g = f
  · subst c
    cases s <;> cases t <;> simp [upd_same]
  · cases s <;> cases t <;> simp [c, upd_other c]

theorem FilesAt.setRow {w w' : World} {L : Lay} {now last : Int → List UInt8} (h : FilesAt w L now last) {f : Int} (hf : Dk.fileOk f) (s : Bool) {v : Value} {X : List UInt8}
    (hv : w'.ownsRow 0 5 1 v X.length (bcs X)) (hc : w'.heap[L.fb f]? = some (.cells #[(L.setRow f s v).rv f false, (L.setRow f s v).rv f true] 51 (0, 0)))
    (hk : ∀ b, b < w.heap.size → b ≠ L.fb f → (L.rv f s).ownBlock ≠ some b → w'.heap[b]? = w.heap[b]?)
    (hn : v.ownBlock = (L.rv f s).ownBlock ∨ ∀ b, v.ownBlock = some b → w.heap.size ≤ b) :
    FilesAt w' (L.setRow f s v) (setSide now f (!s) X) (setSide last f s X) := by
  have hother : ∀ g t b, Dk.fileOk g → ¬ (g = f ∧ t = s) → (L.rv g t).ownBlock = some b → (L.rv f s).ownBlock ≠ some b := by
    intro g t b hg hne hb e
    exact hne (h.apart g t f s b hg hf hb e)
  have hfb : ∀ g t b, Dk.fileOk g → (L.rv g t).ownBlock = some b → b ≠ L.fb f := by
    intro g t b hg hb e
    obtain ⟨c, hc⟩ := ownKind (h.row g t hg) hb
    rw [e, h.file f hf] at hc
    simp only [Option.some.injEq, Obj.cells.injEq] at hc
    exact absurd hc.2.1 (by decide)
  refine ⟨?_, ?_, ?_, h.inj, ?_⟩
  · refine h.map.kept (hk _ h.map.lt (fun e => ?_) (fun e => ?_))
    · obtain ⟨es, c, hm⟩ := h.map.isMap
      rw [e, h.file f hf] at hm; cases hm
    · obtain ⟨es, c, hm⟩ := h.map.isMap
      obtain ⟨c2, hm2⟩ := ownKind (h.row f s hf) e
      rw [hm] at hm2; cases hm2
  · intro g hg
    by_cases c : g = f
    · subst c; exact hc
    · have e : ∀ t, (L.setRow f s v).rv g t = L.rv g t := fun t => by simp [Lay.setRow, c]
      rw [e, e]
      refine (hk _ (brow_lt (h.file g hg)) (fun e => c (h.inj g f hg hf e)) (fun e => ?_)).trans (h.file g hg)
      obtain ⟨c2, hm2⟩ := ownKind (h.row f s hf) e
      have h3 := h.file g hg
      rw [h3] at hm2
      simp only [Option.some.injEq, Obj.cells.injEq] at hm2
      exact absurd hm2.2.1 (by decide)
  · intro g t hg
    rw [side_set]
    by_cases c : g = f ∧ t = s
    · rw [if_pos c, show (L.setRow f s v).rv g t = v by simp [Lay.setRow, c]]
      exact hv
    · rw [if_neg c, show (L.setRow f s v).rv g t = L.rv g t by simp [Lay.setRow, c]]
      refine ownKeep (h.row g t hg) fun b hb => hk b ?_ (hfb g t b hg hb) (hother g t b hg c hb)
      obtain ⟨c2, h2⟩ := ownKind (h.row g t hg) hb
      exact brow_lt h2
  · intro g t g' t' b hg hg' hb hb'
    have hlt : ∀ g t, Dk.fileOk g → (L.rv g t).ownBlock = some b → b < w.heap.size := fun g t hg hb => by
      obtain ⟨c2, h2⟩ := ownKind (h.row g t hg) hb
      exact brow_lt h2
    by_cases c : g = f ∧ t = s
    · by_cases c' : g' = f ∧ t' = s
      · exact ⟨c.1.trans c'.1.symm, c.2.trans c'.2.symm⟩
      · rw [show (L.setRow f s v).rv g t = v by simp [Lay.setRow, c]] at hb
        rw [show (L.setRow f s v).rv g' t' = L.rv g' t' by simp [Lay.setRow, c']] at hb'
        rcases hn with hn | hn
        · rw [hn] at hb
          exact absurd hb (hother g' t' b hg' c' hb')
        · have := hn b hb
          have := hlt g' t' hg' hb'
          omega
    · rw [show (L.setRow f s v).rv g t = L.rv g t by simp [Lay.setRow, c]] at hb
      by_cases c' : g' = f ∧ t' = s
      · rw [show (L.setRow f s v).rv g' t' = v by simp [Lay.setRow, c']] at hb'
        rcases hn with hn | hn
        · rw [hn] at hb'
          exact absurd hb' (hother g t b hg c hb)
        · have := hn b hb'
          have := hlt g t hg hb
          omega
      · rw [show (L.setRow f s v).rv g' t' = L.rv g' t' by simp [Lay.setRow, c']] at hb'
        exact h.apart g t g' t' b hg hg' hb hb'

/-- what may turn: blocks of O, and new ones. -/
structure PFr (O : Nat → Prop) (w w' : World) : Prop where
  os : w'.os = w.os
  tape : w'.tape = w.tape
  output : w'.output = w.output
  size : w.heap.size ≤ w'.heap.size
  block : ∀ k, k < w.heap.size → ¬ O k → w'.heap[k]? = w.heap[k]?

theorem PFr.refl (O : Nat → Prop) (w : World) : PFr O w w := ⟨rfl, rfl, rfl, Nat.le_refl _, fun _ _ _ => rfl⟩
theorem PFr.of_below {O : Nat → Prop} {w w' : World} (h : Below w.heap.size w w') : PFr O w w' := ⟨h.os, h.tape, h.output, h.size, fun k hk _ => h.block k hk⟩
theorem PFr.of_grown {O : Nat → Prop} {w w' : World} {row : Option Nat} (h : w.grownBy w' row) (hr : ∀ b, row = some b → O b) : PFr O w w' :=
  ⟨h.os, h.tape, h.output, h.size, fun k hk hn => h.block k hk (fun e => hn (hr k e.symm))⟩
theorem PFr.trans {O O' : Nat → Prop} {a b c : World} (h : PFr O a b) (k : PFr O' b c) (hs : ∀ i, O' i → O i ∨ a.heap.size ≤ i) : PFr O a c :=
  ⟨k.os.trans h.os, k.tape.trans h.tape, k.output.trans h.output, Nat.le_trans h.size k.size, fun i hi hn =>
    (k.block i (Nat.lt_of_lt_of_le hi h.size) (fun ho => by
      rcases hs i ho with h1 | h1
      · exact hn h1
      · omega)).trans (h.block i hi hn)⟩
theorem PFr.below {O : Nat → Prop} {B : Nat} {w w' : World} (h : PFr O w w') (hB : B ≤ w.heap.size) (ho : ∀ b, O b → B ≤ b) : Below B w w' :=
  ⟨h.os, h.tape, h.output, h.size, fun k hk => h.block k (by omega) (fun c => by have := ho k c; omega)⟩
theorem grownOne (w : World) (r i : Nat) (u : Value) : w.grownBy (w.setCell ⟨r, i, none⟩ u) (some r) :=
  ⟨rfl, rfl, rfl, by simp [World.setCell], fun k _ hk => Below.heap_setCell _ _ _ _ (fun e => hk (by simp [e]))⟩

/-- the blocks of a disk that it may write. -/
def Own (r : Nat) (L : Lay) (b : Nat) : Prop := b = r ∨ b = L.l ∨ L.qv.ownBlock = some b ∨ FOwn L b

/-- the disk d but for its list of pending sectors; the set is S. -/
structure PRaw (r : Nat) (L : Lay) (d : Dk) (S : List (Int × Nat)) (w : World) : Prop where
  cell : w.heap[r]? = some (.cells #[.map (some L.m), L.qv, .map (some L.l), .int .i64 (d.lost : Int), .int .i64 (d.armed : Int), L.kv, .bool d.down] 48 (0, 0))
  files : FilesAt w L d.now d.last
  set : LMap w L.l S
  keep : w.ownsRow 0 3 1 L.kv d.keep.length (d.keep.map (Value.int .i64))
  ne : L.m ≠ L.l

/-- the disk d. -/
structure PAt (r : Nat) (L : Lay) (d : Dk) (w : World) : Prop where
  raw : PRaw r L d d.q w
  queue : w.ownsRow 0 70 2 L.qv d.q.length (qcells d.q)

/-- a step: from L to L', only blocks of L and new ones have turned. -/
structure PStep (r : Nat) (L L' : Lay) (w w' : World) : Prop where
  fr : PFr (Own r L) w w'
  own : ∀ b, Own r L' b → Own r L b ∨ w.heap.size ≤ b
  kv : ∀ b, L'.kv.ownBlock = some b → L.kv.ownBlock = some b ∨ w.heap.size ≤ b
theorem PStep.refl (r : Nat) (L : Lay) (w : World) : PStep r L L w w := ⟨PFr.refl _ _, fun _ h => .inl h, fun _ h => .inl h⟩
theorem PStep.trans {r : Nat} {L L' L'' : Lay} {a b c : World} (h : PStep r L L' a b) (k : PStep r L' L'' b c) : PStep r L L'' a c :=
  ⟨h.fr.trans k.fr h.own, fun i hi => by
    rcases k.own i hi with h1 | h1
    · exact h.own i h1
    · have := h.fr.size
      right; omega, fun i hi => by
    rcases k.kv i hi with h1 | h1
    · exact h.kv i h1
    · have := h.fr.size
      right; omega⟩
theorem PStep.of_below {r : Nat} {L : Lay} {w w' : World} (h : Below w.heap.size w w') : PStep r L L w w' := ⟨PFr.of_below h, fun _ h => .inl h, fun _ h => .inl h⟩

theorem PRaw.lt {r : Nat} {L : Lay} {d : Dk} {S : List (Int × Nat)} {w : World} (h : PRaw r L d S w) : r < w.heap.size := brow_lt h.cell
/-- the disk's block is none of the others. -/
theorem PRaw.rfree {r : Nat} {L : Lay} {d : Dk} {S : List (Int × Nat)} {w : World} (h : PRaw r L d S w) : ¬ FOwn L r := h.files.free h.cell (by decide) (by decide)
theorem PRaw.rset {r : Nat} {L : Lay} {d : Dk} {S : List (Int × Nat)} {w : World} (h : PRaw r L d S w) : L.l ≠ r := by
  intro e
  obtain ⟨es, c, hm⟩ := h.set.isMap
  rw [e, h.cell] at hm; cases hm
theorem other_kind {w : World} {B e n b size : Nat} {v : Value} {xs : List Value} (h : w.ownsRow B e size v n xs) {c : Array Value} {T : TypeId} {z : Nat × Nat} (hb : w.heap[b]? = some (.cells c T z)) (hT : T ≠ e) : v.ownBlock ≠ some b := by
  intro e
  obtain ⟨c2, h2⟩ := ownKind h e
  rw [hb] at h2
  simp only [Option.some.injEq, Obj.cells.injEq] at h2
  exact hT h2.2.1
theorem other_map {w : World} {B e n b size : Nat} {v : Value} {xs : List Value} (h : w.ownsRow B e size v n xs) {es : Array MapEntry} {c : Nat} (hb : w.heap[b]? = some (.map es c)) : v.ownBlock ≠ some b := by
  intro e
  obtain ⟨c2, h2⟩ := ownKind h e
  rw [hb] at h2; cases h2

theorem PRaw.kept {r : Nat} {L : Lay} {d : Dk} {S : List (Int × Nat)} {w w' : World} (h : PRaw r L d S w) (hk : ∀ b, b = r ∨ b = L.l ∨ FOwn L b ∨ L.kv.ownBlock = some b → w'.heap[b]? = w.heap[b]?) : PRaw r L d S w' :=
  ⟨(hk r (.inl rfl)).trans h.cell, h.files.keep fun b hb => hk b (.inr (.inr (.inl hb))), h.set.kept (hk _ (.inr (.inl rfl))), ownKeep h.keep fun b hb => hk b (.inr (.inr (.inr hb))), h.ne⟩
theorem PAt.kept {r : Nat} {L : Lay} {d : Dk} {w w' : World} (h : PAt r L d w) (hk : ∀ b, Own r L b ∨ L.kv.ownBlock = some b → w'.heap[b]? = w.heap[b]?) : PAt r L d w' :=
  ⟨h.raw.kept fun b hb => hk b (by
      rcases hb with hb | hb | hb | hb
      · exact .inl (.inl hb)
      · exact .inl (.inr (.inl hb))
      · exact .inl (.inr (.inr (.inr hb)))
      · exact .inr hb), ownKeep h.queue fun b hb => hk b (.inl (.inr (.inr (.inl hb))))⟩
theorem PRaw.own_lt {r : Nat} {L : Lay} {d : Dk} {S : List (Int × Nat)} {w : World} (h : PRaw r L d S w) {b : Nat} (hb : b = r ∨ b = L.l ∨ FOwn L b ∨ L.kv.ownBlock = some b) : b < w.heap.size := by
  rcases hb with rfl | rfl | hb | hb
  · exact h.lt
  · exact h.set.lt
  · exact h.files.lt hb
  · obtain ⟨c, hc⟩ := ownKind h.keep hb
    exact brow_lt hc
theorem PAt.own_lt {r : Nat} {L : Lay} {d : Dk} {w : World} (h : PAt r L d w) {b : Nat} (hb : Own r L b ∨ L.kv.ownBlock = some b) : b < w.heap.size := by
  rcases hb with (hb | hb | hb | hb) | hb
  · exact h.raw.own_lt (.inl hb)
  · exact h.raw.own_lt (.inr (.inl hb))
  · obtain ⟨c, hc⟩ := ownKind h.queue hb
    exact brow_lt hc
  · exact h.raw.own_lt (.inr (.inr (.inl hb)))
  · exact h.raw.own_lt (.inr (.inr (.inr hb)))
theorem PRaw.below {r : Nat} {L : Lay} {d : Dk} {S : List (Int × Nat)} {w w' : World} (h : PRaw r L d S w) (hb : Below w.heap.size w w') : PRaw r L d S w' :=
  h.kept fun b ho => hb.block b (h.own_lt ho)
theorem PAt.below {r : Nat} {L : Lay} {d : Dk} {w w' : World} (h : PAt r L d w) (hb : Below w.heap.size w w') : PAt r L d w' :=
  h.kept fun b ho => hb.block b (h.own_lt ho)

/-- what may be read of the disk's block. -/
theorem PRaw.cells {r : Nat} {L : Lay} {d : Dk} {S : List (Int × Nat)} {w : World} (h : PRaw r L d S w) :
    w.cell? ⟨r, 0, none⟩ = some (.map (some L.m)) ∧ w.cell? ⟨r, 1, none⟩ = some L.qv ∧ w.cell? ⟨r, 2, none⟩ = some (.map (some L.l)) ∧ w.cell? ⟨r, 3, none⟩ = some (.int .i64 (d.lost : Int))
      ∧ w.cell? ⟨r, 4, none⟩ = some (.int .i64 (d.armed : Int)) ∧ w.cell? ⟨r, 5, none⟩ = some L.kv ∧ w.cell? ⟨r, 6, none⟩ = some (.bool d.down) ∧ ∀ i, w.frozen? ⟨r, i, none⟩ = false := by
  refine ⟨?_, ?_, ?_, ?_, ?_, ?_, ?_, fun i => Lib.frozen_of_heap h.cell i⟩
  all_goals rw [Lib.cell_of_heap h.cell]
  all_goals rfl
theorem FilesAt.cells {w : World} {L : Lay} {now last : Int → List UInt8} (h : FilesAt w L now last) {f : Int} (hf : Dk.fileOk f) :
    w.cell? ⟨L.fb f, 0, none⟩ = some (L.rv f false) ∧ w.cell? ⟨L.fb f, 1, none⟩ = some (L.rv f true) ∧ ∀ i, w.frozen? ⟨L.fb f, i, none⟩ = false := by
  refine ⟨?_, ?_, fun i => Lib.frozen_of_heap (h.file f hf) i⟩
  all_goals rw [Lib.cell_of_heap (h.file f hf)]
  all_goals rfl

/-- the disk's block, one cell of it turned. -/
theorem PRaw.store {r : Nat} {L L' : Lay} {d d' : Dk} {S S' : List (Int × Nat)} {w : World} (h : PRaw r L d S w) (i : Nat) (u : Value)
    (hm : L'.m = L.m) (hfb : L'.fb = L.fb) (hrv : L'.rv = L.rv) (hnow : d'.now = d.now) (hlast : d'.last = d.last)
    (hcell : (#[.map (some L.m), L.qv, .map (some L.l), .int .i64 (d.lost : Int), .int .i64 (d.armed : Int), L.kv, .bool d.down] : Array Value).setIfInBounds i u
      = #[.map (some L'.m), L'.qv, .map (some L'.l), .int .i64 (d'.lost : Int), .int .i64 (d'.armed : Int), L'.kv, .bool d'.down])
    (hset : LMap w L'.l S') (hkeep : w.ownsRow 0 3 1 L'.kv d'.keep.length (d'.keep.map (Value.int .i64))) (hne : L'.m ≠ L'.l) : PRaw r L' d' S' (w.setCell ⟨r, i, none⟩ u) := by
  have hb : ∀ b, b ≠ r → (w.setCell ⟨r, i, none⟩ u).heap[b]? = w.heap[b]? := fun b hb => Below.heap_setCell _ _ _ _ (fun e => hb e)
  have hfo : ∀ b, FOwn L' b ↔ FOwn L b := fun b => by unfold FOwn; rw [hm, hfb, hrv]
  refine ⟨?_, ?_, ?_, ?_, hne⟩
  · rw [heap_set h.cell, hcell]
  · rw [hnow, hlast]
    have hf : FilesAt w L' d.now d.last := ⟨by rw [hm, hfb]; exact h.files.map, by rw [hfb, hrv]; exact h.files.file, by rw [hrv]; exact h.files.row, by rw [hfb]; exact h.files.inj, by rw [hrv]; exact h.files.apart⟩
    exact hf.keep fun b ho => hb b fun e => h.rfree (by rw [← e]; exact (hfo b).1 ho)
  · refine hset.kept (hb _ fun e => ?_)
    obtain ⟨es, c, hm⟩ := hset.isMap
    rw [e, h.cell] at hm; cases hm
  · exact ownKeep hkeep fun b ho => hb b fun e => other_kind hkeep h.cell (by decide) (by rw [← e]; exact ho)

/-- a store into the disk's block is a step. -/
theorem PStep.store {r : Nat} {L L' : Lay} {w : World} (i : Nat) (u : Value) (hm : L'.m = L.m) (hfb : L'.fb = L.fb) (hrv : L'.rv = L.rv) (hl : L'.l = L.l ∨ w.heap.size ≤ L'.l)
    (hq : ∀ b, L'.qv.ownBlock = some b → L.qv.ownBlock = some b ∨ w.heap.size ≤ b) (hkv : ∀ b, L'.kv.ownBlock = some b → L.kv.ownBlock = some b ∨ w.heap.size ≤ b := by exact fun _ h => .inl h) : PStep r L L' w (w.setCell ⟨r, i, none⟩ u) :=
  ⟨PFr.of_grown (grownOne w r i u) (fun b e => by injection e with e; exact .inl e.symm), fun b hb => by
    rcases hb with hb | hb | hb | hb
    · exact .inl (.inl hb)
    · rcases hl with hl | hl
      · exact .inl (.inr (.inl (hb.trans hl)))
      · right; omega
    · rcases hq b hb with h1 | h1
      · exact .inl (.inr (.inr (.inl h1)))
      · exact .inr h1
    · left; right; right; right
      unfold FOwn at hb ⊢
      rw [hm, hfb, hrv] at hb; exact hb, hkv⟩

/-- a set may be told by any list of the same sectors. -/
theorem LMap.same {w : World} {l : Nat} {S S' : List (Int × Nat)} (h : LMap w l S) (hn : S'.Nodup) (he : ∀ x, x ∈ S' ↔ x ∈ S) : LMap w l S' := by
  obtain ⟨D, hown, hsz, hnd, hok, hall⟩ := h
  have hl : S'.length = S.length := ((List.perm_ext_iff_of_nodup hn hnd).2 he).length_eq
  refine ⟨D, by rw [hl]; exact hown, by rw [hl]; exact hsz, hn, fun x hx => hok x ((he x).1 hx), fun x hx => ⟨?_, fun hm => (hall x hx).2 ((he x).1 hm)⟩⟩
  rw [(hall x hx).1]
  simp only [decide_eq_decide]
  exact (he x).symm

end Go.Proofs.YtncadnmoiiiahaaDoor
