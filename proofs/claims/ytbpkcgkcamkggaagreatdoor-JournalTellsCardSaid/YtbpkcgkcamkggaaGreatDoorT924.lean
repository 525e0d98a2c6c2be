/-
  What the program's Copy does, outside the walk.
  The contract of the program's Copy.
-/
import Derived.Test.YtbpkcgkcamkggaaGreatDoorT923
set_option linter.unusedVariables false
set_option maxRecDepth 100000
namespace Go.Proofs.YtbpkcgkcamkggaaGreatDoor
open Go.RowKit

/-- a copy under way: the files that are not left (lf) have been copied. -/
structure CAt (L : Lay) (d : Dk) (lf : Lit → Bool) (k : Nat) (fb : Int → Nat) (rv : Int → Bool → Value) (w wr : World) : Prop where
  below : Below w.heap.size w wr
  cell : wr.heap[w.heap.size]? = some (.cells #[.map (some (w.heap.size + 1)), L.qv, .map (some L.l), .int .i64 (d.lost : Int), .int .i64 (d.armed : Int), L.kv, .bool d.down] 60 (0, 0))
  map : ∃ D : DataW Unit, wr.ownsMap Tryz.prog 3 ptrElem (w.heap.size + 1) k D ∧ (∀ f, In64 f → Maps.has D (.int .i64 f) = (decide (Dk.fileOk f) && !lf (.int .i64 f))) ∧ ∀ f z, Dk.fileOk f → lf (.int .i64 f) = false → D.atKey (.int .i64 f) z = .lit (.int .i64 (fb f : Int))
  file : ∀ f, Dk.fileOk f → lf (.int .i64 f) = false → wr.heap[fb f]? = some (.cells #[rv f false, rv f true] 64 (0, 0)) ∧ w.heap.size ≤ fb f
  row : ∀ f s, Dk.fileOk f → lf (.int .i64 f) = false → wr.ownsRow w.heap.size 5 1 (rv f s) (side d.now d.last f s).length (bcs (side d.now d.last f s))
  inj : ∀ f g, Dk.fileOk f → lf (.int .i64 f) = false → Dk.fileOk g → lf (.int .i64 g) = false → fb f = fb g → f = g
  apart : ∀ f s g t b, Dk.fileOk f → lf (.int .i64 f) = false → Dk.fileOk g → lf (.int .i64 g) = false → (rv f s).ownBlock = some b → (rv g t).ownBlock = some b → f = g ∧ s = t

/-- blocks of the copy stay while only new memory is made. -/
theorem CAt.grow {L : Lay} {d : Dk} {lf : Lit → Bool} {k : Nat} {fb : Int → Nat} {rv : Int → Bool → Value} {w wr w' : World} (h : CAt L d lf k fb rv w wr) (hg : ∀ b, b < wr.heap.size → (∀ (m : Option Nat) (a : Nat) (s : Array Nat) (c : Nat), wr.heap[b]? ≠ some (Obj.mapIter m a s c)) → w'.heap[b]? = wr.heap[b]?) (hb : Below w.heap.size w w') : CAt L d lf k fb rv w w' := by
  have hc : ∀ (b : Nat) (c : Array Value) (T : TypeId) (z : Nat × Nat), wr.heap[b]? = some (Obj.cells c T z) → w'.heap[b]? = wr.heap[b]? := fun b c T z hb => hg b (brow_lt hb) (fun m a s c e => by rw [hb] at e; cases e)
  refine ⟨hb, (hc _ _ _ _ h.cell).trans h.cell, ?_, fun f hf hl => ?_, fun f s hf hl => ?_, h.inj, h.apart⟩
  · obtain ⟨D, ⟨es, clock, h1, h2⟩, h3⟩ := h.map
    exact ⟨D, ⟨es, clock, (hg _ (brow_lt h1) (fun m a s c e => by rw [h1] at e; cases e)).trans h1, h2⟩, h3⟩
  · obtain ⟨h1, h2⟩ := h.file f hf hl
    exact ⟨(hc _ _ _ _ h1).trans h1, h2⟩
  · exact ownKeep (h.row f s hf hl) fun b hb => by
      obtain ⟨c, hc2⟩ := ownKind (h.row f s hf hl) hb
      exact hc _ _ _ _ hc2

/-- one more file. -/
theorem CAt.next {L : Lay} {d : Dk} {lf : Lit → Bool} {k : Nat} {fb : Int → Nat} {rv : Int → Bool → Value} {w w5 : World} (h : CAt L d lf k fb rv w w5) {x : Int} (hx : Dk.fileOk x) (hk : k < 16) (hlx : lf (.int .i64 x) = true)
    {v0 v1 : Value} (h0 : w5.ownsRow w.heap.size 5 1 v0 (d.now x).length (bcs (d.now x))) (h1 : w5.ownsRow w.heap.size 5 1 v1 (d.last x).length (bcs (d.last x)))
    (hn0 : ∀ b f s, Dk.fileOk f → lf (.int .i64 f) = false → v0.ownBlock = some b → (rv f s).ownBlock ≠ some b) (hn1 : ∀ b f s, Dk.fileOk f → lf (.int .i64 f) = false → v1.ownBlock = some b → (rv f s).ownBlock ≠ some b) (h01 : ∀ b, v0.ownBlock = some b → v1.ownBlock ≠ some b) :
    ∃ w6, (Instr.mapUpdate 56 (.map (some (w.heap.size + 1))) (.int .i64 x) (.pointer (some ⟨w5.heap.size, 0, none⟩))).run Tryz.prog (w5.alloc (.cells #[v0, v1] 64)) = .ok () w6 ∧
      CAt L d (fun z => lf z && !z.sameKey (.int .i64 x)) (k + 1) (upd fb x w5.heap.size) (fun f s => if f = x then (if s then v1 else v0) else rv f s) w w6 ∧ (w5.alloc (.cells #[v0, v1] 64)).mapTurned w6 (w.heap.size + 1) := by
  have ha : Below w5.heap.size w5 (w5.alloc (.cells #[v0, v1] 64)) := (Below.refl _ _).alloc (Nat.le_refl _) _
  have hA := h.grow (w' := w5.alloc (.cells #[v0, v1] 64)) (fun b hb _ => ha.block b hb) (h.below.trans (ha.mono h.below.size))
  obtain ⟨D, hown, hhas, hat⟩ := hA.map
  have h64 := fileOk_64 hx
  obtain ⟨w6, hrun, hown', ht⟩ := hown.store lawInt Tryz.underlying56 (by unfold maxLen; omega) (key_int h64) (val := .pointer (some ⟨w5.heap.size, 0, none⟩)) (d := .lit (.int .i64 (w5.heap.size : Int))) (ps := []) rfl
  have hkey : WideAt.IsKeyLit (.int .i64 x) := lawInt.key (key_int h64)
  have hMlt := hown.lt
  have hism := hown.isMap
  obtain ⟨es, clock, hM, _⟩ := hown
  have hold : ∀ b, b < (w5.alloc (.cells #[v0, v1] 64)).heap.size → b ≠ w.heap.size + 1 → w6.heap[b]? = (w5.alloc (.cells #[v0, v1] 64)).heap[b]? := fun b hb hne => ht.grown.block b hb (fun e => hne (by injection e))
  have hcells : ∀ (b : Nat) (c : Array Value) (T : TypeId) (z : Nat × Nat), (w5.alloc (.cells #[v0, v1] 64)).heap[b]? = some (Obj.cells c T z) → w6.heap[b]? = some (Obj.cells c T z) := fun b c T z hb => (hold b (brow_lt hb) (fun e => by rw [e, hM] at hb; cases hb)).trans hb
  have hrows : ∀ {B n : Nat} {v : Value} {xs : List Value}, (w5.alloc (.cells #[v0, v1] 64)).ownsRow B 5 1 v n xs → w6.ownsRow B 5 1 v n xs := fun {B n v xs} hr => ownKeep hr fun b hb => by
    obtain ⟨c, hc⟩ := ownKind hr hb
    rw [hcells _ _ _ _ hc, hc]
  have hlfx : ∀ f : Int, f ≠ x → (lf (.int .i64 f) && !(Lit.int .i64 f).sameKey (.int .i64 x)) = lf (.int .i64 f) := fun f hne => by
    rw [Maps.sameKey_ne (fun e => hne (by injection e))]; simp
  have hself : (lf (.int .i64 x) && !(Lit.int .i64 x).sameKey (.int .i64 x)) = false := by
    rw [WideAt.sameKey_self hkey]; simp
  have hnew : w6.heap[w5.heap.size]? = some (.cells #[v0, v1] 64 (0, 0)) := hcells _ _ _ _ (heap_alloc_new w5 _)
  refine ⟨w6, hrun, ⟨?_, hcells _ _ _ _ hA.cell, ⟨_, hown', fun f hf => ?_, fun f z hf hl => ?_⟩, fun f hf hl => ?_, fun f s hf hl => ?_, fun f g hf hl hg hlg e => ?_, fun f s g t b hf hl hg hlg hb hb' => ?_⟩, ht⟩
  · refine hA.below.trans ⟨ht.grown.os, ht.grown.tape, ht.grown.output, ht.grown.size, fun b hb => hold b (Nat.lt_of_lt_of_le hb hA.below.size) (by omega)⟩
  · by_cases c : f = x
    · subst c
      rw [Maps.has_put_same hism hkey, hself, decide_eq_true hx]
      rfl
    · rw [Maps.has_put_other (fun e => c (by injection e)), hhas f hf, hlfx f c]
  · by_cases c : f = x
    · subst c
      rw [Maps.atKey_put_same hism hkey, upd_same]
    · rw [hlfx f c] at hl
      rw [Maps.atKey_put_other (fun e => c (by injection e)), upd_other c]
      exact hat f z hf hl
  · by_cases c : f = x
    · subst c
      rw [upd_same]
      simp only [if_true, if_false, Bool.false_eq_true]
      exact ⟨hnew, h.below.size⟩
    · rw [hlfx f c] at hl
      obtain ⟨g1, g2⟩ := hA.file f hf hl
      rw [upd_other c]
      simp only [if_neg c]
      exact ⟨hcells _ _ _ _ g1, g2⟩
  · by_cases c : f = x
    · subst c
      simp only [if_true]
      cases s
      · exact hrows (h0.alloc _)
      · exact hrows (h1.alloc _)
    · rw [hlfx f c] at hl
      simp only [if_neg c]
      exact hrows (hA.row f s hf hl)
  · by_cases c : f = x
    · by_cases c2 : g = x
      · exact c.trans c2.symm
      · rw [hlfx g c2] at hlg
        rw [c, upd_same, upd_other c2] at e
        have := brow_lt (h.file g hg hlg).1
        omega
    · rw [hlfx f c] at hl
      by_cases c2 : g = x
      · rw [c2, upd_same, upd_other c] at e
        have := brow_lt (h.file f hf hl).1
        omega
      · rw [hlfx g c2] at hlg
        rw [upd_other c, upd_other c2] at e
        exact h.inj f g hf hl hg hlg e
  · have hv : ∀ (s : Bool) f t, Dk.fileOk f → lf (.int .i64 f) = false → (if s then v1 else v0).ownBlock = some b → (rv f t).ownBlock ≠ some b := fun s f t hf hl hb => by
      cases s
      · exact hn0 b f t hf hl hb
      · exact hn1 b f t hf hl hb
    by_cases c : f = x
    · by_cases c2 : g = x
      · refine ⟨c.trans c2.symm, ?_⟩
        simp only [c, c2, if_true] at hb hb'
        cases s <;> cases t
        · rfl
        · exact absurd hb' (h01 b hb)
        · exact absurd hb (h01 b hb')
        · rfl
      · rw [hlfx g c2] at hlg
        simp only [c, if_true, if_neg c2] at hb hb'
        exact absurd hb' (hv s g t hg hlg hb)
    · rw [hlfx f c] at hl
      by_cases c2 : g = x
      · simp only [c2, if_true, if_neg c] at hb hb'
        exact absurd hb (hv t f s hf hl hb')
      · rw [hlfx g c2] at hlg
        simp only [if_neg c, if_neg c2] at hb hb'
        exact h.apart f s g t b hf hl hg hlg hb hb'

/-- all files have been copied. -/
theorem CAt.done {L : Lay} {d : Dk} {lf : Lit → Bool} {k : Nat} {fb : Int → Nat} {rv : Int → Bool → Value} {r : Nat} {w wr : World} (h : CAt L d lf k fb rv w wr) (hl : ∀ z, lf z = false) (hk : k ≤ 16) (hp : PAt r L d w) :
    PRaw w.heap.size ⟨w.heap.size + 1, L.l, fb, rv, L.qv, L.kv⟩ d d.q wr := by
  have hp' := hp.raw.kept (w' := wr) (fun b ho => h.below.block b (hp.raw.own_lt ho))
  refine ⟨h.cell, ⟨?_, fun f hf => (h.file f hf (hl _)).1, fun f s hf => ownBase (h.row f s hf (hl _)) (Nat.zero_le _), fun f g hf hg e => h.inj f g hf (hl _) hg (hl _) e, fun f s g t b hf hg => h.apart f s g t b hf (hl _) hg (hl _)⟩, hp'.set, hp'.keep, ?_⟩
  · obtain ⟨D, h1, h2, h3⟩ := h.map
    exact ⟨D, h1.mono hk, fun f hf => by rw [h2 f hf, hl]; simp, fun f z hf => h3 f z hf (hl _)⟩
  · have := hp.raw.set.lt
    show w.heap.size + 1 ≠ L.l
    omega

/-- what Copy leaves. -/
def CopyPost (d : Dk) (w : World) (e : Ending) (w' : World) : Prop :=
  ∃ r L, e = .returned (.pointer (some ⟨r, 0, none⟩)) ∧ PAt r L d w' ∧ Below w.heap.size w w' ∧ ∀ b, Own r L b → w.heap.size ≤ b

end Go.Proofs.YtbpkcgkcamkggaaGreatDoor
namespace Go.Proofs.YtbpkcgkcamkggaaGreatDoor
open Go.RowKit

/-- the copy's own struct is filled. -/
structure CMid (d : Dk) (w : World) (Lc : Lay) (wx : World) : Prop where
  raw : PRaw w.heap.size Lc d d.q wx
  below : Below w.heap.size w wx
  m : w.heap.size ≤ Lc.m
  fb : ∀ f, Dk.fileOk f → w.heap.size ≤ Lc.fb f
  rv : ∀ f s b, Dk.fileOk f → (Lc.rv f s).ownBlock = some b → w.heap.size ≤ b
theorem CMid.grow {d : Dk} {w wx w' : World} {Lc : Lay} (h : CMid d w Lc wx) (hb : Below wx.heap.size wx w') : CMid d w Lc w' :=
  ⟨h.raw.below hb, h.below.trans (hb.mono h.below.size), h.m, h.fb, h.rv⟩
theorem CMid.set1 {d : Dk} {w wx : World} {Lc : Lay} (h : CMid d w Lc wx) (v : Value) : CMid d w { Lc with qv := v } (wx.setCell ⟨w.heap.size, 1, none⟩ v) :=
  ⟨h.raw.store (L' := { Lc with qv := v }) (d' := d) 1 v rfl rfl rfl rfl rfl rfl h.raw.set h.raw.keep h.raw.ne, Below.setCell (p := ⟨w.heap.size, 1, none⟩) h.below (Nat.le_refl _) v, h.m, h.fb, h.rv⟩
theorem CMid.done {d : Dk} {w wx : World} {Lc : Lay} (h : CMid d w Lc wx) (hq : wx.ownsRow w.heap.size 80 2 Lc.qv d.q.length (qcells d.q)) (hl : w.heap.size ≤ Lc.l) : CopyPost d w (.returned (.pointer (some ⟨w.heap.size, 0, none⟩))) wx :=
  ⟨_, Lc, rfl, ⟨h.raw, ownBase hq (Nat.zero_le _)⟩, h.below, fun b hb => by
    rcases hb with rfl | rfl | hb | hb
    · exact Nat.le_refl _
    · exact hl
    · exact (hq.lt b hb).1
    · rcases hb with rfl | ⟨f, hf, rfl | ⟨s, hb⟩⟩
      · exact h.m
      · exact h.fb f hf
      · exact h.rv f s b hf hb⟩

end Go.Proofs.YtbpkcgkcamkggaaGreatDoor
