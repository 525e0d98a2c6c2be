/-
  The contract of the program's New.
-/
import Derived.Test.YtncadnmoiiiahaaDoorMl
set_option linter.unusedVariables false
set_option maxRecDepth 100000
namespace Go.Proofs.YtncadnmoiiiahaaDoor
open Go.RowKit

/-- the map of the first k files. -/
def NMap (w : World) (m : Nat) (fb : Int → Nat) (k : Nat) : Prop :=
  ∃ D : DataW Unit, w.ownsMap Tryd.prog 3 ptrElem m k D ∧ (∀ f, In64 f → Maps.has D (.int .i64 f) = decide (0 ≤ f ∧ f < (k : Int))) ∧ ∀ f z, 0 ≤ f ∧ f < (k : Int) → D.atKey (.int .i64 f) z = .lit (.int .i64 (fb f : Int))

theorem NMap.full {w : World} {m : Nat} {fb : Int → Nat} (h : NMap w m fb 16) : FMap w m fb := by
  obtain ⟨D, h1, h2, h3⟩ := h
  refine ⟨D, h1, fun f hf => ?_, fun f z hf => h3 f z ⟨hf.1, by have := hf.2; omega⟩⟩
  rw [h2 f hf]
  simp only [decide_eq_decide]
  constructor
  · intro h; exact ⟨h.1, by omega⟩
  · intro h; exact ⟨h.1, by have := h.2; omega⟩
theorem NMap.kept {w w' : World} {m k : Nat} {fb : Int → Nat} (h : NMap w m fb k) (hb : w'.heap[m]? = w.heap[m]?) : NMap w' m fb k := by
  obtain ⟨D, ⟨es, clock, h1, h2⟩, h3⟩ := h
  exact ⟨D, ⟨es, clock, hb.trans h1, h2⟩, h3⟩
theorem NMap.lt {w : World} {m k : Nat} {fb : Int → Nat} (h : NMap w m fb k) : m < w.heap.size := by obtain ⟨D, hown, _⟩ := h; exact hown.lt
theorem NMap.isMap {w : World} {m k : Nat} {fb : Int → Nat} (h : NMap w m fb k) : ∃ es clock, w.heap[m]? = some (.map es clock) := by
  obtain ⟨D, ⟨es, clock, h1, _⟩, _⟩ := h
  exact ⟨es, clock, h1⟩
/-- the next file. -/
theorem NMap.next {w : World} {m k : Nat} {fb : Int → Nat} (h : NMap w m fb k) (hk : k < 16) (b : Nat) (hb : fb (k : Int) = b) :
    ∃ w', (Instr.mapUpdate 44 (.map (some m)) (.int .i64 (k : Int)) (.pointer (some ⟨b, 0, none⟩))).run Tryd.prog w = .ok () w' ∧ NMap w' m fb (k + 1) ∧ w.mapTurned w' m := by
  obtain ⟨D, hown, hhas, hat⟩ := h
  have h64 : In64 (k : Int) := ⟨by omega, by omega⟩
  obtain ⟨w', hrun, hown', ht⟩ := hown.store lawInt Tryd.underlying44 (by unfold maxLen; omega) (key_int h64) (val := .pointer (some ⟨b, 0, none⟩)) (d := .lit (.int .i64 (b : Int))) (ps := []) rfl
  have hkey : WideAt.IsKeyLit (.int .i64 (k : Int)) := lawInt.key (key_int h64)
  refine ⟨w', hrun, ⟨_, hown', fun f hf => ?_, fun f z hf => ?_⟩, ht⟩
  · by_cases c : f = (k : Int)
    · subst c
      rw [Maps.has_put_same hown.isMap hkey, decide_eq_true (by omega)]
    · have hne : (Lit.int .i64 f) ≠ .int .i64 (k : Int) := fun e => c (by injection e)
      rw [Maps.has_put_other hne, hhas f hf]
      simp only [decide_eq_decide]; omega
  · by_cases c : f = (k : Int)
    · subst c
      rw [Maps.atKey_put_same hown.isMap hkey, hb]
    · have hne : (Lit.int .i64 f) ≠ .int .i64 (k : Int) := fun e => c (by injection e)
      rw [Maps.atKey_put_other hne]
      exact hat f z (by omega)

/-- a new disk, k files made. -/
structure NAt (r : Nat) (fb : Int → Nat) (k : Nat) (w wr : World) : Prop where
  cell : wr.heap[r]? = some (.cells #[.map (some w.heap.size), .slice none 0 0, .map (some (w.heap.size + 1)), .int .i64 0, .int .i64 0, .slice none 0 0, .bool false] 48 (0, 0))
  map : NMap wr w.heap.size fb k
  set : LMap wr (w.heap.size + 1) []
  file : ∀ f : Int, 0 ≤ f ∧ f < (k : Int) → wr.heap[fb f]? = some (.cells #[.slice none 0 0, .slice none 0 0] 51 (0, 0)) ∧ w.heap.size ≤ fb f
  inj : ∀ f g : Int, 0 ≤ f ∧ f < (k : Int) → 0 ≤ g ∧ g < (k : Int) → fb f = fb g → f = g
  below : Below w.heap.size w wr

/-- what New leaves. -/
def NewPost (w : World) (e : Ending) (w' : World) : Prop :=
  ∃ r L, e = .returned (.pointer (some ⟨r, 0, none⟩)) ∧ PAt r L Dk.new w' ∧ Below w.heap.size w w' ∧ ∀ b, Own r L b → w.heap.size ≤ b

theorem NAt.next {r : Nat} {fb : Int → Nat} {k : Nat} {w wr : World} (h : NAt r fb k w wr) (hk : k < 16) (hr : r ≠ w.heap.size) (hr2 : r ≠ w.heap.size + 1) :
    ∃ w', (Instr.mapUpdate 44 (.map (some w.heap.size)) (.int .i64 (k : Int)) (.pointer (some ⟨wr.heap.size, 0, none⟩))).run Tryd.prog (wr.alloc (.cells #[.slice none 0 0, .slice none 0 0] 51)) = .ok () w' ∧ NAt r (upd fb (k : Int) wr.heap.size) (k + 1) w w' := by
  have ha : Below wr.heap.size wr (wr.alloc (.cells #[.slice none 0 0, .slice none 0 0] 51)) := (Below.refl _ _).alloc (Nat.le_refl _) _
  have hm : NMap (wr.alloc (.cells #[.slice none 0 0, .slice none 0 0] 51)) w.heap.size (upd fb (k : Int) wr.heap.size) k := by
    obtain ⟨D, h1, h2, h3⟩ := h.map.kept (ha.block _ h.map.lt)
    exact ⟨D, h1, h2, fun f z hf => by rw [upd_other (by omega)]; exact h3 f z hf⟩
  obtain ⟨w', hrun, hm', ht⟩ := hm.next hk wr.heap.size (upd_same _ _ _)
  have hold : ∀ b, b < wr.heap.size → b ≠ w.heap.size → w'.heap[b]? = wr.heap[b]? := fun b hb hne => (ht.grown.block b (by simp; omega) (fun e => hne (by injection e))).trans (ha.block b hb)
  have hnewb : w'.heap[wr.heap.size]? = some (.cells #[.slice none 0 0, .slice none 0 0] 51 (0, 0)) := by
    rw [ht.grown.block _ (by simp) (fun e => by injection e with e; have := h.map.lt; omega)]
    exact heap_alloc_new wr _
  refine ⟨w', hrun, ⟨?_, hm', ?_, ?_, ?_, ?_⟩⟩
  · exact (hold r (brow_lt h.cell) hr).trans h.cell
  · exact h.set.kept (hold _ h.set.lt (by omega))
  · intro f hf
    by_cases c : f = (k : Int)
    · subst c
      rw [upd_same]
      exact ⟨hnewb, h.below.size⟩
    · rw [upd_other c]
      obtain ⟨g1, g2⟩ := h.file f (by omega)
      refine ⟨(hold _ (brow_lt g1) (fun e => ?_)).trans g1, g2⟩
      obtain ⟨es, cc, hmm⟩ := h.map.isMap
      rw [← e, g1] at hmm; cases hmm
  · intro f g hf hg e
    by_cases c : f = (k : Int)
    · by_cases c2 : g = (k : Int)
      · exact c.trans c2.symm
      · rw [c, upd_same, upd_other c2] at e
        have := brow_lt (h.file g (by omega)).1
        omega
    · by_cases c2 : g = (k : Int)
      · rw [c2, upd_same, upd_other c] at e
        have := brow_lt (h.file f (by omega)).1
        omega
      · rw [upd_other c, upd_other c2] at e
        exact h.inj f g (by omega) (by omega) e
  · refine h.below.trans ⟨ht.grown.os, ht.grown.tape, ht.grown.output, Nat.le_trans ha.size ht.grown.size, fun b hb => hold b (Nat.lt_of_lt_of_le hb h.below.size) (by omega)⟩

theorem NAt.done {r : Nat} {fb : Int → Nat} {w wr : World} (h : NAt r fb 16 w wr) (hr : w.heap.size ≤ r) : NewPost w (.returned (.pointer (some ⟨r, 0, none⟩))) wr := by
  have nil : ∀ (e size : Nat), wr.ownsRow 0 e size (.slice none 0 0) 0 [] := fun e size => World.ownsRow_nil _ _ _ _
  refine ⟨r, ⟨w.heap.size, w.heap.size + 1, fb, fun _ _ => .slice none 0 0, .slice none 0 0, .slice none 0 0⟩, rfl, ⟨⟨h.cell, ⟨h.map.full, fun f hf => (h.file f ⟨hf.1, by have := hf.2; omega⟩).1, fun f s hf => ?_, fun f g hf hg e => h.inj f g ⟨hf.1, by have := hf.2; omega⟩ ⟨hg.1, by have := hg.2; omega⟩ e, fun f s g t b hf hg e => by cases e⟩, h.set, nil _ _, by simp⟩, nil _ _⟩, h.below, fun b hb => ?_⟩
  · have e : side Dk.new.now Dk.new.last f s = [] := by cases s <;> rfl
    rw [e]; exact nil _ _
  · rcases hb with rfl | rfl | hb | hb
    · exact hr
    · exact Nat.le_succ _
    · cases hb
    · rcases hb with rfl | ⟨f, hf, rfl | ⟨s, hb⟩⟩
      · exact Nat.le_refl _
      · exact (h.file f ⟨hf.1, by have := hf.2; omega⟩).2
      · cases hb

set_option maxRecDepth 100000 in
set_option maxHeartbeats 4000000 in
theorem pNew_any (w : World) : Calls Tryd.prog 6 #[] w (NewPost w) := by
  have hmm := @run_makeMap Tryd.prog
  obtain ⟨W1, hW1⟩ : ∃ W1, W1 = ((w.alloc (.map #[] 0)).alloc (.map #[] 0)).alloc (.cells #[.map (some w.heap.size), .slice none 0 0, .map (some (w.heap.size + 1)), .int .i64 0, .int .i64 0, .slice none 0 0, .bool false] 48) := ⟨_, rfl⟩
  have hs1 : (w.alloc (.map #[] 0)).heap.size = w.heap.size + 1 := by simp
  have hN : NAt (w.heap.size + 1 + 1) (fun _ => 0) 0 w W1 := by
    have b1 : Below (w.heap.size + 1) (w.alloc (.map #[] 0)) W1 := by
      rw [hW1]; exact ((Below.refl _ _).alloc (by simp) _).alloc (by simp) _
    have b2 : Below (w.heap.size + 2) ((w.alloc (.map #[] 0)).alloc (.map #[] 0)) W1 := by
      rw [hW1]; exact (Below.refl _ _).alloc (by simp) _
    refine ⟨?_, ?_, ?_, fun f hf => by omega, fun f g hf => by omega, ?_⟩
    · rw [hW1]
      have := heap_alloc_new ((w.alloc (.map #[] 0)).alloc (.map #[] 0)) (.cells #[.map (some w.heap.size), .slice none 0 0, .map (some (w.heap.size + 1)), .int .i64 0, .int .i64 0, .slice none 0 0, .bool false] 48)
      simpa using this
    · have hm : NMap (w.alloc (.map #[] 0)) w.heap.size (fun _ => 0) 0 := ⟨.map [], World.ownsMap_made w _ _ _, fun f hf => by rw [decide_eq_false (by omega)]; simp [Maps.has], fun f z hf => by omega⟩
      exact hm.kept (b1.block _ (by omega))
    · have hm := LMap.made (w.alloc (.map #[] 0))
      rw [hs1] at hm
      exact hm.kept (b2.block _ (by omega))
    · rw [hW1]; exact (((Below.refl _ _).alloc (Nat.le_refl _) _).alloc (by simp) _).alloc (by simp; omega) _
  have HN := Lib.hid hN
  have HW := Lib.hid hW1
  clear hN hW1 hs1
  go_enter Tryd.func6, Tryd.ntmps6
  go_wp2
  rw [← HW.out]
  obtain ⟨r, hr⟩ : ∃ r, w.heap.size + 1 + 1 = r := ⟨_, rfl⟩
  rw [hr] at HN
  simp only [hr]
  have hr1 : r ≠ w.heap.size := by omega
  have hr2 : r ≠ w.heap.size + 1 := by omega
  have hr3 : w.heap.size ≤ r := by omega
  clear hr HW
  go_loopw [7] (fun i wr => ∃ k : Nat, k ≤ 16 ∧ i = .int .i64 k ∧ ∃ fb, NAt r fb k w wr) (fun i _ => 16 - (intOf i).toNat)
  case atStart => exact ⟨0, Nat.zero_le _, rfl, _, HN.out⟩
  case round =>
    obtain ⟨k, hk, rfl, fb, hn⟩ := hrel
    have hnn := hn
    have HNK := Lib.hid hnn
    clear hnn HN
    by_cases hlt : k < 16
    · obtain ⟨w4, hrun, hn4⟩ := hn.next hlt hr1 hr2
      have HN4 := Lib.hid hn4
      have c0 : wr.cell? ⟨r, 0, none⟩ = some (.map (some w.heap.size)) := by rw [Lib.cell_of_heap hn.cell]; rfl
      have hlt' : (k : Int) < 16 := by omega
      clear hn hn4
      go_wp2
      go_roundw
      case rel => exact ⟨k + 1, by omega, by go_num, _, HN4.out⟩
      case measure => simp [intOf]; omega
    · obtain rfl : k = 16 := by omega
      have HD := Lib.hid (hn.done hr3)
      clear hn
      go_wp2
      go_ret
      exact HD.out

end Go.Proofs.YtncadnmoiiiahaaDoor
