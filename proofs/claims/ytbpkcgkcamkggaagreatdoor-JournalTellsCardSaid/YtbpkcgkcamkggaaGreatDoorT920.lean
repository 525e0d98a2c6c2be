/-
  The contract of the program's New.
  What the program's Crash does, outside the walk.
-/
import Derived.Test.YtbpkcgkcamkggaaGreatDoorT919
set_option linter.unusedVariables false
set_option maxRecDepth 100000
namespace Go.Proofs.YtbpkcgkcamkggaaGreatDoor
open Go.RowKit

/-- the map of the first k files. -/
def NMap (w : World) (m : Nat) (fb : Int → Nat) (k : Nat) : Prop :=
  ∃ D : DataW Unit, w.ownsMap Tryz.prog 3 ptrElem m k D ∧ (∀ f, In64 f → Maps.has D (.int .i64 f) = decide (0 ≤ f ∧ f < (k : Int))) ∧ ∀ f z, 0 ≤ f ∧ f < (k : Int) → D.atKey (.int .i64 f) z = .lit (.int .i64 (fb f : Int))

theorem NMap.full {w : World} {m : Nat} {fb : Int → Nat} (h : NMap w m fb 16) : FMap w m fb := by
  obtain ⟨D, h1, h2, h3⟩ := h
  refine ⟨D, h1, fun f hf => ?_, fun f z hf => h3 f z ⟨hf.1, by have := hf.2; omega⟩⟩
  rw [h2 f hf]
  simp only [decide_eq_decide]
  constructor
  · intro h; exact ⟨h.1, by omega⟩
  · intro h; exact ⟨h.1, by have := h.2; omega⟩
theorem NMap.kept {w w' : World} {m k : Nat} {fb : Int → Nat} (h : NMap w m fb k) (hb : w'.heap[m]? = w.heap[m]?) : NMap w' m fb k := by
  obtain ⟨D, ⟨es, clock, h1, h2⟩, h3⟩ := h
  exact ⟨D, ⟨es, clock, hb.trans h1, h2⟩, h3⟩
theorem NMap.lt {w : World} {m k : Nat} {fb : Int → Nat} (h : NMap w m fb k) : m < w.heap.size := by obtain ⟨D, hown, _⟩ := h; exact hown.lt
theorem NMap.isMap {w : World} {m k : Nat} {fb : Int → Nat} (h : NMap w m fb k) : ∃ es clock, w.heap[m]? = some (.map es clock) := by
  obtain ⟨D, ⟨es, clock, h1, _⟩, _⟩ := h
  exact ⟨es, clock, h1⟩
/-- the next file. -/
theorem NMap.next {w : World} {m k : Nat} {fb : Int → Nat} (h : NMap w m fb k) (hk : k < 16) (b : Nat) (hb : fb (k : Int) = b) :
    ∃ w', (Instr.mapUpdate 56 (.map (some m)) (.int .i64 (k : Int)) (.pointer (some ⟨b, 0, none⟩))).run Tryz.prog w = .ok () w' ∧ NMap w' m fb (k + 1) ∧ w.mapTurned w' m := by
  obtain ⟨D, hown, hhas, hat⟩ := h
  have h64 : In64 (k : Int) := ⟨by omega, by omega⟩
  obtain ⟨w', hrun, hown', ht⟩ := hown.store lawInt Tryz.underlying56 (by unfold maxLen; omega) (key_int h64) (val := .pointer (some ⟨b, 0, none⟩)) (d := .lit (.int .i64 (b : Int))) (ps := []) rfl
  have hkey : WideAt.IsKeyLit (.int .i64 (k : Int)) := lawInt.key (key_int h64)
  refine ⟨w', hrun, ⟨_, hown', fun f hf => ?_, fun f z hf => ?_⟩, ht⟩
  · by_cases c : f = (k : Int)
    · subst c
      rw [Maps.has_put_same hown.isMap hkey, decide_eq_true (by omega)]
    · have hne : (Lit.int .i64 f) ≠ .int .i64 (k : Int) := fun e => c (by injection e)
      rw [Maps.has_put_other hne, hhas f hf]
      simp only [decide_eq_decide]; omega
  · by_cases c : f = (k : Int)
    · subst c
      rw [Maps.atKey_put_same hown.isMap hkey, hb]
    · have hne : (Lit.int .i64 f) ≠ .int .i64 (k : Int) := fun e => c (by injection e)
      rw [Maps.atKey_put_other hne]
      exact hat f z (by omega)

/-- a new disk, k files made. -/
structure NAt (r : Nat) (fb : Int → Nat) (k : Nat) (w wr : World) : Prop where
  cell : wr.heap[r]? = some (.cells #[.map (some w.heap.size), .slice none 0 0, .map (some (w.heap.size + 1)), .int .i64 0, .int .i64 0, .slice none 0 0, .bool false] 60 (0, 0))
  map : NMap wr w.heap.size fb k
  set : LMap wr (w.heap.size + 1) []
  file : ∀ f : Int, 0 ≤ f ∧ f < (k : Int) → wr.heap[fb f]? = some (.cells #[.slice none 0 0, .slice none 0 0] 64 (0, 0)) ∧ w.heap.size ≤ fb f
  inj : ∀ f g : Int, 0 ≤ f ∧ f < (k : Int) → 0 ≤ g ∧ g < (k : Int) → fb f = fb g → f = g
  below : Below w.heap.size w wr

/-- what New leaves. -/
def NewPost (w : World) (e : Ending) (w' : World) : Prop :=
  ∃ r L, e = .returned (.pointer (some ⟨r, 0, none⟩)) ∧ PAt r L Dk.new w' ∧ Below w.heap.size w w' ∧ ∀ b, Own r L b → w.heap.size ≤ b

theorem NAt.next {r : Nat} {fb : Int → Nat} {k : Nat} {w wr : World} (h : NAt r fb k w wr) (hk : k < 16) (hr : r ≠ w.heap.size) (hr2 : r ≠ w.heap.size + 1) :
    ∃ w', (Instr.mapUpdate 56 (.map (some w.heap.size)) (.int .i64 (k : Int)) (.pointer (some ⟨wr.heap.size, 0, none⟩))).run Tryz.prog (wr.alloc (.cells #[.slice none 0 0, .slice none 0 0] 64)) = .ok () w' ∧ NAt r (upd fb (k : Int) wr.heap.size) (k + 1) w w' := by
  have ha : Below wr.heap.size wr (wr.alloc (.cells #[.slice none 0 0, .slice none 0 0] 64)) := (Below.refl _ _).alloc (Nat.le_refl _) _
  have hm : NMap (wr.alloc (.cells #[.slice none 0 0, .slice none 0 0] 64)) w.heap.size (upd fb (k : Int) wr.heap.size) k := by
    obtain ⟨D, h1, h2, h3⟩ := h.map.kept (ha.block _ h.map.lt)
    exact ⟨D, h1, h2, fun f z hf => by rw [upd_other (by omega)]; exact h3 f z hf⟩
  obtain ⟨w', hrun, hm', ht⟩ := hm.next hk wr.heap.size (upd_same _ _ _)
  have hold : ∀ b, b < wr.heap.size → b ≠ w.heap.size → w'.heap[b]? = wr.heap[b]? := fun b hb hne => (ht.grown.block b (by simp; omega) (fun e => hne (by injection e))).trans (ha.block b hb)
  have hnewb : w'.heap[wr.heap.size]? = some (.cells #[.slice none 0 0, .slice none 0 0] 64 (0, 0)) := by
    rw [ht.grown.block _ (by simp) (fun e => by injection e with e; have := h.map.lt; omega)]
    exact heap_alloc_new wr _
  refine ⟨w', hrun, ⟨?_, hm', ?_, ?_, ?_, ?_⟩⟩
  · exact (hold r (brow_lt h.cell) hr).trans h.cell
  · exact h.set.kept (hold _ h.set.lt (by omega))
  · intro f hf
    by_cases c : f = (k : Int)
    · subst c
      rw [upd_same]
      exact ⟨hnewb, h.below.size⟩
    · rw [upd_other c]
      obtain ⟨g1, g2⟩ := h.file f (by omega)
      refine ⟨(hold _ (brow_lt g1) (fun e => ?_)).trans g1, g2⟩
      obtain ⟨es, cc, hmm⟩ := h.map.isMap
      rw [← e, g1] at hmm; cases hmm
  · intro f g hf hg e
    by_cases c : f = (k : Int)
    · by_cases c2 : g = (k : Int)
      · exact c.trans c2.symm
      · rw [c, upd_same, upd_other c2] at e
        have := brow_lt (h.file g (by omega)).1
        omega
    · by_cases c2 : g = (k : Int)
      · rw [c2, upd_same, upd_other c] at e
        have := brow_lt (h.file f (by omega)).1
        omega
      · rw [upd_other c, upd_other c2] at e
        exact h.inj f g (by omega) (by omega) e
  · refine h.below.trans ⟨ht.grown.os, ht.grown.tape, ht.grown.output, Nat.le_trans ha.size ht.grown.size, fun b hb => hold b (Nat.lt_of_lt_of_le hb h.below.size) (by omega)⟩

theorem NAt.done {r : Nat} {fb : Int → Nat} {w wr : World} (h : NAt r fb 16 w wr) (hr : w.heap.size ≤ r) : NewPost w (.returned (.pointer (some ⟨r, 0, none⟩))) wr := by
  have nil : ∀ (e size : Nat), wr.ownsRow 0 e size (.slice none 0 0) 0 [] := fun e size => World.ownsRow_nil _ _ _ _
  refine ⟨r, ⟨w.heap.size, w.heap.size + 1, fb, fun _ _ => .slice none 0 0, .slice none 0 0, .slice none 0 0⟩, rfl, ⟨⟨h.cell, ⟨h.map.full, fun f hf => (h.file f ⟨hf.1, by have := hf.2; omega⟩).1, fun f s hf => ?_, fun f g hf hg e => h.inj f g ⟨hf.1, by have := hf.2; omega⟩ ⟨hg.1, by have := hg.2; omega⟩ e, fun f s g t b hf hg e => by cases e⟩, h.set, nil _ _, by simp⟩, nil _ _⟩, h.below, fun b hb => ?_⟩
  · have e : side Dk.new.now Dk.new.last f s = [] := by cases s <;> rfl
    rw [e]; exact nil _ _
  · rcases hb with rfl | rfl | hb | hb
    · exact hr
    · exact Nat.le_succ _
    · cases hb
    · rcases hb with rfl | ⟨f, hf, rfl | ⟨s, hb⟩⟩
      · exact Nat.le_refl _
      · exact (h.file f ⟨hf.1, by have := hf.2; omega⟩).2
      · cases hb

set_option maxRecDepth 100000 in
set_option maxHeartbeats 4000000 in
theorem pNew_any (w : World) : Calls Tryz.prog 6 #[] w (NewPost w) := by
  have hmm := @run_makeMap Tryz.prog
  obtain ⟨W1, hW1⟩ : ∃ W1, W1 = ((w.alloc (.map #[] 0)).alloc (.map #[] 0)).alloc (.cells #[.map (some w.heap.size), .slice none 0 0, .map (some (w.heap.size + 1)), .int .i64 0, .int .i64 0, .slice none 0 0, .bool false] 60) := ⟨_, rfl⟩
  have hs1 : (w.alloc (.map #[] 0)).heap.size = w.heap.size + 1 := by simp
  have hN : NAt (w.heap.size + 1 + 1) (fun _ => 0) 0 w W1 := by
    have b1 : Below (w.heap.size + 1) (w.alloc (.map #[] 0)) W1 := by
      rw [hW1]; exact ((Below.refl _ _).alloc (by simp) _).alloc (by simp) _
    have b2 : Below (w.heap.size + 2) ((w.alloc (.map #[] 0)).alloc (.map #[] 0)) W1 := by
      rw [hW1]; exact (Below.refl _ _).alloc (by simp) _
    refine ⟨?_, ?_, ?_, fun f hf => by omega, fun f g hf => by omega, ?_⟩
    · rw [hW1]
      have := heap_alloc_new ((w.alloc (.map #[] 0)).alloc (.map #[] 0)) (.cells #[.map (some w.heap.size), .slice none 0 0, .map (some (w.heap.size + 1)), .int .i64 0, .int .i64 0, .slice none 0 0, .bool false] 60)
      simpa using this
    · have hm : NMap (w.alloc (.map #[] 0)) w.heap.size (fun _ => 0) 0 := ⟨.map [], World.ownsMap_made w _ _ _, fun f hf => by rw [decide_eq_false (by omega)]; simp [Maps.has], fun f z hf => by omega⟩
      exact hm.kept (b1.block _ (by omega))
    · have hm := LMap.made (w.alloc (.map #[] 0))
      rw [hs1] at hm
      exact hm.kept (b2.block _ (by omega))
    · rw [hW1]; exact (((Below.refl _ _).alloc (Nat.le_refl _) _).alloc (by simp) _).alloc (by simp; omega) _
  have HN := Lib.hid hN
  have HW := Lib.hid hW1
  clear hN hW1 hs1
  go_enter Tryz.func6, Tryz.ntmps6
  go_wp2
  rw [← HW.out]
  obtain ⟨r, hr⟩ : ∃ r, w.heap.size + 1 + 1 = r := ⟨_, rfl⟩
  rw [hr] at HN
  simp only [hr]
  have hr1 : r ≠ w.heap.size := by omega
  have hr2 : r ≠ w.heap.size + 1 := by omega
  have hr3 : w.heap.size ≤ r := by omega
  clear hr HW
  go_loopw [7] (fun i wr => ∃ k : Nat, k ≤ 16 ∧ i = .int .i64 k ∧ ∃ fb, NAt r fb k w wr) (fun i _ => 16 - (intOf i).toNat)
  case atStart => exact ⟨0, Nat.zero_le _, rfl, _, HN.out⟩
  case round =>
    obtain ⟨k, hk, rfl, fb, hn⟩ := hrel
    have hnn := hn
    have HNK := Lib.hid hnn
    clear hnn HN
    by_cases hlt : k < 16
    · obtain ⟨w4, hrun, hn4⟩ := hn.next hlt hr1 hr2
      have HN4 := Lib.hid hn4
      have c0 : wr.cell? ⟨r, 0, none⟩ = some (.map (some w.heap.size)) := by rw [Lib.cell_of_heap hn.cell]; rfl
      have hlt' : (k : Int) < 16 := by omega
      clear hn hn4
      go_wp2
      go_roundw
      case rel => exact ⟨k + 1, by omega, by go_num, _, HN4.out⟩
      case measure => simp [intOf]; omega
    · obtain rfl : k = 16 := by omega
      have HD := Lib.hid (hn.done hr3)
      clear hn
      go_wp2
      go_ret
      exact HD.out

end Go.Proofs.YtbpkcgkcamkggaaGreatDoor
namespace Go.Proofs.YtbpkcgkcamkggaaGreatDoor
open Go.RowKit

/-- a list of numbers that can be read, in a block that the disk does not write. -/
def KRd (r : Nat) (L : Lay) (w : World) (v : Value) (l : List Int) : Prop :=
  ∃ A cap, v = .slice A l.length cap ∧ (0 < l.length → ∃ b off, A = some ⟨b, off, none⟩ ∧ b < w.heap.size ∧ ¬ Own r L b ∧ ∀ j (h : j < l.length), w.cell? ⟨b, off + j, none⟩ = some (.int .i64 l[j]))
theorem KRd.step {r : Nat} {L L' : Lay} {w w' : World} {v : Value} {l : List Int} (h : KRd r L w v l) (k : PStep r L L' w w') : KRd r L' w' v l := by
  obtain ⟨A, cap, rfl, h⟩ := h
  refine ⟨A, cap, rfl, fun h0 => ?_⟩
  obtain ⟨b, off, rfl, hb, hn, hc⟩ := h h0
  refine ⟨b, off, rfl, Nat.lt_of_lt_of_le hb k.fr.size, fun ho => ?_, fun j hj => ?_⟩
  · rcases k.own b ho with h1 | h1
    · exact hn h1
    · omega
  · rw [← hc j hj]
    exact World.cell?_of_block (k.fr.block b hb hn)
theorem KRd.irow {r : Nat} {L : Lay} {w : World} {v : Value} {l : List Int} (h : KRd r L w v l) : IRow w v l := by
  obtain ⟨A, cap, rfl, h⟩ := h
  refine ⟨A, cap, rfl, fun h0 => ?_⟩
  obtain ⟨b, off, rfl, hb, _, hc⟩ := h h0
  refine ⟨_, rfl, hb, fun j u hj => ?_⟩
  have hjl : j < l.length := by simpa using (List.getElem?_eq_some_iff.1 hj).1
  rw [Addr.add_lit, hc j hjl, ← hj]
  simp [hjl]
/-- the list of the scheduled crash. -/
theorem PAt.krd {r : Nat} {L : Lay} {d : Dk} {w : World} (h : PAt r L d w) : KRd r L w L.kv d.keep := by
  rcases h.raw.keep.2 with ⟨hv, h0⟩ | ⟨g, cap, cur, hv, _, hg, hnc, hcm, hcs, ht⟩
  · exact ⟨none, 0, by rw [hv, h0], fun h1 => by omega⟩
  · refine ⟨_, cap, hv, fun _ => ⟨g, 0, rfl, brow_lt hg, fun ho => ?_, fun j hj => ?_⟩⟩
    · rcases ho with rfl | rfl | ho | ho
      · rw [h.raw.cell] at hg
        simp only [Option.some.injEq, Obj.cells.injEq] at hg
        exact absurd hg.2.1 (by decide)
      · obtain ⟨es, c, hm⟩ := h.raw.set.isMap
        rw [hm] at hg; cases hg
      · exact other_kind h.queue hg (by decide) ho
      · exact h.raw.files.free hg (by decide) (by decide) ho
    · have h1 := h.raw.keep.cells (g := g) (by rw [hv]; rfl) j (.int .i64 d.keep[j]) (by simp [hj])
      rw [Addr.add_lit] at h1
      exact h1

/-- a crash, as the program performs it. -/
def pcrash (d : Dk) (keep : List Int) : Dk := if d.down then d else { d.crash keep with keep := [] }

theorem left_add (keep : List Int) (x : Int × Nat) : ∀ (l : List (Int × Nat)) (j : Nat), left keep j (l ++ [x]) = left keep j l ++ (if oddAt keep (j + l.length) then [x] else []) := by
  intro l
  induction l with
  | nil =>
    intro j
    simp only [List.nil_append, left, List.length_nil, Nat.add_zero]
  | cons y l ih =>
    intro j
    simp only [List.cons_append, left, ih, List.length_cons]
    rw [show j + 1 + l.length = j + (l.length + 1) by omega]
    split
    · simp
    · rfl
/-- the durable parts when i sectors have been looked at. -/
def fallAt (d : Dk) (keep : List Int) (i : Nat) : Int → List UInt8 := survs d.now d.last (left keep 0 (d.q.take i))
theorem fallAt_next {d : Dk} {keep : List Int} {i : Nat} (h : i < d.q.length) : fallAt d keep (i + 1) = if oddAt keep i then surv d.now (fallAt d keep i) d.q[i] else fallAt d keep i := by
  unfold fallAt
  rw [List.take_succ_eq_append_getElem h, left_add, List.length_take, Nat.min_eq_left (by omega), Nat.zero_add]
  split
  · simp only [survs, List.foldl_append, List.foldl_cons, List.foldl_nil]
  · rw [List.append_nil]
theorem fallAt_all (d : Dk) (keep : List Int) : fallAt d keep d.q.length = d.crashed keep := by
  unfold fallAt Dk.crashed
  rw [List.take_length]
theorem fallAt_le {d : Dk} (h : Dk.Ok d) (keep : List Int) (i : Nat) (f : Int) : (fallAt d keep i f).length ≤ (d.now f).length := (survs_all _ h.le f).1.2

/-- a file's row is written: a step of the files. -/
theorem PRaw.wroteC {r : Nat} {L : Lay} {d : Dk} {S : List (Int × Nat)} {w w1 : World} (h : PRaw r L d S w) {f : Int} (hf : Dk.fileOk f) (s : Bool) {v' : Value}
    (hg : w.grownBy w1 (L.rv f s).ownBlock) (hl : v'.ownBlock = (L.rv f s).ownBlock ∨ ∀ b, v'.ownBlock = some b → w.heap.size ≤ b) (i : Nat) : CStep L (L.setRow f s v') w (w1.setCell ⟨L.fb f, i, none⟩ v') := by
  refine ⟨⟨hg.os, hg.tape, hg.output, by simp [World.setCell]; exact hg.size, fun k hk hn => ?_⟩, ?_, rfl, rfl, rfl, rfl, rfl⟩
  · rw [Below.heap_setCell _ _ _ _ (fun e => hn (.inr (.inr ⟨f, hf, .inl e⟩)))]
    exact hg.block k hk (fun e => hn (.inr (.inr ⟨f, hf, .inr ⟨s, e.symm⟩⟩)))
  · intro b hb
    rcases hb with hb | hb
    · exact .inl (.inl hb)
    · rcases hb with hb | ⟨g, hg', hb | ⟨t, hb⟩⟩
      · exact .inl (.inr (.inl hb))
      · exact .inl (.inr (.inr ⟨g, hg', .inl hb⟩))
      · by_cases c : g = f ∧ t = s
        · rw [show (L.setRow f s v').rv g t = v' by simp [Lay.setRow, c]] at hb
          rcases hl with hl | hl
          · rw [hl] at hb
            exact .inl (.inr (.inr ⟨f, hf, .inr ⟨s, hb⟩⟩))
          · exact .inr (hl b hb)
        · rw [show (L.setRow f s v').rv g t = L.rv g t by simp [Lay.setRow, c]] at hb
          exact .inl (.inr (.inr ⟨g, hg', .inr ⟨t, hb⟩⟩))

/-- the files when those that are left have not fallen yet. -/
def fallen (now X : Int → List UInt8) (lf : Lit → Bool) : Int → List UInt8 := fun f => if lf (.int .i64 f) then now f else X f

/-- the loop over the files under way. -/
def FallAt (r : Nat) (L : Lay) (d : Dk) (X : Int → List UInt8) (D : DataW Unit) (R : Nat) (w wr : World) : Prop :=
  ∃ lf cnt L', wr.ranges Tryz.prog 3 ptrElem L.m R 16 D lf cnt ∧ PRaw r L' { d with now := fallen d.now X lf, last := X } d.q wr ∧ CStep L L' w wr ∧ L'.m = L.m ∧ w.heap.size ≤ R

theorem bounds_in {n : Int} (h : (Lit.int .i64 n).wf = true) : In64 n := by
  have h1 := h
  simp [Lit.wf, IntKind.min, IntKind.max, IntKind.signed, IntKind.bits] at h1
  exact ⟨by omega, by omega⟩

theorem ptrElem_ptr {v : Value} {y : DataW Unit × List MemPlace} (h : ptrElem v = some y) : ∃ p, v = .pointer p := by
  unfold ptrElem at h
  split at h
  · exact ⟨_, rfl⟩
  · exact ⟨_, rfl⟩
  · cases h

theorem FilesAt.congr {w : World} {L : Lay} {now last now' last' : Int → List UInt8} (h : FilesAt w L now last) (h1 : ∀ f, Dk.fileOk f → now' f = now f) (h2 : ∀ f, Dk.fileOk f → last' f = last f) : FilesAt w L now' last' :=
  ⟨h.map, h.file, fun f s hf => by
    have e : side now' last' f s = side now last f s := by cases s <;> simp [side, h1 f hf, h2 f hf]
    rw [e]; exact h.row f s hf, h.inj, h.apart⟩
theorem PRaw.congr {r : Nat} {L : Lay} {d : Dk} {S : List (Int × Nat)} {w : World} (h : PRaw r L d S w) {now' last' : Int → List UInt8} (h1 : ∀ f, Dk.fileOk f → now' f = d.now f) (h2 : ∀ f, Dk.fileOk f → last' f = d.last f) : PRaw r L { d with now := now', last := last' } S w :=
  ⟨h.cell, h.files.congr h1 h2, h.set, h.keep, h.ne⟩

/-- a block that is no row of cells and no map, of the iterator's kind: it is none of the disk's. -/
theorem PRaw.grownIter {r R : Nat} {L : Lay} {d : Dk} {S : List (Int × Nat)} {w w' : World} (h : PRaw r L d S w) (hg : w.grownBy w' (some R)) {m : Option Nat} {a : Nat} {s : Array Nat} {c : Nat} (hR : w.heap[R]? = some (.mapIter m a s c)) : PRaw r L d S w' := by
  refine h.kept fun b hb => hg.block b (h.own_lt hb) (fun e => ?_)
  injection e with e
  subst e
  rcases hb with rfl | rfl | hb | hb
  · rw [h.cell] at hR; cases hR
  · obtain ⟨es, cc, hm⟩ := h.set.isMap
    rw [hm] at hR; cases hR
  · rcases h.files.kind hb with ⟨es, cc, hm⟩ | ⟨cc, hm⟩ | ⟨cc, hm⟩ <;> rw [hm] at hR <;> cases hR
  · obtain ⟨cc, hm⟩ := ownKind h.keep hb
    rw [hm] at hR; cases hR
theorem ranges_iter {H : Type} {w : World} {P : Program} {k : TypeId} {R : Value → Option (DataW H × List MemPlace)} {b r n : Nat} {D : DataW H} {lf : Lit → Bool} {cnt : Nat} (h : w.ranges P k R b r n D lf cnt) : ∃ m a s c, w.heap[r]? = some (.mapIter m a s c) := by
  obtain ⟨es, clock, since, seen, c0, _, _, _, _, hr, _⟩ := h
  exact ⟨_, _, _, _, hr⟩
/-- a step of the iterator. -/
theorem CStep.iter {L L' : Lay} {w wr w' : World} (k : CStep L L' w wr) {R : Nat} (hg : wr.grownBy w' (some R)) (hR : w.heap.size ≤ R) : CStep L L' w w' :=
  ⟨⟨hg.os.trans k.fr.os, hg.tape.trans k.fr.tape, hg.output.trans k.fr.output, Nat.le_trans k.fr.size hg.size, fun b hb hn => (hg.block b (Nat.lt_of_lt_of_le hb k.fr.size) (fun e => by injection e with e; omega)).trans (k.fr.block b hb hn)⟩, k.own, k.qv, k.l, k.fb, k.m, k.kv⟩

/-- the map of the files, as it is read. -/
structure FilesD (D : DataW Unit) (fb : Int → Nat) : Prop where
  has : ∀ f, In64 f → Maps.has D (.int .i64 f) = decide (Dk.fileOk f)
  atKey : ∀ f z, Dk.fileOk f → D.atKey (.int .i64 f) z = .lit (.int .i64 (fb f : Int))

/-- the loop over the files begins. -/
theorem fallAt_start {r : Nat} {L : Lay} {d : Dk} {X : Int → List UInt8} {D : DataW Unit} {w w2 : World} {cnt : Nat} (h : PRaw r L { d with last := X } d.q w) (hD : FilesD D L.fb) (hr : w2.ranges Tryz.prog 3 ptrElem L.m w.heap.size 16 D (Maps.has D) cnt) (hg : w.grownBy w2 none) : FallAt r L d X D w.heap.size w w2 := by
  have hb : Below w.heap.size w w2 := ⟨hg.os, hg.tape, hg.output, hg.size, fun k hk => hg.block k hk (by simp)⟩
  refine ⟨_, _, L, hr, ?_, CStep.of_below hb, rfl, Nat.le_refl _⟩
  refine (h.below hb).congr (fun f hf => ?_) (fun f hf => rfl)
  unfold fallen
  rw [hD.has f (fileOk_64 hf), decide_eq_true hf, if_pos rfl]

/-- a file has come. -/
theorem fallAt_more {D : DataW Unit} {fb : Int → Nat} (hD : FilesD D fb) {x : Int} {p : Option Addr} {kl : Lit} {y : DataW Unit} {ps : List MemPlace} (hkey : keyOf Tryz.prog 3 (.int .i64 x) = some kl) (hv : ptrElem (.pointer p) = some (y, ps)) (hat : ∀ zd, D.atKey kl zd = y) :
    kl = .int .i64 x ∧ Dk.fileOk x ∧ p = some ⟨fb x, 0, none⟩ := by
  obtain ⟨x', e, rfl, hw⟩ := Maps.keyOf_int_inv Tryz.underlying3 hkey
  cases e
  have h64 : In64 x := by
    have h : (Lit.int .i64 x).wf = true := hw
    exact bounds_in h
  have hf : Dk.fileOk x := by
    have h1 := Maps.has_true_of_atKey hat
    rw [hD.has x h64] at h1
    exact of_decide_eq_true h1
  refine ⟨rfl, hf, ?_⟩
  have h2 := hat .nil
  rw [hD.atKey x _ hf] at h2
  subst h2
  have := ptrElem_block hv
  injection this

/-- a file's row is written, the list of pending sectors aside. -/
theorem PRaw.wrote0 {r : Nat} {L : Lay} {d : Dk} {S : List (Int × Nat)} {w w1 : World} (h : PRaw r L d S w) {f : Int} (hf : Dk.fileOk f) (s : Bool) {v' : Value} {X : List UInt8}
    (hown : w1.ownsRow 0 5 1 v' X.length (bcs X)) (hg : w.grownBy w1 (L.rv f s).ownBlock) (hl : v'.ownBlock = (L.rv f s).ownBlock ∨ ∀ b, v'.ownBlock = some b → w.heap.size ≤ b) (i : Nat) (hi : i = if s then 1 else 0) :
    PRaw r (L.setRow f s v') { d with now := setSide d.now f (!s) X, last := setSide d.last f s X } S (w1.setCell ⟨L.fb f, i, none⟩ v') := by
  subst hi
  have hfile := h.files.file f hf
  have hrow := h.files.row f s hf
  have hfb : w1.heap[L.fb f]? = some (.cells #[L.rv f false, L.rv f true] 64 (0, 0)) := (hg.block _ (brow_lt hfile) (fun e => other_kind hrow hfile (by decide) e.symm)).trans hfile
  have hblk : ∀ b, b ≠ L.fb f → (w1.setCell ⟨L.fb f, if s then 1 else 0, none⟩ v').heap[b]? = w1.heap[b]? := fun b hb => Below.heap_setCell _ _ _ _ (fun e => hb e)
  have hother : ∀ b, b < w.heap.size → b ≠ L.fb f → (L.rv f s).ownBlock ≠ some b → (w1.setCell ⟨L.fb f, if s then 1 else 0, none⟩ v').heap[b]? = w.heap[b]? := fun b hb h1 h2 => (hblk b h1).trans (hg.block b hb (fun e => h2 e.symm))
  have kr : r ≠ L.fb f := fun e => h.rfree (.inr ⟨f, hf, .inl e⟩)
  have kr2 : (L.rv f s).ownBlock ≠ some r := fun e => h.rfree (.inr ⟨f, hf, .inr ⟨s, e⟩⟩)
  obtain ⟨es, c, hml⟩ := h.set.isMap
  have kl : L.l ≠ L.fb f := fun e => by rw [e, hfile] at hml; cases hml
  have kl2 : (L.rv f s).ownBlock ≠ some L.l := other_map hrow hml
  refine ⟨(hother r h.lt kr kr2).trans h.cell, ?_, h.set.kept (hother _ h.set.lt kl kl2), ?_, h.ne⟩
  · refine h.files.setRow hf s ?_ ?_ (fun b hb h1 h2 => hother b hb h1 h2) hl
    · exact ownKeep hown fun b hb => hblk b fun e => other_kind hown hfb (by decide) (by rw [← e]; exact hb)
    · rw [heap_set hfb]
      cases s <;> simp [Lay.setRow]
  · refine ownKeep h.keep fun b hb => ?_
    obtain ⟨c2, hc2⟩ := ownKind h.keep hb
    refine hother b (brow_lt hc2) (fun e => ?_) (other_kind hrow hc2 (by decide))
    exact other_kind h.keep hfile (by decide) (by rw [← e]; exact hb)

/-- a file has fallen. -/
theorem fallAt_step {r : Nat} {L1 L2 : Lay} {d : Dk} {X : Int → List UInt8} {D : DataW Unit} {w0 wr w3 w4 : World} {lf : Lit → Bool} {cnt3 : Nat} (p2 : PRaw r L2 { d with now := fallen d.now X lf, last := X } d.q wr) (k2 : CStep L1 L2 w0 wr) (m2 : L2.m = L1.m)
    {x : Int} (hx : Dk.fileOk x) (hrg3 : w3.ranges Tryz.prog 3 ptrElem L1.m w0.heap.size 16 D (fun z => lf z && !z.sameKey (.int .i64 x)) cnt3) (hg3 : wr.grownBy w3 (some w0.heap.size)) (hit : ∃ m a s c, wr.heap[w0.heap.size]? = some (.mapIter m a s c))
    {v' : Value} (hown : w4.ownsRow w3.heap.size 5 1 v' (X x).length (bcs (X x))) (hb : Below w3.heap.size w3 w4) :
    (w4.setCell ⟨L2.fb x, 0, none⟩ v').ranges Tryz.prog 3 ptrElem L1.m w0.heap.size 16 D (fun z => lf z && !z.sameKey (.int .i64 x)) cnt3 ∧ FallAt r L1 d X D w0.heap.size w0 (w4.setCell ⟨L2.fb x, 0, none⟩ v') := by
  obtain ⟨m, a, s, c, hR⟩ := hit
  have p3 := p2.grownIter hg3 hR
  have k3 := k2.iter hg3 (Nat.le_refl _)
  have hg4 : w3.grownBy w4 (L2.rv x false).ownBlock := ⟨hb.os, hb.tape, hb.output, hb.size, fun k hk _ => hb.block k hk⟩
  have hl : v'.ownBlock = (L2.rv x false).ownBlock ∨ ∀ b, v'.ownBlock = some b → w3.heap.size ≤ b := .inr fun b hb' => (hown.lt b hb').1
  have hfile := p3.files.file x hx
  have hfl := brow_lt hfile
  have hmne : L1.m ≠ L2.fb x := fun e => by
    obtain ⟨es, cc, hm⟩ := p3.files.map.isMap
    rw [m2, e, hfile] at hm; cases hm
  have hRne : w0.heap.size ≠ L2.fb x := fun e => by
    obtain ⟨m', a', s', c', h'⟩ := ranges_iter hrg3
    rw [e, hfile] at h'; cases h'
  have hgr5 : w4.grownBy (w4.setCell ⟨L2.fb x, 0, none⟩ v') (some (L2.fb x)) := grownOne _ _ _ _
  have hr4 := (hrg3.kept (row := none) ⟨hb.os, hb.tape, hb.output, hb.size, fun k hk _ => hb.block k hk⟩ (by simp) (by simp)).kept hgr5 (fun e => hmne (by injection e)) (fun e => hRne (by injection e))
  have hw : PRaw r (L2.setRow x false v') { d with now := setSide (fallen d.now X lf) x true (X x), last := setSide X x false (X x) } d.q (w4.setCell ⟨L2.fb x, 0, none⟩ v') :=
    p3.wrote0 hx false (ownBase hown (Nat.zero_le _)) hg4 hl 0 rfl
  refine ⟨hr4, _, _, L2.setRow x false v', hr4, ?_, k3.trans (p3.wroteC hx false hg4 hl 0), m2, Nat.le_refl _⟩
  refine hw.congr (fun f hf => ?_) (fun f hf => rfl)
  show fallen d.now X (fun z => lf z && !z.sameKey (.int .i64 x)) f = upd (fallen d.now X lf) x (X x) f
  unfold fallen
  by_cases c : f = x
  · subst c
    rw [upd_same]
    have e : (Lit.int .i64 f).sameKey (.int .i64 f) = true := WideAt.sameKey_self (lawInt.key (key_int (fileOk_64 hf)))
    simp [e]
  · rw [upd_other c]
    have e : (Lit.int .i64 f).sameKey (.int .i64 x) = false := Maps.sameKey_ne (fun e => c (by injection e))
    simp [e]

/-- the end of a crash. -/
def crashW (r : Nat) (w : World) : World :=
  (((((w.alloc (.map #[] 0)).setCell ⟨r, 1, none⟩ (.slice none 0 0)).setCell ⟨r, 2, none⟩ (.map (some w.heap.size))).setCell ⟨r, 4, none⟩ (.int .i64 0)).setCell ⟨r, 5, none⟩ (.slice none 0 0)).setCell ⟨r, 6, none⟩ (.bool true)
theorem crashW_block (r : Nat) (w : World) {k : Nat} (hk : k < w.heap.size) (hkr : k ≠ r) : (crashW r w).heap[k]? = w.heap[k]? := by
  have ha : Below w.heap.size w (w.alloc (.map #[] 0)) := (Below.refl _ _).alloc (Nat.le_refl _) _
  unfold crashW
  rw [Below.heap_setCell _ _ _ _ hkr, Below.heap_setCell _ _ _ _ hkr, Below.heap_setCell _ _ _ _ hkr, Below.heap_setCell _ _ _ _ hkr, Below.heap_setCell _ _ _ _ hkr]
  exact ha.block k hk
theorem crashW_size (r : Nat) (w : World) : w.heap.size ≤ (crashW r w).heap.size := by simp [crashW, World.setCell]
theorem setCell_os (w : World) (a : Addr) (u : Value) : (w.setCell a u).os = w.os ∧ (w.setCell a u).tape = w.tape ∧ (w.setCell a u).output = w.output := ⟨rfl, rfl, rfl⟩
theorem crashW_os (r : Nat) (w : World) : (crashW r w).os = w.os ∧ (crashW r w).tape = w.tape ∧ (crashW r w).output = w.output := by
  have ha : Below w.heap.size w (w.alloc (.map #[] 0)) := (Below.refl _ _).alloc (Nat.le_refl _) _
  unfold crashW
  refine ⟨?_, ?_, ?_⟩
  · rw [(setCell_os _ _ _).1, (setCell_os _ _ _).1, (setCell_os _ _ _).1, (setCell_os _ _ _).1, (setCell_os _ _ _).1]; exact ha.os
  · rw [(setCell_os _ _ _).2.1, (setCell_os _ _ _).2.1, (setCell_os _ _ _).2.1, (setCell_os _ _ _).2.1, (setCell_os _ _ _).2.1]; exact ha.tape
  · rw [(setCell_os _ _ _).2.2, (setCell_os _ _ _).2.2, (setCell_os _ _ _).2.2, (setCell_os _ _ _).2.2, (setCell_os _ _ _).2.2]; exact ha.output
theorem crashW_raw {r : Nat} {L : Lay} {d : Dk} {S : List (Int × Nat)} {w : World} (h : PRaw r L d S w) : PRaw r { L with qv := .slice none 0 0, l := w.heap.size, kv := .slice none 0 0 } { d with armed := 0, keep := [], down := true } [] (crashW r w) := by
  have ha : Below w.heap.size w (w.alloc (.map #[] 0)) := (Below.refl _ _).alloc (Nat.le_refl _) _
  have h0 := h.below ha
  have hrl := h.lt
  have hml := h.files.map.lt
  have hset0 := LMap.made w
  have nil : ∀ (w : World) (e size : Nat), w.ownsRow 0 e size (.slice none 0 0) 0 [] := fun w e size => World.ownsRow_nil _ _ _ _
  unfold crashW
  generalize w.alloc (.map #[] 0) = w0 at *
  have hset : LMap (w0.setCell ⟨r, 1, none⟩ (.slice none 0 0)) w.heap.size [] := hset0.kept (Below.heap_setCell _ _ _ _ (fun e => by simp only at e; omega))
  have h1 := h0.store (L' := { L with qv := .slice none 0 0 }) (d' := d) 1 (.slice none 0 0) rfl rfl rfl rfl rfl rfl h0.set h0.keep h0.ne
  generalize w0.setCell ⟨r, 1, none⟩ (.slice none 0 0) = w1 at *
  have h2 := h1.store (L' := { L with qv := .slice none 0 0, l := w.heap.size }) (d' := d) (S' := []) 2 (.map (some w.heap.size)) rfl rfl rfl rfl rfl rfl hset h1.keep (fun e => by
    have h6 : L.m = w.heap.size := e
    omega)
  generalize w1.setCell ⟨r, 2, none⟩ (.map (some w.heap.size)) = w2 at *
  have h3 := h2.store (L' := { L with qv := .slice none 0 0, l := w.heap.size }) (d' := { d with armed := 0 }) 4 (.int .i64 0) rfl rfl rfl rfl rfl rfl h2.set h2.keep h2.ne
  generalize w2.setCell ⟨r, 4, none⟩ (.int .i64 0) = w3 at *
  have h4 := h3.store (L' := { L with qv := .slice none 0 0, l := w.heap.size, kv := .slice none 0 0 }) (d' := { d with armed := 0, keep := [] }) 5 (.slice none 0 0) rfl rfl rfl rfl rfl rfl h3.set (nil _ _ _) h3.ne
  generalize w3.setCell ⟨r, 5, none⟩ (.slice none 0 0) = w4 at *
  exact h4.store (L' := { L with qv := .slice none 0 0, l := w.heap.size, kv := .slice none 0 0 }) (d' := { d with armed := 0, keep := [], down := true }) 6 (.bool true) rfl rfl rfl rfl rfl rfl h4.set h4.keep h4.ne
theorem crash_end {r : Nat} {L : Lay} {d : Dk} {S : List (Int × Nat)} {w : World} (h : PRaw r L d S w) : ∃ L', PAt r L' { d with q := [], armed := 0, keep := [], down := true } (crashW r w) ∧ PStep r L L' w (crashW r w) ∧ L'.fb = L.fb := by
  have h5 := crashW_raw h
  have hb := fun k hk hkr => crashW_block r w (k := k) hk hkr
  have hs := crashW_size r w
  obtain ⟨o1, o2, o3⟩ := crashW_os r w
  generalize crashW r w = W at *
  refine ⟨_, ⟨⟨h5.cell, h5.files, h5.set, h5.keep, h5.ne⟩, World.ownsRow_nil _ _ _ _⟩, ⟨⟨o1, o2, o3, hs, fun k hk hn => hb k hk (fun e => hn (.inl e))⟩, fun b hb => ?_, fun b hb => by cases hb⟩, rfl⟩
  rcases hb with hb | hb | hb | hb
  · exact .inl (.inl hb)
  · right
    have h6 : b = w.heap.size := hb
    omega
  · cases hb
  · exact .inl (.inr (.inr (.inr hb)))

end Go.Proofs.YtbpkcgkcamkggaaGreatDoor
