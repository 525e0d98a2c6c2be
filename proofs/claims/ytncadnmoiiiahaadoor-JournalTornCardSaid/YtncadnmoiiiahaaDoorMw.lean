/-
  Contracts of the program's methods over the model.
-/
import Derived.Test.YtncadnmoiiiahaaDoorMv
set_option linter.unusedVariables false
set_option maxRecDepth 100000
namespace Go.Proofs.YtncadnmoiiiahaaDoor
open Go.RowKit

/-- the program's disk at r is the model's disk d, with at most n pending sectors. -/
structure DAt (r : Nat) (L : Lay) (d : Dk) (n : Nat) (w : World) : Prop where
  ex : ∃ p, PAt r L p w ∧ PRep p d ∧ p.keep.length ≤ 1099511627776
  ok : Dk.Ok d
  q : d.q.length ≤ n
  armed : d.armed ≤ 9223372036854775807
  lost : d.lost ≤ 9223372036854775807

theorem DAt.fits {r : Nat} {L : Lay} {d : Dk} {n : Nat} {w : World} (h : DAt r L d n w) (hn : n ≤ 137438953472) : ∃ p, PAt r L p w ∧ PRep p d ∧ Fits p := by
  obtain ⟨p, h1, h2, h3⟩ := h.ex
  exact ⟨p, h1, h2, ⟨Dk.ok_of h.ok h2.now h2.last h2.q, by rw [h2.q]; exact Nat.le_trans h.q hn, h3, by rw [h2.armed]; exact h.armed, by rw [h2.lost]; exact h.lost⟩⟩
theorem DAt.mono {r : Nat} {L : Lay} {d : Dk} {n m : Nat} {w : World} (h : DAt r L d n w) (hn : n ≤ m) : DAt r L d m w := ⟨h.ex, h.ok, Nat.le_trans h.q hn, h.armed, h.lost⟩
theorem DAt.kept {r : Nat} {L : Lay} {d : Dk} {n : Nat} {w w' : World} (h : DAt r L d n w) (hk : ∀ b c z T, (Own r L b ∨ w.heap[b]? = some (.cells c T z) ∧ T = 3) → b < w.heap.size → w'.heap[b]? = w.heap[b]?) : DAt r L d n w' := by
  obtain ⟨p, h1, h2, h3⟩ := h.ex
  refine ⟨⟨p, h1.kept fun b hb => ?_, h2, h3⟩, h.ok, h.q, h.armed, h.lost⟩
  have hl := h1.own_lt hb
  rcases hb with hb | hb
  · exact hk b #[] (0, 0) 3 (.inl hb) hl
  · obtain ⟨c, hc⟩ := ownKind h1.raw.keep hb
    exact hk b c (0, 0) 3 (.inr ⟨hc, rfl⟩) hl
theorem DAt.below {r : Nat} {L : Lay} {d : Dk} {n : Nat} {w w' : World} (h : DAt r L d n w) (hb : Below w.heap.size w w') : DAt r L d n w' := h.kept fun b _ _ _ _ hl => hb.block b hl
theorem DAt.own_lt {r : Nat} {L : Lay} {d : Dk} {n : Nat} {w : World} (h : DAt r L d n w) {b : Nat} (hb : Own r L b) : b < w.heap.size := by
  obtain ⟨p, h1, _⟩ := h.ex
  exact h1.own_lt (.inl hb)
/-- no block of ints is a disk's own. -/
theorem DAt.int_free {r : Nat} {L : Lay} {d : Dk} {n : Nat} {w : World} (h : DAt r L d n w) {b : Nat} {c : Array Value} {T : TypeId} {z : Nat × Nat} (hb : w.heap[b]? = some (.cells c T z)) (h1 : T ≠ 48) (h2 : T ≠ 51) (h3 : T ≠ 5) (h4 : T ≠ 70) : ¬ Own r L b := by
  obtain ⟨p, hp, _⟩ := h.ex
  rintro (rfl | rfl | ho | ho)
  · rw [hp.raw.cell] at hb
    simp only [Option.some.injEq, Obj.cells.injEq] at hb
    exact h1 hb.2.1.symm
  · obtain ⟨es, cc, hm⟩ := hp.raw.set.isMap
    rw [hm] at hb; cases hb
  · exact other_kind hp.queue hb h4 ho
  · exact hp.raw.files.free hb h2 h3 ho

/-- two disks share nothing that is written. -/
def Apart (r : Nat) (L : Lay) (r2 : Nat) (L2 : Lay) : Prop := ∀ b, Own r L b → ¬ Own r2 L2 b
/-- a step of the one leaves the other. -/
theorem DAt.far {r r2 : Nat} {L L' L2 : Lay} {d d2 : Dk} {n n2 : Nat} {w w' : World} (h2 : DAt r2 L2 d2 n2 w) (h : DAt r L d n w) (ha : Apart r L r2 L2) (k : PStep r L L' w w') : DAt r2 L2 d2 n2 w' ∧ Apart r L' r2 L2 := by
  refine ⟨h2.kept fun b c z T hb hl => k.fr.block b hl (fun ho => ?_), fun b hb ho => ?_⟩
  · rcases hb with hb | ⟨hb, hT⟩
    · exact ha b ho hb
    · subst hT
      exact h.int_free hb (by decide) (by decide) (by decide) (by decide) ho
  · rcases k.own b hb with h1 | h1
    · exact ha b h1 ho
    · have := h2.own_lt ho
      omega
theorem Apart.symm {r r2 : Nat} {L L2 : Lay} (h : Apart r L r2 L2) : Apart r2 L2 r L := fun b h1 h2 => h b h2 h1

/-- what a method leaves, over the model. -/
def MLeft (r : Nat) (L : Lay) (d' : Dk) (n' : Nat) (res : Value) (w : World) (e : Ending) (w' : World) : Prop :=
  e = .returned res ∧ ∃ L', DAt r L' d' n' w' ∧ PStep r L L' w w'

theorem mSize {r : Nat} {L : Lay} {d : Dk} {n : Nat} {w : World} (h : DAt r L d n w) {f : Int} (h64 : In64 f) : Calls Tryd.prog 9 #[.pointer (some ⟨r, 0, none⟩), .int .i64 f] w fun e w' => e = .returned (.int .i64 ((d.now f).length : Int)) ∧ w' = w := by
  obtain ⟨p, h1, h2, _⟩ := h.ex
  rw [← h2.now]
  exact pSize_any r L p f w h1 (Dk.ok_of h.ok h2.now h2.last h2.q) h64
theorem crash_q (d : Dk) (keep : List Int) : (d.crash keep).q.length ≤ d.q.length ∧ (d.crash keep).armed ≤ d.armed ∧ (d.crash keep).lost = d.lost := by
  unfold Dk.crash
  split
  · exact ⟨Nat.le_refl _, Nat.le_refl _, rfl⟩
  · exact ⟨Nat.zero_le _, Nat.zero_le _, rfl⟩
theorem mCrash {r : Nat} {L : Lay} {d : Dk} {n : Nat} {w : World} (h : DAt r L d n w) (hn : n ≤ 137438953472) {v : Value} {keep : List Int} (hk : KRd r L w v keep) (hkl : keep.length ≤ 1099511627776) :
    Calls Tryd.prog 23 #[.pointer (some ⟨r, 0, none⟩), v] w (MLeft r L (d.crash keep) n (.tuple #[]) w) := by
  obtain ⟨p, h1, h2, hf⟩ := h.fits hn
  refine (crash_any r L p v keep w h1 hf.ok hk hkl (Nat.le_trans hf.q (by omega))).mono fun e w' ⟨he, L', hp, hs, _⟩ => ⟨he, L', ⟨⟨_, hp, prep_crash h2 keep, ?_⟩, Dk.ok_crash h.ok keep, ?_, ?_, ?_⟩, hs⟩
  · unfold pcrash
    split
    · exact hf.keep
    · exact Nat.zero_le _
  · exact Nat.le_trans (crash_q d keep).1 h.q
  · exact Nat.le_trans (crash_q d keep).2.1 h.armed
  · rw [(crash_q d keep).2.2]; exact h.lost

theorem pcrash_keep (p : Dk) (keep : List Int) (h : p.keep.length ≤ 1099511627776) : (pcrash p keep).keep.length ≤ 1099511627776 := by
  unfold pcrash
  split
  · exact h
  · exact Nat.zero_le _
theorem counted_lim {d : Dk} (w : Bool) {p : Dk × Int} {n : Nat} (hq : d.q.length ≤ n) (hp : p.1.q.length ≤ n) (ha : d.armed ≤ 9223372036854775807) (hpa : p.1.armed = d.armed) (hl : d.lost ≤ 9223372036854775807) (hpl : p.1.lost ≤ 9223372036854775807) :
    (d.counted w p).1.q.length ≤ n ∧ (d.counted w p).1.armed ≤ 9223372036854775807 ∧ (d.counted w p).1.lost ≤ 9223372036854775807 := by
  unfold Dk.counted
  split
  · exact ⟨hq, ha, hl⟩
  · split
    · cases w with
      | true =>
        simp only [if_true]
        obtain ⟨c1, c2, c3⟩ := crash_q p.1 d.keep
        exact ⟨by omega, by omega, by rw [c3]; exact hpl⟩
      | false =>
        simp only [Bool.false_eq_true, if_false]
        obtain ⟨c1, c2, c3⟩ := crash_q d d.keep
        exact ⟨by omega, by omega, by rw [c3]; exact hl⟩
    · exact ⟨hp, by simp only; omega, hpl⟩

theorem mSync {r : Nat} {L : Lay} {d : Dk} {n : Nat} {w : World} (h : DAt r L d n w) (hn : n ≤ 137438953472) {f : Int} (h64 : In64 f) :
    Calls Tryd.prog 17 #[.pointer (some ⟨r, 0, none⟩), .int .i64 f] w (MLeft r L (d.sync f).1 n (.int .i64 (d.sync f).2) w) := by
  obtain ⟨p, h1, h2, hf⟩ := h.fits hn
  obtain ⟨g1, g2⟩ := prep_sync h2 f
  have hl := counted_lim (d := d) false (p := d.sync0 f) h.q (by
    unfold Dk.sync0
    split
    · exact h.q
    · split
      · exact h.q
      · exact Nat.le_trans (List.length_filter_le _ _) h.q) h.armed (armed_sync0 d f) h.lost (by
    have := h.lost
    unfold Dk.sync0
    split
    · exact h.lost
    · split
      · simp only; omega
      · exact h.lost)
  refine (pSync_any r L p f w h1 hf h64).mono fun e w' ⟨he, L', hp, hs, _⟩ => ⟨by rw [he, g2], L', ⟨⟨_, hp, g1, ?_⟩, Dk.ok_sync h.ok f, hl.1, hl.2.1, hl.2.2⟩, hs⟩
  unfold psync
  split
  · exact hf.keep
  · split
    · exact pcrash_keep _ _ hf.keep
    · rw [Dk.keep_sync0]; exact hf.keep
theorem mTrunc {r : Nat} {L : Lay} {d : Dk} {n : Nat} {w : World} (h : DAt r L d n w) (hn : n ≤ 137438953472) {f k : Int} (h64 : In64 f) (hk64 : In64 k) :
    Calls Tryd.prog 19 #[.pointer (some ⟨r, 0, none⟩), .int .i64 f, .int .i64 k] w (MLeft r L (d.trunc f k).1 n (.int .i64 (d.trunc f k).2) w) := by
  obtain ⟨p, h1, h2, hf⟩ := h.fits hn
  obtain ⟨g1, g2⟩ := prep_trunc h2 f k
  have hl := counted_lim (d := d) false (p := d.trunc0 f k) h.q (by
    unfold Dk.trunc0
    split
    · exact h.q
    · split
      · exact h.q
      · exact Nat.le_trans (List.length_filter_le _ _) h.q) h.armed (armed_trunc0 d f k) h.lost (by
    unfold Dk.trunc0 Dk.settle
    repeat' split
    all_goals exact h.lost)
  refine (pTruncate_any r L p f k w h1 hf h64 hk64).mono fun e w' ⟨he, L', hp, hs, _⟩ => ⟨by rw [he, g2], L', ⟨⟨_, hp, g1, ?_⟩, Dk.ok_trunc h.ok f k, hl.1, hl.2.1, hl.2.2⟩, hs⟩
  unfold ptrunc
  split
  · exact hf.keep
  · split
    · exact pcrash_keep _ _ hf.keep
    · rw [Dk.keep_trunc0]; exact hf.keep
theorem mWrite {r : Nat} {L : Lay} {d : Dk} {n : Nat} {w : World} (h : DAt r L d n w) (hn : n ≤ 137438953472) {f a : Int} (h64 : In64 f) (ha64 : In64 a) (s : ByteArray) (hs : s.size ≤ 16777216) :
    Calls Tryd.prog 11 #[.pointer (some ⟨r, 0, none⟩), .int .i64 f, .int .i64 a, .string s] w (MLeft r L (d.write f a s.data.toList).1 (n + s.size + 2) (.int .i64 (d.write f a s.data.toList).2) w) := by
  obtain ⟨p, h1, h2, hf⟩ := h.fits hn
  obtain ⟨g1, g2⟩ := prep_write h2 f a s.data.toList
  have hsl : s.data.toList.length = s.size := Array.length_toList
  have hq0 := h.q
  have hl := counted_lim (d := d) (n := n + s.size + 2) true (p := d.write0 f a s.data.toList) (by omega) (by
    unfold Dk.write0
    split
    · simp only; omega
    · split
      · simp only; omega
      · split
        · simp only; omega
        · unfold Dk.add
          split
          · simp only; omega
          · have := marks_len f ((a.toNat + s.data.toList.length - 1) / 64 + 1 - a.toNat / 64) d.q (a.toNat / 64)
            simp only
            omega) h.armed (armed_write0 d f a _).1 h.lost (by
    unfold Dk.write0 Dk.add
    repeat' split
    all_goals exact h.lost)
  refine (pWrite_any r L p f a s w h1 hf h64 ha64 hs).mono fun e w' ⟨he, L', hp, hs, _⟩ => ⟨by rw [he, g2], L', ⟨⟨_, hp, g1, ?_⟩, Dk.ok_write h.ok f a _, hl.1, hl.2.1, hl.2.2⟩, hs⟩
  unfold pwrite
  split
  · exact hf.keep
  · split
    · exact pcrash_keep _ _ (by rw [Dk.keep_write0]; exact hf.keep)
    · rw [Dk.keep_write0]; exact hf.keep

/-- what a read gives. -/
def MRead (res : List UInt8 × Int) (w : World) (e : Ending) (w' : World) : Prop :=
  ∃ s : ByteArray, e = .returned (.tuple #[.string s, .int .i64 res.2]) ∧ s.data.toList = res.1 ∧ Below w.heap.size w w'
theorem mRead {r : Nat} {L : Lay} {d : Dk} {n : Nat} {w : World} (h : DAt r L d n w) (hn : n ≤ 137438953472) {f a k : Int} (h64 : In64 f) (ha64 : In64 a) (hk64 : In64 k) :
    Calls Tryd.prog 10 #[.pointer (some ⟨r, 0, none⟩), .int .i64 f, .int .i64 a, .int .i64 k] w (MRead (d.read f a k) w) := by
  obtain ⟨p, h1, h2, hf⟩ := h.fits hn
  have e : p.read f a k = d.read f a k := by unfold Dk.read; rw [h2.down, h2.now]
  rw [← e]
  exact (pRead_any r L p f a k w h1 hf h64 ha64 hk64).mono fun e w' h => h

/-- a new disk, apart from all that was there. -/
def MNew (d : Dk) (n : Nat) (w : World) (e : Ending) (w' : World) : Prop :=
  ∃ r L, e = .returned (.pointer (some ⟨r, 0, none⟩)) ∧ DAt r L d n w' ∧ Below w.heap.size w w' ∧ ∀ b, Own r L b → w.heap.size ≤ b
theorem mNew (w : World) : Calls Tryd.prog 6 #[] w (MNew Dk.new 0 w) :=
  (pNew_any w).mono fun e w' ⟨r, L, he, hp, hb, ho⟩ => ⟨r, L, he, ⟨⟨_, hp, PRep.refl _, Nat.zero_le _⟩, Dk.ok_new, Nat.le_refl _, Nat.zero_le _, Nat.zero_le _⟩, hb, ho⟩
end Go.Proofs.YtncadnmoiiiahaaDoor
