/-
  The program's disk is the model's: contracts of its methods over the model.
  Contracts of the program's methods over the model.
-/
import Derived.Test.YtbpkcgkcamkggaaGreatDoorT924
set_option linter.unusedVariables false
set_option maxRecDepth 100000
namespace Go.Proofs.YtbpkcgkcamkggaaGreatDoor
open Go.RowKit

/-- the program's disk p is the disk d, but for what a crash that is not scheduled would keep. -/
structure PRep (p d : Dk) : Prop where
  eq : p = { d with keep := p.keep }
  keep : d.armed ≠ 0 → p.keep = d.keep

theorem PRep.now {p d : Dk} (h : PRep p d) : p.now = d.now := by rw [h.eq]
theorem PRep.last {p d : Dk} (h : PRep p d) : p.last = d.last := by rw [h.eq]
theorem PRep.q {p d : Dk} (h : PRep p d) : p.q = d.q := by rw [h.eq]
theorem PRep.lost {p d : Dk} (h : PRep p d) : p.lost = d.lost := by rw [h.eq]
theorem PRep.down {p d : Dk} (h : PRep p d) : p.down = d.down := by rw [h.eq]
theorem PRep.armed {p d : Dk} (h : PRep p d) : p.armed = d.armed := by rw [h.eq]
theorem PRep.mk' {p d : Dk} (h1 : p.now = d.now) (h2 : p.last = d.last) (h3 : p.q = d.q) (h4 : p.lost = d.lost) (h5 : p.down = d.down) (h6 : p.armed = d.armed) (h7 : d.armed ≠ 0 → p.keep = d.keep) : PRep p d :=
  ⟨by cases p; cases d; simp only at *; subst h1; subst h2; subst h3; subst h4; subst h5; subst h6; rfl, h7⟩
theorem PRep.refl (d : Dk) : PRep d d := ⟨rfl, fun _ => rfl⟩

theorem prep_crash {p d : Dk} (h : PRep p d) (keep : List Int) : PRep (pcrash p keep) (d.crash keep) := by
  unfold pcrash Dk.crash
  rw [h.down]
  by_cases c : d.down = true
  · rw [if_pos c, if_pos c]; exact h
  · rw [if_neg c, if_neg c, if_neg c]
    have e : p.crashed keep = d.crashed keep := by unfold Dk.crashed; rw [h.now, h.last, h.q]
    exact PRep.mk' e e rfl h.lost rfl rfl (fun e => absurd rfl e)

theorem prep_add {p d : Dk} (h : PRep p d) (f : Int) (a : Nat) (s : List UInt8) : PRep (p.add f a s) (d.add f a s) := by
  unfold Dk.add
  split
  · exact h
  · exact PRep.mk' (by simp only [h.now]) h.last (by simp only [h.q]) h.lost h.down h.armed h.keep
theorem prep_settle {p d : Dk} (h : PRep p d) (f : Int) (s : List UInt8) : PRep (p.settle f s) (d.settle f s) := by
  unfold Dk.settle
  exact PRep.mk' (by simp only [h.now]) (by simp only [h.last]) (by simp only [h.q]) h.lost h.down h.armed h.keep
theorem prep_write0 {p d : Dk} (h : PRep p d) (f a : Int) (s : List UInt8) : PRep (p.write0 f a s).1 (d.write0 f a s).1 ∧ (p.write0 f a s).2 = (d.write0 f a s).2 := by
  unfold Dk.write0
  split
  · exact ⟨h, rfl⟩
  split
  · exact ⟨h, rfl⟩
  split
  · exact ⟨h, rfl⟩
  exact ⟨prep_add h _ _ _, rfl⟩
theorem prep_sync0 {p d : Dk} (h : PRep p d) (f : Int) : PRep (p.sync0 f).1 (d.sync0 f).1 ∧ (p.sync0 f).2 = (d.sync0 f).2 := by
  unfold Dk.sync0
  by_cases c : ¬ Dk.fileOk f
  · rw [if_pos c, if_pos c]; exact ⟨h, rfl⟩
  · rw [if_neg c, if_neg c, h.lost]
    by_cases c2 : 0 < d.lost
    · rw [if_pos c2, if_pos c2]
      exact ⟨PRep.mk' h.now h.last h.q rfl h.down h.armed h.keep, rfl⟩
    · rw [if_neg c2, if_neg c2, h.now]
      exact ⟨prep_settle h _ _, rfl⟩
theorem prep_trunc0 {p d : Dk} (h : PRep p d) (f n : Int) : PRep (p.trunc0 f n).1 (d.trunc0 f n).1 ∧ (p.trunc0 f n).2 = (d.trunc0 f n).2 := by
  unfold Dk.trunc0
  rw [h.now]
  split
  · exact ⟨h, rfl⟩
  split
  · exact ⟨h, rfl⟩
  exact ⟨prep_settle h _ _, rfl⟩

/-- a disk whose count is one less. -/
theorem prep_due {p d : Dk} (h : PRep p d) : PRep (due p) (due d) := by
  unfold due
  exact PRep.mk' h.now h.last h.q h.lost h.down (by simp only [h.armed]) (fun e => h.keep (fun e2 => e (by simp only [e2])))
theorem crash_due (d : Dk) (h : d.down = false) (keep : List Int) : (due d).crash keep = d.crash keep := by
  unfold due Dk.crash
  rw [h]
  rfl
theorem write0_due (d : Dk) (f a : Int) (s : List UInt8) : (due d).write0 f a s = (due (d.write0 f a s).1, (d.write0 f a s).2) := by
  unfold Dk.write0 Dk.add
  repeat' split
  all_goals rfl
theorem sync0_due (d : Dk) (f : Int) : (due d).sync0 f = (due (d.sync0 f).1, (d.sync0 f).2) := by
  unfold Dk.sync0
  split
  · rfl
  · by_cases c : 0 < d.lost
    · rw [if_pos c, if_pos (show 0 < (due d).lost from c)]; rfl
    · rw [if_neg c, if_neg (show ¬ 0 < (due d).lost from c)]; rfl
theorem trunc0_due (d : Dk) (f n : Int) : (due d).trunc0 f n = (due (d.trunc0 f n).1, (d.trunc0 f n).2) := by
  unfold Dk.trunc0
  split
  · rfl
  · by_cases c : n < 0 ∨ ((d.now f).length : Int) < n
    · rw [if_pos c, if_pos (show n < 0 ∨ (((due d).now f).length : Int) < n from c)]
    · rw [if_neg c, if_neg (show ¬ (n < 0 ∨ (((due d).now f).length : Int) < n) from c)]; rfl
theorem armed_write0 (d : Dk) (f a : Int) (s : List UInt8) : (d.write0 f a s).1.armed = d.armed ∧ (d.write0 f a s).1.down = d.down := by
  unfold Dk.write0 Dk.add
  repeat' split
  all_goals exact ⟨rfl, rfl⟩
theorem armed_sync0 (d : Dk) (f : Int) : (d.sync0 f).1.armed = d.armed := by
  unfold Dk.sync0 Dk.settle
  repeat' split
  all_goals rfl
theorem armed_trunc0 (d : Dk) (f n : Int) : (d.trunc0 f n).1.armed = d.armed := by
  unfold Dk.trunc0 Dk.settle
  repeat' split
  all_goals rfl

theorem due_eq {p : Dk} {n : Nat} (h : p.armed = n) : due p = { p with armed := n - 1 } := by unfold due; rw [h]

theorem prep_write {p d : Dk} (h : PRep p d) (f a : Int) (s : List UInt8) : PRep (pwrite p f a s).1 (d.write f a s).1 ∧ (pwrite p f a s).2 = (d.write f a s).2 := by
  unfold pwrite
  rw [Dk.write, Dk.counted, h.down, h.armed]
  by_cases c : d.down = true
  · rw [if_pos c, if_pos c]; exact ⟨h, rfl⟩
  · have c' : d.down = false := by simpa using c
    rw [if_neg c, if_neg c]
    obtain ⟨g1, g2⟩ := prep_write0 (prep_due h) f a s
    by_cases c1 : d.armed = 1
    · rw [if_pos c1, if_pos c1, if_pos rfl]
      have hk : ((due p).write0 f a s).1.keep = d.keep := by rw [Dk.keep_write0]; exact h.keep (by omega)
      rw [hk]
      refine ⟨?_, rfl⟩
      have h1 := prep_crash g1 d.keep
      have e : ((due d).write0 f a s).1.crash d.keep = (d.write0 f a s).1.crash d.keep := by
        rw [write0_due d]
        exact crash_due _ (by rw [(armed_write0 d f a s).2]; exact c') _
      rw [e] at h1
      exact h1
    · rw [if_neg c1, if_neg c1]
      rw [write0_due d] at g1 g2
      refine ⟨?_, g2⟩
      have e := due_eq (armed_write0 d f a s).1
      rw [e] at g1
      exact g1
theorem prep_sync {p d : Dk} (h : PRep p d) (f : Int) : PRep (psync p f).1 (d.sync f).1 ∧ (psync p f).2 = (d.sync f).2 := by
  unfold psync
  rw [Dk.sync, Dk.counted, h.down, h.armed]
  by_cases c : d.down = true
  · rw [if_pos c, if_pos c]; exact ⟨h, rfl⟩
  · have c' : d.down = false := by simpa using c
    rw [if_neg c, if_neg c]
    by_cases c1 : d.armed = 1
    · rw [if_pos c1, if_pos c1, if_neg (by decide)]
      have hk : (due p).keep = d.keep := h.keep (by omega)
      rw [hk]
      have := prep_crash (prep_due h) d.keep
      rw [crash_due _ c'] at this
      exact ⟨this, rfl⟩
    · rw [if_neg c1, if_neg c1]
      obtain ⟨g1, g2⟩ := prep_sync0 (prep_due h) f
      rw [sync0_due d] at g1 g2
      refine ⟨?_, g2⟩
      have e := due_eq (armed_sync0 d f)
      rw [e] at g1
      exact g1
theorem prep_trunc {p d : Dk} (h : PRep p d) (f n : Int) : PRep (ptrunc p f n).1 (d.trunc f n).1 ∧ (ptrunc p f n).2 = (d.trunc f n).2 := by
  unfold ptrunc
  rw [Dk.trunc, Dk.counted, h.down, h.armed]
  by_cases c : d.down = true
  · rw [if_pos c, if_pos c]; exact ⟨h, rfl⟩
  · have c' : d.down = false := by simpa using c
    rw [if_neg c, if_neg c]
    by_cases c1 : d.armed = 1
    · rw [if_pos c1, if_pos c1, if_neg (by decide)]
      have hk : (due p).keep = d.keep := h.keep (by omega)
      rw [hk]
      have := prep_crash (prep_due h) d.keep
      rw [crash_due _ c'] at this
      exact ⟨this, rfl⟩
    · rw [if_neg c1, if_neg c1]
      obtain ⟨g1, g2⟩ := prep_trunc0 (prep_due h) f n
      rw [trunc0_due d] at g1 g2
      refine ⟨?_, g2⟩
      have e := due_eq (armed_trunc0 d f n)
      rw [e] at g1
      exact g1

end Go.Proofs.YtbpkcgkcamkggaaGreatDoor
namespace Go.Proofs.YtbpkcgkcamkggaaGreatDoor
open Go.RowKit

/-- the program's disk at r is the model's disk d, with at most n pending sectors. -/
structure DAt (r : Nat) (L : Lay) (d : Dk) (n : Nat) (w : World) : Prop where
  ex : ∃ p, PAt r L p w ∧ PRep p d ∧ p.keep.length ≤ 1099511627776
  ok : Dk.Ok d
  q : d.q.length ≤ n
  armed : d.armed ≤ 9223372036854775807
  lost : d.lost ≤ 9223372036854775807

theorem DAt.fits {r : Nat} {L : Lay} {d : Dk} {n : Nat} {w : World} (h : DAt r L d n w) (hn : n ≤ 137438953472) : ∃ p, PAt r L p w ∧ PRep p d ∧ Fits p := by
  obtain ⟨p, h1, h2, h3⟩ := h.ex
  exact ⟨p, h1, h2, ⟨Dk.ok_of h.ok h2.now h2.last h2.q, by rw [h2.q]; exact Nat.le_trans h.q hn, h3, by rw [h2.armed]; exact h.armed, by rw [h2.lost]; exact h.lost⟩⟩
theorem DAt.mono {r : Nat} {L : Lay} {d : Dk} {n m : Nat} {w : World} (h : DAt r L d n w) (hn : n ≤ m) : DAt r L d m w := ⟨h.ex, h.ok, Nat.le_trans h.q hn, h.armed, h.lost⟩
theorem DAt.kept {r : Nat} {L : Lay} {d : Dk} {n : Nat} {w w' : World} (h : DAt r L d n w) (hk : ∀ b c z T, (Own r L b ∨ w.heap[b]? = some (.cells c T z) ∧ T = 3) → b < w.heap.size → w'.heap[b]? = w.heap[b]?) : DAt r L d n w' := by
  obtain ⟨p, h1, h2, h3⟩ := h.ex
  refine ⟨⟨p, h1.kept fun b hb => ?_, h2, h3⟩, h.ok, h.q, h.armed, h.lost⟩
  have hl := h1.own_lt hb
  rcases hb with hb | hb
  · exact hk b #[] (0, 0) 3 (.inl hb) hl
  · obtain ⟨c, hc⟩ := ownKind h1.raw.keep hb
    exact hk b c (0, 0) 3 (.inr ⟨hc, rfl⟩) hl
theorem DAt.below {r : Nat} {L : Lay} {d : Dk} {n : Nat} {w w' : World} (h : DAt r L d n w) (hb : Below w.heap.size w w') : DAt r L d n w' := h.kept fun b _ _ _ _ hl => hb.block b hl
theorem DAt.own_lt {r : Nat} {L : Lay} {d : Dk} {n : Nat} {w : World} (h : DAt r L d n w) {b : Nat} (hb : Own r L b) : b < w.heap.size := by
  obtain ⟨p, h1, _⟩ := h.ex
  exact h1.own_lt (.inl hb)
/-- no block of ints is a disk's own. -/
theorem DAt.int_free {r : Nat} {L : Lay} {d : Dk} {n : Nat} {w : World} (h : DAt r L d n w) {b : Nat} {c : Array Value} {T : TypeId} {z : Nat × Nat} (hb : w.heap[b]? = some (.cells c T z)) (h1 : T ≠ 60) (h2 : T ≠ 64) (h3 : T ≠ 5) (h4 : T ≠ 80) : ¬ Own r L b := by
  obtain ⟨p, hp, _⟩ := h.ex
  rintro (rfl | rfl | ho | ho)
  · rw [hp.raw.cell] at hb
    simp only [Option.some.injEq, Obj.cells.injEq] at hb
    exact h1 hb.2.1.symm
  · obtain ⟨es, cc, hm⟩ := hp.raw.set.isMap
    rw [hm] at hb; cases hb
  · exact other_kind hp.queue hb h4 ho
  · exact hp.raw.files.free hb h2 h3 ho

/-- two disks share nothing that is written. -/
def Apart (r : Nat) (L : Lay) (r2 : Nat) (L2 : Lay) : Prop := ∀ b, Own r L b → ¬ Own r2 L2 b
/-- a step of the one leaves the other. -/
theorem DAt.far {r r2 : Nat} {L L' L2 : Lay} {d d2 : Dk} {n n2 : Nat} {w w' : World} (h2 : DAt r2 L2 d2 n2 w) (h : DAt r L d n w) (ha : Apart r L r2 L2) (k : PStep r L L' w w') : DAt r2 L2 d2 n2 w' ∧ Apart r L' r2 L2 := by
  refine ⟨h2.kept fun b c z T hb hl => k.fr.block b hl (fun ho => ?_), fun b hb ho => ?_⟩
  · rcases hb with hb | ⟨hb, hT⟩
    · exact ha b ho hb
    · subst hT
      exact h.int_free hb (by decide) (by decide) (by decide) (by decide) ho
  · rcases k.own b hb with h1 | h1
    · exact ha b h1 ho
    · have := h2.own_lt ho
      omega
theorem Apart.symm {r r2 : Nat} {L L2 : Lay} (h : Apart r L r2 L2) : Apart r2 L2 r L := fun b h1 h2 => h b h2 h1

/-- what a method leaves, over the model. -/
def MLeft (r : Nat) (L : Lay) (d' : Dk) (n' : Nat) (res : Value) (w : World) (e : Ending) (w' : World) : Prop :=
  e = .returned res ∧ ∃ L', DAt r L' d' n' w' ∧ PStep r L L' w w'

theorem mSize {r : Nat} {L : Lay} {d : Dk} {n : Nat} {w : World} (h : DAt r L d n w) {f : Int} (h64 : In64 f) : Calls Tryz.prog 27 #[.pointer (some ⟨r, 0, none⟩), .int .i64 f] w fun e w' => e = .returned (.int .i64 ((d.now f).length : Int)) ∧ w' = w := by
  obtain ⟨p, h1, h2, _⟩ := h.ex
  rw [← h2.now]
  exact pSize_any r L p f w h1 (Dk.ok_of h.ok h2.now h2.last h2.q) h64
theorem mStart {r : Nat} {L : Lay} {d : Dk} {n : Nat} {w : World} (h : DAt r L d n w) : Calls Tryz.prog 22 #[.pointer (some ⟨r, 0, none⟩)] w (MLeft r L d.start n (.tuple #[]) w) := by
  obtain ⟨p, h1, h2, h3⟩ := h.ex
  refine (pStart_any r L p w h1).mono fun e w' ⟨he, hp, hs⟩ => ⟨he, L, ⟨⟨_, hp, ?_, h3⟩, Dk.ok_start h.ok, h.q, h.armed, h.lost⟩, hs⟩
  exact PRep.mk' h2.now h2.last h2.q h2.lost rfl h2.armed h2.keep
theorem mLose {r : Nat} {L : Lay} {d : Dk} {n : Nat} {w : World} (h : DAt r L d n w) {k : Int} (h64 : In64 k) : Calls Tryz.prog 16 #[.pointer (some ⟨r, 0, none⟩), .int .i64 k] w (MLeft r L (d.lose k) n (.tuple #[]) w) := by
  obtain ⟨p, h1, h2, h3⟩ := h.ex
  refine (pLose_any r L p k w h1 h64).mono fun e w' ⟨he, hp, hs⟩ => ⟨he, L, ⟨⟨_, hp, ?_, h3⟩, Dk.ok_lose h.ok k, h.q, h.armed, ?_⟩, hs⟩
  · exact PRep.mk' h2.now h2.last h2.q rfl h2.down h2.armed h2.keep
  · have := h64.2
    show k.toNat ≤ _
    omega
theorem mArm {r : Nat} {L : Lay} {d : Dk} {n : Nat} {w : World} (h : DAt r L d n w) {k : Int} (h64 : In64 k) {v : Value} {keep : List Int} (hk : IRow w v keep) (hkl : keep.length ≤ 1099511627776) :
    Calls Tryz.prog 18 #[.pointer (some ⟨r, 0, none⟩), .int .i64 k, v] w (MLeft r L (d.arm k keep) n (.tuple #[]) w) := by
  obtain ⟨p, h1, h2, h3⟩ := h.ex
  refine (pArm_any r L p k v keep w h1 h64 hk hkl).mono fun e w' ⟨he, L', hp, hs, _⟩ => ⟨he, L', ⟨⟨_, hp, ?_, hkl⟩, Dk.ok_arm h.ok k keep, h.q, ?_, h.lost⟩, hs⟩
  · exact PRep.mk' h2.now h2.last h2.q h2.lost h2.down rfl (fun _ => rfl)
  · have := h64.2
    show k.toNat ≤ _
    omega
theorem crash_q (d : Dk) (keep : List Int) : (d.crash keep).q.length ≤ d.q.length ∧ (d.crash keep).armed ≤ d.armed ∧ (d.crash keep).lost = d.lost := by
  unfold Dk.crash
  split
  · exact ⟨Nat.le_refl _, Nat.le_refl _, rfl⟩
  · exact ⟨Nat.zero_le _, Nat.zero_le _, rfl⟩
theorem mCrash {r : Nat} {L : Lay} {d : Dk} {n : Nat} {w : World} (h : DAt r L d n w) (hn : n ≤ 137438953472) {v : Value} {keep : List Int} (hk : KRd r L w v keep) (hkl : keep.length ≤ 1099511627776) :
    Calls Tryz.prog 20 #[.pointer (some ⟨r, 0, none⟩), v] w (MLeft r L (d.crash keep) n (.tuple #[]) w) := by
  obtain ⟨p, h1, h2, hf⟩ := h.fits hn
  refine (crash_any r L p v keep w h1 hf.ok hk hkl (Nat.le_trans hf.q (by omega))).mono fun e w' ⟨he, L', hp, hs, _⟩ => ⟨he, L', ⟨⟨_, hp, prep_crash h2 keep, ?_⟩, Dk.ok_crash h.ok keep, ?_, ?_, ?_⟩, hs⟩
  · unfold pcrash
    split
    · exact hf.keep
    · exact Nat.zero_le _
  · exact Nat.le_trans (crash_q d keep).1 h.q
  · exact Nat.le_trans (crash_q d keep).2.1 h.armed
  · rw [(crash_q d keep).2.2]; exact h.lost

theorem pcrash_keep (p : Dk) (keep : List Int) (h : p.keep.length ≤ 1099511627776) : (pcrash p keep).keep.length ≤ 1099511627776 := by
  unfold pcrash
  split
  · exact h
  · exact Nat.zero_le _
theorem counted_lim {d : Dk} (w : Bool) {p : Dk × Int} {n : Nat} (hq : d.q.length ≤ n) (hp : p.1.q.length ≤ n) (ha : d.armed ≤ 9223372036854775807) (hpa : p.1.armed = d.armed) (hl : d.lost ≤ 9223372036854775807) (hpl : p.1.lost ≤ 9223372036854775807) :
    (d.counted w p).1.q.length ≤ n ∧ (d.counted w p).1.armed ≤ 9223372036854775807 ∧ (d.counted w p).1.lost ≤ 9223372036854775807 := by
  unfold Dk.counted
  split
  · exact ⟨hq, ha, hl⟩
  · split
    · cases w with
      | true =>
        simp only [if_true]
        obtain ⟨c1, c2, c3⟩ := crash_q p.1 d.keep
        exact ⟨by omega, by omega, by rw [c3]; exact hpl⟩
      | false =>
        simp only [Bool.false_eq_true, if_false]
        obtain ⟨c1, c2, c3⟩ := crash_q d d.keep
        exact ⟨by omega, by omega, by rw [c3]; exact hl⟩
    · exact ⟨hp, by simp only; omega, hpl⟩

theorem mSync {r : Nat} {L : Lay} {d : Dk} {n : Nat} {w : World} (h : DAt r L d n w) (hn : n ≤ 137438953472) {f : Int} (h64 : In64 f) :
    Calls Tryz.prog 33 #[.pointer (some ⟨r, 0, none⟩), .int .i64 f] w (MLeft r L (d.sync f).1 n (.int .i64 (d.sync f).2) w) := by
  obtain ⟨p, h1, h2, hf⟩ := h.fits hn
  obtain ⟨g1, g2⟩ := prep_sync h2 f
  have hl := counted_lim (d := d) false (p := d.sync0 f) h.q (by
    unfold Dk.sync0
    split
    · exact h.q
    · split
      · exact h.q
      · exact Nat.le_trans (List.length_filter_le _ _) h.q) h.armed (armed_sync0 d f) h.lost (by
    have := h.lost
    unfold Dk.sync0
    split
    · exact h.lost
    · split
      · simp only; omega
      · exact h.lost)
  refine (pSync_any r L p f w h1 hf h64).mono fun e w' ⟨he, L', hp, hs, _⟩ => ⟨by rw [he, g2], L', ⟨⟨_, hp, g1, ?_⟩, Dk.ok_sync h.ok f, hl.1, hl.2.1, hl.2.2⟩, hs⟩
  unfold psync
  split
  · exact hf.keep
  · split
    · exact pcrash_keep _ _ hf.keep
    · rw [Dk.keep_sync0]; exact hf.keep
theorem mTrunc {r : Nat} {L : Lay} {d : Dk} {n : Nat} {w : World} (h : DAt r L d n w) (hn : n ≤ 137438953472) {f k : Int} (h64 : In64 f) (hk64 : In64 k) :
    Calls Tryz.prog 35 #[.pointer (some ⟨r, 0, none⟩), .int .i64 f, .int .i64 k] w (MLeft r L (d.trunc f k).1 n (.int .i64 (d.trunc f k).2) w) := by
  obtain ⟨p, h1, h2, hf⟩ := h.fits hn
  obtain ⟨g1, g2⟩ := prep_trunc h2 f k
  have hl := counted_lim (d := d) false (p := d.trunc0 f k) h.q (by
    unfold Dk.trunc0
    split
    · exact h.q
    · split
      · exact h.q
      · exact Nat.le_trans (List.length_filter_le _ _) h.q) h.armed (armed_trunc0 d f k) h.lost (by
    unfold Dk.trunc0 Dk.settle
    repeat' split
    all_goals exact h.lost)
  refine (pTruncate_any r L p f k w h1 hf h64 hk64).mono fun e w' ⟨he, L', hp, hs, _⟩ => ⟨by rw [he, g2], L', ⟨⟨_, hp, g1, ?_⟩, Dk.ok_trunc h.ok f k, hl.1, hl.2.1, hl.2.2⟩, hs⟩
  unfold ptrunc
  split
  · exact hf.keep
  · split
    · exact pcrash_keep _ _ hf.keep
    · rw [Dk.keep_trunc0]; exact hf.keep
theorem mWrite {r : Nat} {L : Lay} {d : Dk} {n : Nat} {w : World} (h : DAt r L d n w) (hn : n ≤ 137438953472) {f a : Int} (h64 : In64 f) (ha64 : In64 a) (s : ByteArray) (hs : s.size ≤ 16777216) :
    Calls Tryz.prog 30 #[.pointer (some ⟨r, 0, none⟩), .int .i64 f, .int .i64 a, .string s] w (MLeft r L (d.write f a s.data.toList).1 (n + s.size + 2) (.int .i64 (d.write f a s.data.toList).2) w) := by
  obtain ⟨p, h1, h2, hf⟩ := h.fits hn
  obtain ⟨g1, g2⟩ := prep_write h2 f a s.data.toList
  have hsl : s.data.toList.length = s.size := Array.length_toList
  have hq0 := h.q
  have hl := counted_lim (d := d) (n := n + s.size + 2) true (p := d.write0 f a s.data.toList) (by omega) (by
    unfold Dk.write0
    split
    · simp only; omega
    · split
      · simp only; omega
      · split
        · simp only; omega
        · unfold Dk.add
          split
          · simp only; omega
          · have := marks_len f ((a.toNat + s.data.toList.length - 1) / 64 + 1 - a.toNat / 64) d.q (a.toNat / 64)
            simp only
            omega) h.armed (armed_write0 d f a _).1 h.lost (by
    unfold Dk.write0 Dk.add
    repeat' split
    all_goals exact h.lost)
  refine (pWrite_any r L p f a s w h1 hf h64 ha64 hs).mono fun e w' ⟨he, L', hp, hs, _⟩ => ⟨by rw [he, g2], L', ⟨⟨_, hp, g1, ?_⟩, Dk.ok_write h.ok f a _, hl.1, hl.2.1, hl.2.2⟩, hs⟩
  unfold pwrite
  split
  · exact hf.keep
  · split
    · exact pcrash_keep _ _ (by rw [Dk.keep_write0]; exact hf.keep)
    · rw [Dk.keep_write0]; exact hf.keep

/-- what a read gives. -/
def MRead (res : List UInt8 × Int) (w : World) (e : Ending) (w' : World) : Prop :=
  ∃ s : ByteArray, e = .returned (.tuple #[.string s, .int .i64 res.2]) ∧ s.data.toList = res.1 ∧ Below w.heap.size w w'
theorem mRead {r : Nat} {L : Lay} {d : Dk} {n : Nat} {w : World} (h : DAt r L d n w) (hn : n ≤ 137438953472) {f a k : Int} (h64 : In64 f) (ha64 : In64 a) (hk64 : In64 k) :
    Calls Tryz.prog 26 #[.pointer (some ⟨r, 0, none⟩), .int .i64 f, .int .i64 a, .int .i64 k] w (MRead (d.read f a k) w) := by
  obtain ⟨p, h1, h2, hf⟩ := h.fits hn
  have e : p.read f a k = d.read f a k := by unfold Dk.read; rw [h2.down, h2.now]
  rw [← e]
  exact (pRead_any r L p f a k w h1 hf h64 ha64 hk64).mono fun e w' h => h

/-- a new disk, apart from all that was there. -/
def MNew (d : Dk) (n : Nat) (w : World) (e : Ending) (w' : World) : Prop :=
  ∃ r L, e = .returned (.pointer (some ⟨r, 0, none⟩)) ∧ DAt r L d n w' ∧ Below w.heap.size w w' ∧ ∀ b, Own r L b → w.heap.size ≤ b
theorem mNew (w : World) : Calls Tryz.prog 6 #[] w (MNew Dk.new 0 w) :=
  (pNew_any w).mono fun e w' ⟨r, L, he, hp, hb, ho⟩ => ⟨r, L, he, ⟨⟨_, hp, PRep.refl _, Nat.zero_le _⟩, Dk.ok_new, Nat.le_refl _, Nat.zero_le _, Nat.zero_le _⟩, hb, ho⟩
end Go.Proofs.YtbpkcgkcamkggaaGreatDoor
