/-
  The program's disk is the model's: contracts of its methods over the model.
-/
import Derived.Test.YtncadnmoiiiahaaDoorMu
set_option linter.unusedVariables false
set_option maxRecDepth 100000
namespace Go.Proofs.YtncadnmoiiiahaaDoor
open Go.RowKit

/-- the program's disk p is the disk d, but for what a crash that is not scheduled would keep. -/
structure PRep (p d : Dk) : Prop where
  eq : p = { d with keep := p.keep }
  keep : d.armed ≠ 0 → p.keep = d.keep

theorem PRep.now {p d : Dk} (h : PRep p d) : p.now = d.now := by rw [h.eq]
theorem PRep.last {p d : Dk} (h : PRep p d) : p.last = d.last := by rw [h.eq]
theorem PRep.q {p d : Dk} (h : PRep p d) : p.q = d.q := by rw [h.eq]
theorem PRep.lost {p d : Dk} (h : PRep p d) : p.lost = d.lost := by rw [h.eq]
theorem PRep.down {p d : Dk} (h : PRep p d) : p.down = d.down := by rw [h.eq]
theorem PRep.armed {p d : Dk} (h : PRep p d) : p.armed = d.armed := by rw [h.eq]
theorem PRep.mk' {p d : Dk} (h1 : p.now = d.now) (h2 : p.last = d.last) (h3 : p.q = d.q) (h4 : p.lost = d.lost) (h5 : p.down = d.down) (h6 : p.armed = d.armed) (h7 : d.armed ≠ 0 → p.keep = d.keep) : PRep p d :=
  ⟨by cases p; cases d; simp only at *; subst h1; subst h2; subst h3; subst h4; subst h5; subst h6; rfl, h7⟩
theorem PRep.refl (d : Dk) : PRep d d := ⟨rfl, fun _ => rfl⟩

theorem prep_crash {p d : Dk} (h : PRep p d) (keep : List Int) : PRep (pcrash p keep) (d.crash keep) := by
  unfold pcrash Dk.crash
  rw [h.down]
  by_cases c : d.down = true
  · rw [if_pos c, if_pos c]; exact h
  · rw [if_neg c, if_neg c, if_neg c]
    have e : p.crashed keep = d.crashed keep := by unfold Dk.crashed; rw [h.now, h.last, h.q]
    exact PRep.mk' e e rfl h.lost rfl rfl (fun e => absurd rfl e)

theorem prep_add {p d : Dk} (h : PRep p d) (f : Int) (a : Nat) (s : List UInt8) : PRep (p.add f a s) (d.add f a s) := by
  unfold Dk.add
  split
  · exact h
  · exact PRep.mk' (by simp only [h.now]) h.last (by simp only [h.q]) h.lost h.down h.armed h.keep
theorem prep_settle {p d : Dk} (h : PRep p d) (f : Int) (s : List UInt8) : PRep (p.settle f s) (d.settle f s) := by
  unfold Dk.settle
  exact PRep.mk' (by simp only [h.now]) (by simp only [h.last]) (by simp only [h.q]) h.lost h.down h.armed h.keep
theorem prep_write0 {p d : Dk} (h : PRep p d) (f a : Int) (s : List UInt8) : PRep (p.write0 f a s).1 (d.write0 f a s).1 ∧ (p.write0 f a s).2 = (d.write0 f a s).2 := by
  unfold Dk.write0
  split
  · exact ⟨h, rfl⟩
  split
  · exact ⟨h, rfl⟩
  split
  · exact ⟨h, rfl⟩
  exact ⟨prep_add h _ _ _, rfl⟩
theorem prep_sync0 {p d : Dk} (h : PRep p d) (f : Int) : PRep (p.sync0 f).1 (d.sync0 f).1 ∧ (p.sync0 f).2 = (d.sync0 f).2 := by
  unfold Dk.sync0
  by_cases c : ¬ Dk.fileOk f
  · rw [if_pos c, if_pos c]; exact ⟨h, rfl⟩
  · rw [if_neg c, if_neg c, h.lost]
    by_cases c2 : 0 < d.lost
    · rw [if_pos c2, if_pos c2]
      exact ⟨PRep.mk' h.now h.last h.q rfl h.down h.armed h.keep, rfl⟩
    · rw [if_neg c2, if_neg c2, h.now]
      exact ⟨prep_settle h _ _, rfl⟩
theorem prep_trunc0 {p d : Dk} (h : PRep p d) (f n : Int) : PRep (p.trunc0 f n).1 (d.trunc0 f n).1 ∧ (p.trunc0 f n).2 = (d.trunc0 f n).2 := by
  unfold Dk.trunc0
  rw [h.now]
  split
  · exact ⟨h, rfl⟩
  split
  · exact ⟨h, rfl⟩
  exact ⟨prep_settle h _ _, rfl⟩

/-- a disk whose count is one less. -/
theorem prep_due {p d : Dk} (h : PRep p d) : PRep (due p) (due d) := by
  unfold due
  exact PRep.mk' h.now h.last h.q h.lost h.down (by simp only [h.armed]) (fun e => h.keep (fun e2 => e (by simp only [e2])))
theorem crash_due (d : Dk) (h : d.down = false) (keep : List Int) : (due d).crash keep = d.crash keep := by
  unfold due Dk.crash
  rw [h]
  rfl
theorem write0_due (d : Dk) (f a : Int) (s : List UInt8) : (due d).write0 f a s = (due (d.write0 f a s).1, (d.write0 f a s).2) := by
  unfold Dk.write0 Dk.add
  repeat' split
  all_goals rfl
theorem sync0_due (d : Dk) (f : Int) : (due d).sync0 f = (due (d.sync0 f).1, (d.sync0 f).2) := by
  unfold Dk.sync0
  split
  · rfl
  · by_cases c : 0 < d.lost
    · rw [if_pos c, if_pos (show 0 < (due d).lost from c)]; rfl
    · rw [if_neg c, if_neg (show ¬ 0 < (due d).lost from c)]; rfl
theorem trunc0_due (d : Dk) (f n : Int) : (due d).trunc0 f n = (due (d.trunc0 f n).1, (d.trunc0 f n).2) := by
  unfold Dk.trunc0
  split
  · rfl
  · by_cases c : n < 0 ∨ ((d.now f).length : Int) < n
    · rw [if_pos c, if_pos (show n < 0 ∨ (((due d).now f).length : Int) < n from c)]
    · rw [if_neg c, if_neg (show ¬ (n < 0 ∨ (((due d).now f).length : Int) < n) from c)]; rfl
theorem armed_write0 (d : Dk) (f a : Int) (s : List UInt8) : (d.write0 f a s).1.armed = d.armed ∧ (d.write0 f a s).1.down = d.down := by
  unfold Dk.write0 Dk.add
  repeat' split
  all_goals exact ⟨rfl, rfl⟩
theorem armed_sync0 (d : Dk) (f : Int) : (d.sync0 f).1.armed = d.armed := by
  unfold Dk.sync0 Dk.settle
  repeat' split
  all_goals rfl
theorem armed_trunc0 (d : Dk) (f n : Int) : (d.trunc0 f n).1.armed = d.armed := by
  unfold Dk.trunc0 Dk.settle
  repeat' split
  all_goals rfl

theorem due_eq {p : Dk} {n : Nat} (h : p.armed = n) : due p = { p with armed := n - 1 } := by unfold due; rw [h]

theorem prep_write {p d : Dk} (h : PRep p d) (f a : Int) (s : List UInt8) : PRep (pwrite p f a s).1 (d.write f a s).1 ∧ (pwrite p f a s).2 = (d.write f a s).2 := by
  unfold pwrite
  rw [Dk.write, Dk.counted, h.down, h.armed]
  by_cases c : d.down = true
  · rw [if_pos c, if_pos c]; exact ⟨h, rfl⟩
  · have c' : d.down = false := by simpa using c
    rw [if_neg c, if_neg c]
    obtain ⟨g1, g2⟩ := prep_write0 (prep_due h) f a s
    by_cases c1 : d.armed = 1
    · rw [if_pos c1, if_pos c1, if_pos rfl]
      have hk : ((due p).write0 f a s).1.keep = d.keep := by rw [Dk.keep_write0]; exact h.keep (by omega)
      rw [hk]
      refine ⟨?_, rfl⟩
      have h1 := prep_crash g1 d.keep
      have e : ((due d).write0 f a s).1.crash d.keep = (d.write0 f a s).1.crash d.keep := by
        rw [write0_due d]
        exact crash_due _ (by rw [(armed_write0 d f a s).2]; exact c') _
      rw [e] at h1
      exact h1
    · rw [if_neg c1, if_neg c1]
      rw [write0_due d] at g1 g2
      refine ⟨?_, g2⟩
      have e := due_eq (armed_write0 d f a s).1
      rw [e] at g1
      exact g1
theorem prep_sync {p d : Dk} (h : PRep p d) (f : Int) : PRep (psync p f).1 (d.sync f).1 ∧ (psync p f).2 = (d.sync f).2 := by
  unfold psync
  rw [Dk.sync, Dk.counted, h.down, h.armed]
  by_cases c : d.down = true
  · rw [if_pos c, if_pos c]; exact ⟨h, rfl⟩
  · have c' : d.down = false := by simpa using c
    rw [if_neg c, if_neg c]
    by_cases c1 : d.armed = 1
    · rw [if_pos c1, if_pos c1, if_neg (by decide)]
      have hk : (due p).keep = d.keep := h.keep (by omega)
      rw [hk]
      have := prep_crash (prep_due h) d.keep
      rw [crash_due _ c'] at this
      exact ⟨this, rfl⟩
    · rw [if_neg c1, if_neg c1]
      obtain ⟨g1, g2⟩ := prep_sync0 (prep_due h) f
      rw [sync0_due d] at g1 g2
      refine ⟨?_, g2⟩
      have e := due_eq (armed_sync0 d f)
      rw [e] at g1
      exact g1
theorem prep_trunc {p d : Dk} (h : PRep p d) (f n : Int) : PRep (ptrunc p f n).1 (d.trunc f n).1 ∧ (ptrunc p f n).2 = (d.trunc f n).2 := by
  unfold ptrunc
  rw [Dk.trunc, Dk.counted, h.down, h.armed]
  by_cases c : d.down = true
  · rw [if_pos c, if_pos c]; exact ⟨h, rfl⟩
  · have c' : d.down = false := by simpa using c
    rw [if_neg c, if_neg c]
    by_cases c1 : d.armed = 1
    · rw [if_pos c1, if_pos c1, if_neg (by decide)]
      have hk : (due p).keep = d.keep := h.keep (by omega)
      rw [hk]
      have := prep_crash (prep_due h) d.keep
      rw [crash_due _ c'] at this
      exact ⟨this, rfl⟩
    · rw [if_neg c1, if_neg c1]
      obtain ⟨g1, g2⟩ := prep_trunc0 (prep_due h) f n
      rw [trunc0_due d] at g1 g2
      refine ⟨?_, g2⟩
      have e := due_eq (armed_trunc0 d f n)
      rw [e] at g1
      exact g1

end Go.Proofs.YtncadnmoiiiahaaDoor
