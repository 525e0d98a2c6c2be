/-
  The reference's disk and the plain model (3): Sync, Truncate, Read, Lose, Arm, Start.
-/
import Derived.Test.YtkbffhlkbcdgnaaRl
set_option linter.unusedVariables false
namespace Go.Proofs.Ytkbffhlkbcdgnaa
open Go.RowKit

theorem added_nil (s : RSt) (f : Int) (a : Nat) : s.added f a [] = s := by unfold RSt.added; rw [if_pos rfl]
theorem come_hit {s : RSt} (hd : s.down = false) (h : s.armed = 1) : s.come 0 0 [] = RSt.crashed { s with armed := 0 } s.keep := by
  unfold RSt.come
  rw [if_neg (by rw [hd]; simp; omega), if_neg (by omega), added_nil]
  split <;> rfl

theorem rep_synced {s : RSt} {d : Dk} (h : Rep s d) (f : Int) : Rep (s.synced f).1 (d.sync f).1 ∧ (s.synced f).2 = (d.sync f).2 := by
  cases hd : s.down with
  | true =>
    have hd2 : d.down = true := by rw [← h.down]; exact hd
    unfold RSt.synced
    rw [come_down hd, hd, may_down, if_pos (by decide), Dk.sync, Dk.counted_down hd2]
    exact ⟨h, rfl⟩
  | false =>
    have hd2 : d.down = false := by rw [← h.down]; exact hd
    by_cases h1 : s.armed = 1
    · have ha2 : d.armed = 1 := by rw [← h.armed]; exact h1
      have hk : s.keep = d.keep := h.keep (by omega)
      have h0 := rep_arm h 0 (fun e => absurd rfl e)
      unfold RSt.synced
      rw [come_hit hd h1, crashed_down, may_down, if_pos (by decide), Dk.sync, Dk.counted_hit hd2 ha2, if_neg (c := false = true) (by decide), ← hk, ← crash_arm d hd2 s.keep 0]
      exact ⟨rep_crashed h0 _, rfl⟩
    · have ha2 : d.armed ≠ 1 := by rw [← h.armed]; exact h1
      have h0 := rep_arm h (s.armed - 1) (fun e => by rw [← h.armed]; omega)
      have hda : s.armed - 1 = d.armed - 1 := by rw [h.armed]
      rw [Dk.sync, Dk.counted_up hd2 ha2]
      unfold RSt.synced Dk.sync0
      rw [come_not hd h1]
      simp only [hd, may_up]
      simp only [hd] at h0
      by_cases hf : Dk.fileOk f
      · rw [if_pos (show 0 ≤ f ∧ f ≤ 15 from hf), if_neg (by decide), if_neg (Decidable.not_not.mpr hf)]
        by_cases hl : 0 < s.lost
        · rw [if_pos hl, if_pos (by rw [← h.lost]; exact hl), ← hda]
          exact ⟨⟨h.now, h.last, h.q, by simp only [h.lost], by simp only [hd2], rfl, h0.keep⟩, rfl⟩
        · rw [if_neg hl, if_neg (by rw [← h.lost]; exact hl), ← hda]
          have := rep_settled h0 f (rget s.fl f).2.1
          rw [h.now f] at this
          exact ⟨this, rfl⟩
      · rw [if_neg (show ¬ (0 ≤ f ∧ f ≤ 15) from hf), if_pos (by decide), if_pos hf, ← hda]
        exact ⟨h0, rfl⟩

theorem rep_cut {s : RSt} {d : Dk} (h : Rep s d) (f n : Int) : Rep (s.cut f n).1 (d.trunc f n).1 ∧ (s.cut f n).2 = (d.trunc f n).2 := by
  have hsz : (rget s.fl f).2.1.size = (d.now f).length := by rw [← h.now f]; exact Array.length_toList.symm
  cases hd : s.down with
  | true =>
    have hd2 : d.down = true := by rw [← h.down]; exact hd
    unfold RSt.cut
    rw [come_down hd, hd, may_down, if_pos (by decide), Dk.trunc, Dk.counted_down hd2]
    exact ⟨h, rfl⟩
  | false =>
    have hd2 : d.down = false := by rw [← h.down]; exact hd
    by_cases h1 : s.armed = 1
    · have ha2 : d.armed = 1 := by rw [← h.armed]; exact h1
      have hk : s.keep = d.keep := h.keep (by omega)
      have h0 := rep_arm h 0 (fun e => absurd rfl e)
      unfold RSt.cut
      rw [come_hit hd h1, crashed_down, may_down, if_pos (by decide), Dk.trunc, Dk.counted_hit hd2 ha2, if_neg (c := false = true) (by decide), ← hk, ← crash_arm d hd2 s.keep 0]
      exact ⟨rep_crashed h0 _, rfl⟩
    · have ha2 : d.armed ≠ 1 := by rw [← h.armed]; exact h1
      have h0 := rep_arm h (s.armed - 1) (fun e => by rw [← h.armed]; omega)
      have hda : s.armed - 1 = d.armed - 1 := by rw [h.armed]
      rw [Dk.trunc, Dk.counted_up hd2 ha2]
      unfold RSt.cut Dk.trunc0
      rw [come_not hd h1]
      simp only [hd, may_up, hsz]
      simp only [hd] at h0
      by_cases hf : Dk.fileOk f
      · rw [if_pos (show 0 ≤ f ∧ f ≤ 15 from hf), if_neg (by decide), if_neg (Decidable.not_not.mpr hf)]
        by_cases hl : n < 0 ∨ ((d.now f).length : Int) < n
        · rw [if_pos hl, if_pos hl, ← hda]
          exact ⟨h0, rfl⟩
        · rw [if_neg hl, if_neg hl, ← hda]
          have := rep_settled h0 f ((rget s.fl f).2.1.extract 0 n.toNat)
          rw [ext_part, h.now f, List.drop_zero, Nat.sub_zero] at this
          exact ⟨this, rfl⟩
      · rw [if_neg (show ¬ (0 ≤ f ∧ f ≤ 15) from hf), if_pos (by decide), if_pos hf, ← hda]
        exact ⟨h0, rfl⟩

theorem rep_read {s : RSt} {d : Dk} (h : Rep s d) (f a n : Int) : s.readR f a n = d.read f a n := by
  unfold RSt.readR Dk.read
  rw [h.down, h.now f]
  cases hd : d.down with
  | true => rw [may_down, if_pos (by decide), if_pos rfl]
  | false =>
    rw [may_up, if_neg (c := false = true) (by decide)]
    by_cases hf : Dk.fileOk f
    · rw [if_pos (show 0 ≤ f ∧ f ≤ 15 from hf), if_neg (by decide), if_neg (Decidable.not_not.mpr hf)]
    · rw [if_neg (show ¬ (0 ≤ f ∧ f ≤ 15) from hf), if_pos (by decide), if_pos hf]
theorem rep_lose {s : RSt} {d : Dk} (h : Rep s d) (n : Int) : Rep { s with lost := n.toNat } (d.lose n) := ⟨h.now, h.last, h.q, rfl, h.down, h.armed, h.keep⟩
theorem rep_armed {s : RSt} {d : Dk} (h : Rep s d) (n : Int) (keep : List Int) : Rep { s with armed := n.toNat, keep := keep } (d.arm n keep) := ⟨h.now, h.last, h.q, h.lost, h.down, rfl, fun _ => rfl⟩
theorem rep_start {s : RSt} {d : Dk} (h : Rep s d) : Rep { s with down := false } d.start := ⟨h.now, h.last, h.q, h.lost, rfl, h.armed, h.keep⟩

end Go.Proofs.Ytkbffhlkbcdgnaa
