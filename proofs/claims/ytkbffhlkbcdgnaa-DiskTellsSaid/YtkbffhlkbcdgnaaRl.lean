/-
  The reference's disk and the plain model (2): Write, Sync and Truncate.
-/
import Derived.Test.YtkbffhlkbcdgnaaRk
set_option linter.unusedVariables false
namespace Go.Proofs.Ytkbffhlkbcdgnaa
open Go.RowKit

theorem rep_arm {s : RSt} {d : Dk} (h : Rep s d) (n : Nat) (hk : n ≠ 0 → d.armed ≠ 0) : Rep { s with armed := n } { d with armed := n } :=
  ⟨h.now, h.last, h.q, h.lost, h.down, rfl, fun e => h.keep (hk e)⟩
theorem crash_arm (x : Dk) (hx : x.down = false) (k : List Int) (n : Nat) : ({ x with armed := n } : Dk).crash k = x.crash k := by
  unfold Dk.crash
  rw [if_neg (by simp only; rw [hx]; decide), if_neg (by rw [hx]; decide)]
  rfl
theorem add_arm (d : Dk) (f : Int) (a : Nat) (t : List UInt8) (n : Nat) : ({ d with armed := n } : Dk).add f a t = { d.add f a t with armed := n } := by
  unfold Dk.add; split <;> rfl
theorem add_down (d : Dk) (f : Int) (a : Nat) (t : List UInt8) : (d.add f a t).down = d.down := by
  unfold Dk.add; split <;> rfl
theorem added_down (s : RSt) (f : Int) (a : Nat) (t : List UInt8) : (s.added f a t).down = s.down := by
  unfold RSt.added; split <;> rfl

theorem come_zero {s : RSt} (h : s.armed = 0) (f a : Int) (t : List UInt8) : s.come f a t = s := by unfold RSt.come; rw [if_pos (.inr h)]
theorem come_down {s : RSt} (h : s.down = true) (f a : Int) (t : List UInt8) : s.come f a t = s := by unfold RSt.come; rw [if_pos (.inl h)]
theorem come_more {s : RSt} (hd : s.down = false) (h : 2 ≤ s.armed) (f a : Int) (t : List UInt8) : s.come f a t = { s with armed := s.armed - 1 } := by
  unfold RSt.come; rw [if_neg (by rw [hd]; simp; omega), if_pos h]
/-- ahead of the scheduled crash, or without one: what counts is only the number. -/
theorem come_not {s : RSt} (hd : s.down = false) (h : s.armed ≠ 1) (f a : Int) (t : List UInt8) : s.come f a t = { s with armed := s.armed - 1 } := by
  by_cases h0 : s.armed = 0
  · rw [come_zero h0, h0]; cases s; simp only at h0; subst h0; rfl
  · exact come_more hd (by omega) f a t
theorem may_down (f : Int) : mayOf true f = 8 := rfl
theorem may_up (f : Int) : mayOf false f = if 0 ≤ f ∧ f ≤ 15 then 0 else 1 := by unfold mayOf; rw [if_neg (by decide)]

theorem fits_of {a : Int} {n : Nat} (h : fitsB a n = true) : 0 ≤ a ∧ a + n ≤ 16777216 := by simpa [fitsB] using h
theorem fits_mk {a : Int} {n : Nat} (h0 : 0 ≤ a) (h1 : a + n ≤ 16777216) : fitsB a n = true := by simp [fitsB, h0, h1]
theorem fits_no {a : Int} {n : Nat} (h : 16777216 < a + n) : fitsB a n = false := by simp [fitsB]; omega

theorem rep_wrote {s : RSt} {d : Dk} (h : Rep s d) (f a : Int) (t : List UInt8) : Rep (s.wrote f a t).1 (d.write f a t).1 ∧ (s.wrote f a t).2 = (d.write f a t).2 := by
  cases hd : s.down with
  | true =>
    have hd2 : d.down = true := by rw [← h.down]; exact hd
    unfold RSt.wrote
    rw [come_down hd, hd, may_down, if_pos (by decide), Dk.write, Dk.counted_down hd2]
    exact ⟨h, rfl⟩
  | false =>
    have hd2 : d.down = false := by rw [← h.down]; exact hd
    by_cases h1 : s.armed = 1
    · have ha2 : d.armed = 1 := by rw [← h.armed]; exact h1
      have hk : s.keep = d.keep := h.keep (by omega)
      rw [Dk.write, Dk.counted_hit hd2 ha2, if_pos rfl]
      have hc : Rep (s.come f a t) ((d.write0 f a t).1.crash d.keep) := by
        have h0 := rep_arm h 0 (fun e => absurd rfl e)
        rw [← hk]
        unfold RSt.come
        rw [if_neg (by rw [hd]; simp; omega), if_neg (by omega)]
        unfold Dk.write0
        by_cases hf : Dk.fileOk f
        · rw [if_neg (Decidable.not_not.mpr hf)]
          by_cases ha0 : a < 0
          · rw [if_neg (fun hh => by have := (fits_of hh.2.2).1; omega), if_pos ha0, ← crash_arm d hd2 s.keep 0]
            exact rep_crashed h0 _
          · rw [if_neg ha0]
            by_cases hb : 16777216 < a + t.length
            · rw [if_neg (fun hh => by have := (fits_of hh.2.2).2; omega), if_pos hb, ← crash_arm d hd2 s.keep 0]
              exact rep_crashed h0 _
            · rw [if_pos ⟨hf.1, hf.2, fits_mk (by omega) (by omega)⟩, if_neg hb, ← crash_arm _ (by rw [add_down]; exact hd2) s.keep 0, ← add_arm]
              exact rep_crashed (rep_added h0 f a.toNat t) _
        · rw [if_pos hf, if_neg (fun hh => hf ⟨hh.1, hh.2.1⟩), ← crash_arm d hd2 s.keep 0]
          exact rep_crashed h0 _
      have hdn : (s.come f a t).down = true := by
        have := hc.down
        rw [this]
        unfold Dk.crash
        split
        · assumption
        · rfl
      unfold RSt.wrote
      rw [hdn, may_down, if_pos (by decide)]
      exact ⟨hc, rfl⟩
    · have ha2 : d.armed ≠ 1 := by rw [← h.armed]; exact h1
      have h0 := rep_arm h (s.armed - 1) (fun e => by rw [← h.armed]; omega)
      have hda : s.armed - 1 = d.armed - 1 := by rw [h.armed]
      rw [Dk.write, Dk.counted_up hd2 ha2]
      unfold RSt.wrote Dk.write0
      rw [come_not hd h1]
      simp only [hd, may_up]
      simp only [hd] at h0
      by_cases hf : Dk.fileOk f
      · rw [if_pos (show 0 ≤ f ∧ f ≤ 15 from hf), if_neg (by decide), if_neg (Decidable.not_not.mpr hf)]
        by_cases ha0 : a < 0
        · rw [if_pos ha0, if_pos ha0, ← hda]; exact ⟨h0, rfl⟩
        · rw [if_neg ha0, if_neg ha0]
          by_cases hb : 16777216 < a + t.length
          · rw [if_pos (fits_no (by omega)), if_pos hb, ← hda]; exact ⟨h0, rfl⟩
          · rw [if_neg (by rw [fits_mk (by omega) (by omega)]; decide), if_neg hb, ← hda]
            have := rep_added h0 f a.toNat t
            rw [add_arm] at this
            exact ⟨this, rfl⟩
      · rw [if_neg (show ¬ (0 ≤ f ∧ f ≤ 15) from hf), if_pos (by decide), if_pos hf, ← hda]
        exact ⟨h0, rfl⟩

end Go.Proofs.Ytkbffhlkbcdgnaa
