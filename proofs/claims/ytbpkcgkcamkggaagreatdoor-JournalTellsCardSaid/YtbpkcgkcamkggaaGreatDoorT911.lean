/-
  The reference's disk and the plain model: each step of the one is a step of the other.
  The reference's disk and the plain model (2): Write, Sync and Truncate.
  The reference's disk and the plain model (3): Sync, Truncate, Read, Lose, Arm, Start.
-/
import Derived.Test.YtbpkcgkcamkggaaGreatDoorT910
set_option linter.unusedVariables false
namespace Go.Proofs.YtbpkcgkcamkggaaGreatDoor
open Go.RowKit

/-- the reference's disk s is the disk d. -/
structure Rep (s : RSt) (d : Dk) : Prop where
  now : ∀ f, (rget s.fl f).2.1.data.toList = d.now f
  last : ∀ f, (rget s.fl f).2.2.data.toList = d.last f
  q : s.q = d.q
  lost : s.lost = d.lost
  down : s.down = d.down
  armed : s.armed = d.armed
  keep : d.armed ≠ 0 → s.keep = d.keep

theorem rep_new : Rep rNew Dk.new := ⟨fun _ => rfl, fun _ => rfl, rfl, rfl, rfl, rfl, fun h => absurd rfl h⟩

theorem rep_added {s : RSt} {d : Dk} (h : Rep s d) (f : Int) (a : Nat) (t : List UInt8) : Rep (s.added f a t) (d.add f a t) := by
  unfold RSt.added Dk.add
  by_cases ht : t = []
  · rw [if_pos ht, if_pos ht]; exact h
  · rw [if_neg ht, if_neg ht]
    refine ⟨fun g => ?_, fun g => ?_, by simp only [h.q], h.lost, h.down, h.armed, h.keep⟩
    · simp only [rget_set, show (rNow s f a t).1 = f from rfl]
      by_cases c : g = f
      · subst c
        rw [if_pos rfl, upd_same]
        show (bsOf _).data.toList = _
        rw [bsOf_list, h.now]
      · rw [if_neg c, upd_other c]; exact h.now g
    · simp only [rget_set, show (rNow s f a t).1 = f from rfl]
      by_cases c : g = f
      · subst c
        rw [if_pos rfl]; exact h.last g
      · rw [if_neg c]; exact h.last g

theorem rep_settled {s : RSt} {d : Dk} (h : Rep s d) (f : Int) (x : ByteArray) : Rep (s.settled f x) (d.settle f x.data.toList) := by
  unfold RSt.settled Dk.settle
  refine ⟨fun g => ?_, fun g => ?_, ?_, h.lost, h.down, h.armed, h.keep⟩
  · simp only [rget_set]
    by_cases c : g = f
    · rw [if_pos c, c, upd_same]
    · rw [if_neg c, upd_other c]; exact h.now g
  · simp only [rget_set]
    by_cases c : g = f
    · rw [if_pos c, c, upd_same]
    · rw [if_neg c, upd_other c]; exact h.last g
  · simp only [h.q]
    congr 1
    funext y
    by_cases c : y.1 = f
    · simp [c]
    · simp [c]

theorem left_snoc (keep : List Int) (x : Int × Nat) : ∀ (l : List (Int × Nat)) (j : Nat), left keep j (l ++ [x]) = left keep j l ++ (if oddAt keep (j + l.length) then [x] else []) := by
  intro l
  induction l with
  | nil =>
    intro j
    simp only [List.nil_append, left, List.length_nil, Nat.add_zero]
  | cons y l ih =>
    intro j
    simp only [List.cons_append, left, ih, List.length_cons]
    rw [show j + 1 + l.length = j + (l.length + 1) by omega]
    split
    · simp
    · rfl
/-- a file of a sector that survives. -/
theorem surv_rep {l : List RFile} {now L : Int → List UInt8} (h1 : ∀ f, (rget l f).2.1.data.toList = now f) (h2 : ∀ f, (rget l f).2.2.data.toList = L f) (x : Int × Nat) :
    (∀ f, (rget (rset l (rSurv l x)) f).2.1.data.toList = now f) ∧ ∀ f, (rget (rset l (rSurv l x)) f).2.2.data.toList = surv now L x f := by
  have hs : (rget l x.1).2.1.size = (now x.1).length := by rw [← h1 x.1]; exact Array.length_toList.symm
  constructor
  · intro f
    rw [rget_set, rSurv_one]
    by_cases c : f = x.1
    · rw [if_pos c, c]
      unfold rSurv
      split
      · exact h1 x.1
      · exact h1 x.1
    · rw [if_neg c]; exact h1 f
  · intro f
    rw [rget_set, rSurv_one]
    unfold surv
    by_cases c : f = x.1
    · rw [if_pos c, c, upd_same]
      unfold rSurv
      by_cases hl : 64 * x.2 < (rget l x.1).2.1.size
      · rw [if_pos hl]
        show (bsOf _).data.toList = _
        rw [bsOf_list, h1, h2]
      · rw [if_neg hl, h2]
        have e : sec (now x.1) x.2 = [] := by
          have := sec_length (now x.1) x.2
          exact List.length_eq_zero_iff.1 (by omega)
        rw [e, put_nil]
    · rw [if_neg c, upd_other c]; exact h2 f
theorem after_rep {l : List RFile} {now L : Int → List UInt8} (h1 : ∀ f, (rget l f).2.1.data.toList = now f) (h2 : ∀ f, (rget l f).2.2.data.toList = L f) (keep : List Int) (q : List (Int × Nat)) :
    ∀ i, i ≤ q.length → (∀ f, (rget (rAfter l keep q i) f).2.1.data.toList = now f) ∧ ∀ f, (rget (rAfter l keep q i) f).2.2.data.toList = survs now L (left keep 0 (q.take i)) f := by
  intro i
  induction i with
  | zero => intro _; exact ⟨h1, fun f => by simp only [List.take_zero, left, survs, List.foldl_nil]; exact h2 f⟩
  | succ i ih =>
    intro hi
    have hlt : i < q.length := by omega
    obtain ⟨k1, k2⟩ := ih (by omega)
    rw [rAfter_next l keep q i hlt, List.take_succ_eq_append_getElem hlt, left_snoc, List.length_take, Nat.min_eq_left (by omega), Nat.zero_add]
    by_cases ho : oddAt keep i = true
    · rw [if_pos ho, if_pos ho]
      have := surv_rep k1 k2 q[i]
      refine ⟨this.1, fun f => ?_⟩
      rw [this.2 f]
      simp only [survs, List.foldl_append, List.foldl_cons, List.foldl_nil]
    · rw [if_neg ho, if_neg ho, List.append_nil]
      exact ⟨k1, k2⟩

theorem rep_crashed {s : RSt} {d : Dk} (h : Rep s d) (keep : List Int) : Rep (s.crashed keep) (d.crash keep) := by
  unfold RSt.crashed Dk.crash
  by_cases hd : s.down = true
  · rw [if_pos hd, if_pos (by rw [← h.down]; exact hd)]; exact h
  · rw [if_neg hd, if_neg (by rw [← h.down]; exact hd)]
    have ha := (after_rep h.now h.last keep s.q s.q.length (Nat.le_refl _)).2
    rw [List.take_length] at ha
    have hc : ∀ f, (rget (rAfter s.fl keep s.q s.q.length) f).2.2.data.toList = d.crashed keep f := fun f => by
      rw [ha f, Dk.crashed, h.q]
    refine ⟨fun f => ?_, fun f => ?_, rfl, h.lost, rfl, rfl, fun e => absurd rfl e⟩
    · simp only [rget_fall]; exact hc f
    · simp only [rget_fall]; exact hc f

end Go.Proofs.YtbpkcgkcamkggaaGreatDoor
namespace Go.Proofs.YtbpkcgkcamkggaaGreatDoor
open Go.RowKit

theorem rep_arm {s : RSt} {d : Dk} (h : Rep s d) (n : Nat) (hk : n ≠ 0 → d.armed ≠ 0) : Rep { s with armed := n } { d with armed := n } :=
  ⟨h.now, h.last, h.q, h.lost, h.down, rfl, fun e => h.keep (hk e)⟩
theorem crash_arm (x : Dk) (hx : x.down = false) (k : List Int) (n : Nat) : ({ x with armed := n } : Dk).crash k = x.crash k := by
  unfold Dk.crash
  rw [if_neg (by simp only; rw [hx]; decide), if_neg (by rw [hx]; decide)]
  rfl
theorem add_arm (d : Dk) (f : Int) (a : Nat) (t : List UInt8) (n : Nat) : ({ d with armed := n } : Dk).add f a t = { d.add f a t with armed := n } := by
  unfold Dk.add; split <;> rfl
theorem add_down (d : Dk) (f : Int) (a : Nat) (t : List UInt8) : (d.add f a t).down = d.down := by
  unfold Dk.add; split <;> rfl
theorem come_zero {s : RSt} (h : s.armed = 0) (f a : Int) (t : List UInt8) : s.come f a t = s := by unfold RSt.come; rw [if_pos (.inr h)]
theorem come_down {s : RSt} (h : s.down = true) (f a : Int) (t : List UInt8) : s.come f a t = s := by unfold RSt.come; rw [if_pos (.inl h)]
theorem come_more {s : RSt} (hd : s.down = false) (h : 2 ≤ s.armed) (f a : Int) (t : List UInt8) : s.come f a t = { s with armed := s.armed - 1 } := by
  unfold RSt.come; rw [if_neg (by rw [hd]; simp; omega), if_pos h]
/-- ahead of the scheduled crash, or without one: what counts is only the number. -/
theorem come_not {s : RSt} (hd : s.down = false) (h : s.armed ≠ 1) (f a : Int) (t : List UInt8) : s.come f a t = { s with armed := s.armed - 1 } := by
  by_cases h0 : s.armed = 0
  · rw [come_zero h0, h0]; cases s; simp only at h0; subst h0; rfl
  · exact come_more hd (by omega) f a t
theorem may_down (f : Int) : mayOf true f = 8 := rfl
theorem may_up (f : Int) : mayOf false f = if 0 ≤ f ∧ f ≤ 15 then 0 else 1 := by unfold mayOf; rw [if_neg (by decide)]

theorem fits_of {a : Int} {n : Nat} (h : fitsB a n = true) : 0 ≤ a ∧ a + n ≤ 16777216 := by simpa [fitsB] using h
theorem fits_mk {a : Int} {n : Nat} (h0 : 0 ≤ a) (h1 : a + n ≤ 16777216) : fitsB a n = true := by simp [fitsB, h0, h1]
theorem fits_no {a : Int} {n : Nat} (h : 16777216 < a + n) : fitsB a n = false := by simp [fitsB]; omega

theorem rep_wrote {s : RSt} {d : Dk} (h : Rep s d) (f a : Int) (t : List UInt8) : Rep (s.wrote f a t).1 (d.write f a t).1 ∧ (s.wrote f a t).2 = (d.write f a t).2 := by
  cases hd : s.down with
  | true =>
    have hd2 : d.down = true := by rw [← h.down]; exact hd
    unfold RSt.wrote
    rw [come_down hd, hd, may_down, if_pos (by decide), Dk.write, Dk.counted_down hd2]
    exact ⟨h, rfl⟩
  | false =>
    have hd2 : d.down = false := by rw [← h.down]; exact hd
    by_cases h1 : s.armed = 1
    · have ha2 : d.armed = 1 := by rw [← h.armed]; exact h1
      have hk : s.keep = d.keep := h.keep (by omega)
      rw [Dk.write, Dk.counted_hit hd2 ha2, if_pos rfl]
      have hc : Rep (s.come f a t) ((d.write0 f a t).1.crash d.keep) := by
        have h0 := rep_arm h 0 (fun e => absurd rfl e)
        rw [← hk]
        unfold RSt.come
        rw [if_neg (by rw [hd]; simp; omega), if_neg (by omega)]
        unfold Dk.write0
        by_cases hf : Dk.fileOk f
        · rw [if_neg (Decidable.not_not.mpr hf)]
          by_cases ha0 : a < 0
          · rw [if_neg (fun hh => by have := (fits_of hh.2.2).1; omega), if_pos ha0, ← crash_arm d hd2 s.keep 0]
            exact rep_crashed h0 _
          · rw [if_neg ha0]
            by_cases hb : 16777216 < a + t.length
            · rw [if_neg (fun hh => by have := (fits_of hh.2.2).2; omega), if_pos hb, ← crash_arm d hd2 s.keep 0]
              exact rep_crashed h0 _
            · rw [if_pos ⟨hf.1, hf.2, fits_mk (by omega) (by omega)⟩, if_neg hb, ← crash_arm _ (by rw [add_down]; exact hd2) s.keep 0, ← add_arm]
              exact rep_crashed (rep_added h0 f a.toNat t) _
        · rw [if_pos hf, if_neg (fun hh => hf ⟨hh.1, hh.2.1⟩), ← crash_arm d hd2 s.keep 0]
          exact rep_crashed h0 _
      have hdn : (s.come f a t).down = true := by
        have := hc.down
        rw [this]
        unfold Dk.crash
        split
        · assumption
        · rfl
      unfold RSt.wrote
      rw [hdn, may_down, if_pos (by decide)]
      exact ⟨hc, rfl⟩
    · have ha2 : d.armed ≠ 1 := by rw [← h.armed]; exact h1
      have h0 := rep_arm h (s.armed - 1) (fun e => by rw [← h.armed]; omega)
      have hda : s.armed - 1 = d.armed - 1 := by rw [h.armed]
      rw [Dk.write, Dk.counted_up hd2 ha2]
      unfold RSt.wrote Dk.write0
      rw [come_not hd h1]
      simp only [hd, may_up]
      simp only [hd] at h0
      by_cases hf : Dk.fileOk f
      · rw [if_pos (show 0 ≤ f ∧ f ≤ 15 from hf), if_neg (by decide), if_neg (Decidable.not_not.mpr hf)]
        by_cases ha0 : a < 0
        · rw [if_pos ha0, if_pos ha0, ← hda]; exact ⟨h0, rfl⟩
        · rw [if_neg ha0, if_neg ha0]
          by_cases hb : 16777216 < a + t.length
          · rw [if_pos (fits_no (by omega)), if_pos hb, ← hda]; exact ⟨h0, rfl⟩
          · rw [if_neg (by rw [fits_mk (by omega) (by omega)]; decide), if_neg hb, ← hda]
            have := rep_added h0 f a.toNat t
            rw [add_arm] at this
            exact ⟨this, rfl⟩
      · rw [if_neg (show ¬ (0 ≤ f ∧ f ≤ 15) from hf), if_pos (by decide), if_pos hf, ← hda]
        exact ⟨h0, rfl⟩

end Go.Proofs.YtbpkcgkcamkggaaGreatDoor
namespace Go.Proofs.YtbpkcgkcamkggaaGreatDoor
open Go.RowKit

theorem added_nil (s : RSt) (f : Int) (a : Nat) : s.added f a [] = s := by unfold RSt.added; rw [if_pos rfl]
theorem come_hit {s : RSt} (hd : s.down = false) (h : s.armed = 1) : s.come 0 0 [] = RSt.crashed { s with armed := 0 } s.keep := by
  unfold RSt.come
  rw [if_neg (by rw [hd]; simp; omega), if_neg (by omega), added_nil]
  split <;> rfl

theorem rep_synced {s : RSt} {d : Dk} (h : Rep s d) (f : Int) : Rep (s.synced f).1 (d.sync f).1 ∧ (s.synced f).2 = (d.sync f).2 := by
  cases hd : s.down with
  | true =>
    have hd2 : d.down = true := by rw [← h.down]; exact hd
    unfold RSt.synced
    rw [come_down hd, hd, may_down, if_pos (by decide), Dk.sync, Dk.counted_down hd2]
    exact ⟨h, rfl⟩
  | false =>
    have hd2 : d.down = false := by rw [← h.down]; exact hd
    by_cases h1 : s.armed = 1
    · have ha2 : d.armed = 1 := by rw [← h.armed]; exact h1
      have hk : s.keep = d.keep := h.keep (by omega)
      have h0 := rep_arm h 0 (fun e => absurd rfl e)
      unfold RSt.synced
      rw [come_hit hd h1, crashed_down, may_down, if_pos (by decide), Dk.sync, Dk.counted_hit hd2 ha2, if_neg (c := false = true) (by decide), ← hk, ← crash_arm d hd2 s.keep 0]
      exact ⟨rep_crashed h0 _, rfl⟩
    · have ha2 : d.armed ≠ 1 := by rw [← h.armed]; exact h1
      have h0 := rep_arm h (s.armed - 1) (fun e => by rw [← h.armed]; omega)
      have hda : s.armed - 1 = d.armed - 1 := by rw [h.armed]
      rw [Dk.sync, Dk.counted_up hd2 ha2]
      unfold RSt.synced Dk.sync0
      rw [come_not hd h1]
      simp only [hd, may_up]
      simp only [hd] at h0
      by_cases hf : Dk.fileOk f
      · rw [if_pos (show 0 ≤ f ∧ f ≤ 15 from hf), if_neg (by decide), if_neg (Decidable.not_not.mpr hf)]
        by_cases hl : 0 < s.lost
        · rw [if_pos hl, if_pos (by rw [← h.lost]; exact hl), ← hda]
          exact ⟨⟨h.now, h.last, h.q, by simp only [h.lost], by simp only [hd2], rfl, h0.keep⟩, rfl⟩
        · rw [if_neg hl, if_neg (by rw [← h.lost]; exact hl), ← hda]
          have := rep_settled h0 f (rget s.fl f).2.1
          rw [h.now f] at this
          exact ⟨this, rfl⟩
      · rw [if_neg (show ¬ (0 ≤ f ∧ f ≤ 15) from hf), if_pos (by decide), if_pos hf, ← hda]
        exact ⟨h0, rfl⟩

theorem rep_cut {s : RSt} {d : Dk} (h : Rep s d) (f n : Int) : Rep (s.cut f n).1 (d.trunc f n).1 ∧ (s.cut f n).2 = (d.trunc f n).2 := by
  have hsz : (rget s.fl f).2.1.size = (d.now f).length := by rw [← h.now f]; exact Array.length_toList.symm
  cases hd : s.down with
  | true =>
    have hd2 : d.down = true := by rw [← h.down]; exact hd
    unfold RSt.cut
    rw [come_down hd, hd, may_down, if_pos (by decide), Dk.trunc, Dk.counted_down hd2]
    exact ⟨h, rfl⟩
  | false =>
    have hd2 : d.down = false := by rw [← h.down]; exact hd
    by_cases h1 : s.armed = 1
    · have ha2 : d.armed = 1 := by rw [← h.armed]; exact h1
      have hk : s.keep = d.keep := h.keep (by omega)
      have h0 := rep_arm h 0 (fun e => absurd rfl e)
      unfold RSt.cut
      rw [come_hit hd h1, crashed_down, may_down, if_pos (by decide), Dk.trunc, Dk.counted_hit hd2 ha2, if_neg (c := false = true) (by decide), ← hk, ← crash_arm d hd2 s.keep 0]
      exact ⟨rep_crashed h0 _, rfl⟩
    · have ha2 : d.armed ≠ 1 := by rw [← h.armed]; exact h1
      have h0 := rep_arm h (s.armed - 1) (fun e => by rw [← h.armed]; omega)
      have hda : s.armed - 1 = d.armed - 1 := by rw [h.armed]
      rw [Dk.trunc, Dk.counted_up hd2 ha2]
      unfold RSt.cut Dk.trunc0
      rw [come_not hd h1]
      simp only [hd, may_up, hsz]
      simp only [hd] at h0
      by_cases hf : Dk.fileOk f
      · rw [if_pos (show 0 ≤ f ∧ f ≤ 15 from hf), if_neg (by decide), if_neg (Decidable.not_not.mpr hf)]
        by_cases hl : n < 0 ∨ ((d.now f).length : Int) < n
        · rw [if_pos hl, if_pos hl, ← hda]
          exact ⟨h0, rfl⟩
        · rw [if_neg hl, if_neg hl, ← hda]
          have := rep_settled h0 f ((rget s.fl f).2.1.extract 0 n.toNat)
          rw [ext_part, h.now f, List.drop_zero, Nat.sub_zero] at this
          exact ⟨this, rfl⟩
      · rw [if_neg (show ¬ (0 ≤ f ∧ f ≤ 15) from hf), if_pos (by decide), if_pos hf, ← hda]
        exact ⟨h0, rfl⟩

theorem rep_read {s : RSt} {d : Dk} (h : Rep s d) (f a n : Int) : s.readR f a n = d.read f a n := by
  unfold RSt.readR Dk.read
  rw [h.down, h.now f]
  cases hd : d.down with
  | true => rw [may_down, if_pos (by decide), if_pos rfl]
  | false =>
    rw [may_up, if_neg (c := false = true) (by decide)]
    by_cases hf : Dk.fileOk f
    · rw [if_pos (show 0 ≤ f ∧ f ≤ 15 from hf), if_neg (by decide), if_neg (Decidable.not_not.mpr hf)]
    · rw [if_neg (show ¬ (0 ≤ f ∧ f ≤ 15) from hf), if_pos (by decide), if_pos hf]
theorem rep_lose {s : RSt} {d : Dk} (h : Rep s d) (n : Int) : Rep { s with lost := n.toNat } (d.lose n) := ⟨h.now, h.last, h.q, rfl, h.down, h.armed, h.keep⟩
theorem rep_armed {s : RSt} {d : Dk} (h : Rep s d) (n : Int) (keep : List Int) : Rep { s with armed := n.toNat, keep := keep } (d.arm n keep) := ⟨h.now, h.last, h.q, h.lost, h.down, rfl, fun _ => rfl⟩
theorem rep_start {s : RSt} {d : Dk} (h : Rep s d) : Rep { s with down := false } d.start := ⟨h.now, h.last, h.q, h.lost, rfl, h.armed, h.keep⟩

end Go.Proofs.YtbpkcgkcamkggaaGreatDoor
