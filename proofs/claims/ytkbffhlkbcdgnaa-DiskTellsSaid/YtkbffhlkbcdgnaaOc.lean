/-
  The reference's bounds along the acts.
-/
import Derived.Test.YtkbffhlkbcdgnaaOb
set_option linter.unusedVariables false
set_option maxRecDepth 100000
namespace Go.Proofs.Ytkbffhlkbcdgnaa
open Go.RowKit

theorem big_of {s : RSt} {d : Dk} (h : Rep s d) (ho : Dk.Ok d) : FBig s.fl := fun g => by
  have h1 : (rget s.fl g).2.1.size = (d.now g).length := by rw [← h.now g]; exact Array.length_toList.symm
  have h2 : (rget s.fl g).2.2.size = (d.last g).length := by rw [← h.last g]; exact Array.length_toList.symm
  have := ho.big g
  have := ho.le g
  omega
/-- what the reference's contracts ask, from the model. -/
theorem rb_of {s : RSt} {d : Dk} (h : Rep s d) (ho : Dk.Ok d) (hq : d.q.length ≤ 1073741824) (hf : s.fl.length ≤ 1073741824) (hk : s.keep.length ≤ 60) : RB s :=
  ⟨hf, by rw [h.q]; exact hq, big_of h ho, fun x hx => by
    rw [h.q] at hx
    have h1 := (ho.inq x hx).2
    have := ho.big x.1
    omega, by omega⟩
theorem added_fl1 (s : RSt) (f : Int) (a : Nat) (t : List UInt8) : (s.added f a t).fl.length ≤ s.fl.length + 1 := by
  unfold RSt.added
  split
  · omega
  · exact rset_len _ _
theorem crashed_fl (s : RSt) (keep : List Int) : (s.crashed keep).fl.length ≤ s.fl.length + s.q.length := by
  unfold RSt.crashed
  split
  · omega
  · simp only [rfall_len]
    exact rAfter_len _ _ _ _
theorem crashed_keep (s : RSt) (keep : List Int) : (s.crashed keep).keep = s.keep ∧ (s.crashed keep).lost = s.lost := by
  unfold RSt.crashed
  split <;> exact ⟨rfl, rfl⟩
theorem added_lost (s : RSt) (f : Int) (a : Nat) (t : List UInt8) : (s.added f a t).lost = s.lost := by
  unfold RSt.added; split <;> rfl
theorem come_all (s : RSt) (f a : Int) (t : List UInt8) : (s.come f a t).fl.length ≤ s.fl.length + s.q.length + 300001 ∧ (s.come f a t).keep = s.keep ∧ (s.come f a t).lost = s.lost := by
  unfold RSt.come
  split
  · exact ⟨by omega, rfl, rfl⟩
  split
  · exact ⟨by simp only; omega, rfl, rfl⟩
  split
  · rename_i hc
    obtain ⟨_, _, hfit⟩ := hc
    have hb : a.toNat + t.length ≤ 16777216 := by
      unfold fitsB at hfit
      simp at hfit
      omega
    have h1 := added_fl1 { s with armed := 0 } f a.toNat t
    have h2 := added_q { s with armed := 0 } f a.toNat t hb
    have h3 := crashed_fl (RSt.added { s with armed := 0 } f a.toNat t) s.keep
    obtain ⟨h4, h5⟩ := crashed_keep (RSt.added { s with armed := 0 } f a.toNat t) s.keep
    simp only at h1 h2 h3
    exact ⟨by omega, h4.trans (added_keep _ _ _ _), h5.trans (added_lost _ _ _ _)⟩
  · have h3 := crashed_fl { s with armed := 0 } s.keep
    obtain ⟨h4, h5⟩ := crashed_keep { s with armed := 0 } s.keep
    simp only at h3
    exact ⟨by omega, h4, h5⟩
theorem rstep_fl (s : RSt) (x : DAct) (hx : x.kl.length ≤ 60) (hk : s.keep.length ≤ 60) : (rstep s x).1.fl.length ≤ s.fl.length + s.q.length + 300002 ∧ (rstep s x).1.keep.length ≤ 60 := by
  obtain ⟨c1, c2, _⟩ := come_all s 0 0 []
  obtain ⟨w1, w2, _⟩ := come_all s x.f x.n x.s.data.toList
  have hs : ∀ (f : Int) (y : ByteArray), ((s.come 0 0 []).settled f y).fl.length ≤ (s.come 0 0 []).fl.length + 1 ∧ ((s.come 0 0 []).settled f y).keep = (s.come 0 0 []).keep := fun f y => ⟨rset_len _ _, rfl⟩
  unfold rstep
  split
  · unfold RSt.synced
    split
    · exact ⟨by simp only; omega, by simp only; rw [c2]; exact hk⟩
    split
    · exact ⟨by simp only; omega, by simp only; rw [c2]; exact hk⟩
    · obtain ⟨h1, h2⟩ := hs x.f (rget (s.come 0 0 []).fl x.f).2.1
      exact ⟨by simp only; omega, by simp only; rw [h2, c2]; exact hk⟩
  split
  · unfold RSt.cut
    split
    · exact ⟨by simp only; omega, by simp only; rw [c2]; exact hk⟩
    split
    · exact ⟨by simp only; omega, by simp only; rw [c2]; exact hk⟩
    · obtain ⟨h1, h2⟩ := hs x.f ((rget (s.come 0 0 []).fl x.f).2.1.extract 0 x.n.toNat)
      exact ⟨by simp only; omega, by simp only; rw [h2, c2]; exact hk⟩
  split
  · exact ⟨by simp only; omega, hk⟩
  split
  · exact ⟨by simp only; omega, hx⟩
  split
  · have h3 := crashed_fl s x.kl
    exact ⟨by simp only; omega, by simp only; rw [(crashed_keep s x.kl).1]; exact hk⟩
  split
  · exact ⟨by simp only; omega, hk⟩
  · unfold RSt.wrote
    split
    · exact ⟨by simp only; omega, by simp only; rw [w2]; exact hk⟩
    split
    · exact ⟨by simp only; omega, by simp only; rw [w2]; exact hk⟩
    split
    · exact ⟨by simp only; omega, by simp only; rw [w2]; exact hk⟩
    · have h1 := added_fl1 (s.come x.f x.n x.s.data.toList) x.f x.n.toNat x.s.data.toList
      exact ⟨by simp only; omega, by simp only; rw [added_keep, w2]; exact hk⟩

end Go.Proofs.Ytkbffhlkbcdgnaa
