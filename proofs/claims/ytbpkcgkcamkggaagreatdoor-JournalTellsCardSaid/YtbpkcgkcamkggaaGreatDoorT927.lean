/-
  The reference's disk over the model, as the reference's journal calls it.
-/
import Derived.Test.YtbpkcgkcamkggaaGreatDoorT926
import Derived.Test.YtbpkcgkcamkggaaGreatDoorT911
set_option linter.unusedVariables false
set_option maxRecDepth 100000
namespace Go.Proofs.YtbpkcgkcamkggaaGreatDoor
open Go.RowKit

/-! ### bounds -/
theorem qbig_of {s : RSt} {d : Dk} (h : Rep s d) (ho : Dk.Ok d) : FBig s.fl := fun g => by
  have h1 : (rget s.fl g).2.1.size = (d.now g).length := by rw [← h.now g]; exact Array.length_toList.symm
  have h2 : (rget s.fl g).2.2.size = (d.last g).length := by rw [← h.last g]; exact Array.length_toList.symm
  have := ho.big g
  have := ho.le g
  omega
theorem qrb_of {s : RSt} {d : Dk} (h : Rep s d) (ho : Dk.Ok d) (hq : d.q.length ≤ 1073741824) (hf : s.fl.length ≤ 1073741824) (hk : s.keep.length ≤ 60) : RB s :=
  ⟨hf, by rw [h.q]; exact hq, qbig_of h ho, fun x hx => by
    rw [h.q] at hx
    have h1 := (ho.inq x hx).2
    have := ho.big x.1
    omega, by omega⟩
theorem qadded_fl1 (s : RSt) (f : Int) (a : Nat) (t : List UInt8) : (s.added f a t).fl.length ≤ s.fl.length + 1 := by
  unfold RSt.added
  split
  · omega
  · exact rset_len _ _
theorem qcrashed_fl (s : RSt) (keep : List Int) : (s.crashed keep).fl.length ≤ s.fl.length + s.q.length := by
  unfold RSt.crashed
  split
  · omega
  · simp only [rfall_len]
    exact rAfter_len _ _ _ _
theorem qcrashed_keep (s : RSt) (keep : List Int) : (s.crashed keep).keep = s.keep ∧ (s.crashed keep).lost = s.lost := by
  unfold RSt.crashed
  split <;> exact ⟨rfl, rfl⟩
theorem qadded_lost (s : RSt) (f : Int) (a : Nat) (t : List UInt8) : (s.added f a t).lost = s.lost := by
  unfold RSt.added; split <;> rfl
theorem qcome_all (s : RSt) (f a : Int) (t : List UInt8) : (s.come f a t).fl.length ≤ s.fl.length + s.q.length + 300001 ∧ (s.come f a t).keep = s.keep ∧ (s.come f a t).lost = s.lost := by
  unfold RSt.come
  split
  · exact ⟨by omega, rfl, rfl⟩
  split
  · exact ⟨by simp only; omega, rfl, rfl⟩
  split
  · rename_i hc
    obtain ⟨_, _, hfit⟩ := hc
    have hb : a.toNat + t.length ≤ 16777216 := by
      unfold fitsB at hfit
      simp at hfit
      omega
    have h1 := qadded_fl1 { s with armed := 0 } f a.toNat t
    have h2 := added_q { s with armed := 0 } f a.toNat t hb
    have h3 := qcrashed_fl (RSt.added { s with armed := 0 } f a.toNat t) s.keep
    obtain ⟨h4, h5⟩ := qcrashed_keep (RSt.added { s with armed := 0 } f a.toNat t) s.keep
    simp only at h1 h2 h3
    exact ⟨by omega, h4.trans (added_keep _ _ _ _), h5.trans (qadded_lost _ _ _ _)⟩
  · have h3 := qcrashed_fl { s with armed := 0 } s.keep
    obtain ⟨h4, h5⟩ := qcrashed_keep { s with armed := 0 } s.keep
    simp only at h3
    exact ⟨by omega, h4, h5⟩
theorem qsync_fl (s : RSt) (f : Int) (hk : s.keep.length ≤ 60) : (s.synced f).1.fl.length ≤ s.fl.length + s.q.length + 300002 ∧ (s.synced f).1.keep.length ≤ 60 := by
  obtain ⟨c1, c2, _⟩ := qcome_all s 0 0 []
  have hs : ∀ (f : Int) (y : ByteArray), ((s.come 0 0 []).settled f y).fl.length ≤ (s.come 0 0 []).fl.length + 1 ∧ ((s.come 0 0 []).settled f y).keep = (s.come 0 0 []).keep := fun f y => ⟨rset_len _ _, rfl⟩
  unfold RSt.synced
  split
  · exact ⟨by simp only; omega, by simp only; rw [c2]; exact hk⟩
  split
  · exact ⟨by simp only; omega, by simp only; rw [c2]; exact hk⟩
  · obtain ⟨h1, h2⟩ := hs f (rget (s.come 0 0 []).fl f).2.1
    exact ⟨by simp only; omega, by simp only; rw [h2, c2]; exact hk⟩
theorem qcut_fl (s : RSt) (f n : Int) (hk : s.keep.length ≤ 60) : (s.cut f n).1.fl.length ≤ s.fl.length + s.q.length + 300002 ∧ (s.cut f n).1.keep.length ≤ 60 := by
  obtain ⟨c1, c2, _⟩ := qcome_all s 0 0 []
  have hs : ∀ (f : Int) (y : ByteArray), ((s.come 0 0 []).settled f y).fl.length ≤ (s.come 0 0 []).fl.length + 1 ∧ ((s.come 0 0 []).settled f y).keep = (s.come 0 0 []).keep := fun f y => ⟨rset_len _ _, rfl⟩
  unfold RSt.cut
  split
  · exact ⟨by simp only; omega, by simp only; rw [c2]; exact hk⟩
  split
  · exact ⟨by simp only; omega, by simp only; rw [c2]; exact hk⟩
  · obtain ⟨h1, h2⟩ := hs f ((rget (s.come 0 0 []).fl f).2.1.extract 0 n.toNat)
    exact ⟨by simp only; omega, by simp only; rw [h2, c2]; exact hk⟩
theorem qwrote_fl (s : RSt) (f n : Int) (t : List UInt8) (hk : s.keep.length ≤ 60) : (s.wrote f n t).1.fl.length ≤ s.fl.length + s.q.length + 300002 ∧ (s.wrote f n t).1.keep.length ≤ 60 := by
  obtain ⟨w1, w2, _⟩ := qcome_all s f n t
  unfold RSt.wrote
  split
  · exact ⟨by simp only; omega, by simp only; rw [w2]; exact hk⟩
  split
  · exact ⟨by simp only; omega, by simp only; rw [w2]; exact hk⟩
  split
  · exact ⟨by simp only; omega, by simp only; rw [w2]; exact hk⟩
  · have h1 := qadded_fl1 (s.come f n t) f n.toNat t
    exact ⟨by simp only; omega, by simp only; rw [added_keep, w2]; exact hk⟩

/-- what a disk of the model holds at most. -/
structure QLim (d : Dk) (n : Nat) : Prop where
  q : d.q.length ≤ n
  armed : d.armed ≤ 9223372036854775807
  lost : d.lost ≤ 9223372036854775807
theorem qlim_sync {d : Dk} {n : Nat} (h : QLim d n) (f : Int) : QLim (d.sync f).1 n := by
  have hl := counted_lim (d := d) false (p := d.sync0 f) h.q (by
    unfold Dk.sync0
    split
    · exact h.q
    · split
      · exact h.q
      · exact Nat.le_trans (List.length_filter_le _ _) h.q) h.armed (armed_sync0 d f) h.lost (by
    have := h.lost
    unfold Dk.sync0
    split
    · exact h.lost
    · split
      · simp only; omega
      · exact h.lost)
  exact ⟨hl.1, hl.2.1, hl.2.2⟩
theorem qlim_trunc {d : Dk} {n : Nat} (h : QLim d n) (f k : Int) : QLim (d.trunc f k).1 n := by
  have hl := counted_lim (d := d) false (p := d.trunc0 f k) h.q (by
    unfold Dk.trunc0
    split
    · exact h.q
    · split
      · exact h.q
      · exact Nat.le_trans (List.length_filter_le _ _) h.q) h.armed (armed_trunc0 d f k) h.lost (by
    unfold Dk.trunc0 Dk.settle
    repeat' split
    all_goals exact h.lost)
  exact ⟨hl.1, hl.2.1, hl.2.2⟩
theorem qlim_write {d : Dk} {n : Nat} (h : QLim d n) (f a : Int) (t : List UInt8) : QLim (d.write f a t).1 (n + t.length + 2) := by
  have hq0 := h.q
  have hl := counted_lim (d := d) (n := n + t.length + 2) true (p := d.write0 f a t) (by omega) (by
    unfold Dk.write0
    split
    · simp only; omega
    · split
      · simp only; omega
      · split
        · simp only; omega
        · unfold Dk.add
          split
          · simp only; omega
          · have := marks_len f ((a.toNat + t.length - 1) / 64 + 1 - a.toNat / 64) d.q (a.toNat / 64)
            simp only
            omega) h.armed (armed_write0 d f a _).1 h.lost (by
    unfold Dk.write0 Dk.add
    repeat' split
    all_goals exact h.lost)
  exact ⟨hl.1, hl.2.1, hl.2.2⟩
theorem QLim.mono {d : Dk} {n m : Nat} (h : QLim d n) (hn : n ≤ m) : QLim d m := ⟨Nat.le_trans h.q hn, h.armed, h.lost⟩

/-- the reference's disk at r is the disk d, after k calls. -/
structure RD (r B : Nat) (d : Dk) (k : Nat) (w : World) : Prop where
  ex : ∃ s, RAt r B s w ∧ Rep s d ∧ s.fl.length ≤ 400000 * k ∧ s.keep.length ≤ 60
  ok : Dk.Ok d
  lim : QLim d (302 * k)

section
variable {r B : Nat} {d : Dk} {k : Nat} {w w' : World}
theorem RD.mono (h : RD r B d k w) {m : Nat} (hk : k ≤ m) : RD r B d m w := by
  obtain ⟨s, h1, h2, h3, h4⟩ := h.ex
  exact ⟨⟨s, h1, h2, by omega, h4⟩, h.ok, h.lim.mono (by omega)⟩
theorem RD.below (h : RD r B d k w) (hb : Below w.heap.size w w') : RD r B d k w' := by
  obtain ⟨s, h1, h2, h3, h4⟩ := h.ex
  exact ⟨⟨s, h1.below hb, h2, h3, h4⟩, h.ok, h.lim⟩
/-- what turns none of the reference's kinds of blocks leaves it. -/
theorem RD.far (h : RD r B d k w) (hk : ∀ (b : Nat) (c : Array Value) (T : TypeId) (z : Nat × Nat), w.heap[b]? = some (.cells c T z) → (T = 68 ∨ T = 86 ∨ T = 84 ∨ T = 3) → w'.heap[b]? = w.heap[b]?) : RD r B d k w' := by
  obtain ⟨s, ⟨F, Q, K, h1, h2, h3, h4, h5⟩, h6, h7, h8⟩ := h.ex
  refine ⟨⟨s, ⟨F, Q, K, (hk _ _ _ _ h1 (.inl rfl)).trans h1, own_keep h2 ?_, own_keep h3 ?_, own_keep h4 ?_, h5⟩, h6, h7, h8⟩, h.ok, h.lim⟩
  · intro g c z hg; exact hk _ _ _ _ hg (.inr (.inl rfl))
  · intro g c z hg; exact hk _ _ _ _ hg (.inr (.inr (.inl rfl)))
  · intro g c z hg; exact hk _ _ _ _ hg (.inr (.inr (.inr rfl)))
theorem RD.rb (h : RD r B d k w) (hk : k ≤ 300) : ∃ s, RAt r B s w ∧ Rep s d ∧ s.fl.length ≤ 400000 * k ∧ s.keep.length ≤ 60 ∧ s.q.length ≤ 302 * k ∧ RB s ∧ s.armed ≤ 9223372036854775807 ∧ s.lost ≤ 9223372036854775807 := by
  obtain ⟨s, h1, h2, h3, h4⟩ := h.ex
  have hq := h.lim.q
  exact ⟨s, h1, h2, h3, h4, by rw [h2.q]; exact hq, qrb_of h2 h.ok (by omega) (by omega) h4, by rw [h2.armed]; exact h.lim.armed, by rw [h2.lost]; exact h.lim.lost⟩

/-- what a call of the reference's disk leaves. -/
def RDLeft (r B : Nat) (d' : Dk) (k' : Nat) (res : Value) (w : World) (e : Ending) (w' : World) : Prop := e = .returned res ∧ RD r B d' k' w' ∧ RFr B w w'

theorem rd_sync (h : RD r B d k w) (hk : k ≤ 300) (f : Int) : Calls Tryz.prog 36 #[.pointer (some ⟨r, 0, none⟩), .int .i64 f] w (RDLeft r B (d.sync f).1 (k + 1) (.int .i64 (d.sync f).2) w) := by
  obtain ⟨s, h1, h2, h3, h4, h5, h6, h7, h8⟩ := h.rb hk
  obtain ⟨g1, g2⟩ := rep_synced h2 f
  obtain ⟨x1, x2⟩ := qsync_fl s f h4
  exact (rsync_any r B s f w h1 h6 h7 (by rw [(qcome_all s 0 0 []).2.2]; exact h8)).mono fun e w' ⟨he, y1, y2⟩ => ⟨by rw [he, g2], ⟨⟨_, y1, g1, by omega, x2⟩, Dk.ok_sync h.ok f, (qlim_sync h.lim f).mono (by omega)⟩, y2⟩
theorem rd_trunc (h : RD r B d k w) (hk : k ≤ 300) (f n : Int) (hn : In64 n) : Calls Tryz.prog 39 #[.pointer (some ⟨r, 0, none⟩), .int .i64 f, .int .i64 n] w (RDLeft r B (d.trunc f n).1 (k + 1) (.int .i64 (d.trunc f n).2) w) := by
  obtain ⟨s, h1, h2, h3, h4, h5, h6, h7, h8⟩ := h.rb hk
  obtain ⟨g1, g2⟩ := rep_cut h2 f n
  obtain ⟨x1, x2⟩ := qcut_fl s f n h4
  exact (rcut_any r B s f n w h1 h6 h7 hn).mono fun e w' ⟨he, y1, y2⟩ => ⟨by rw [he, g2], ⟨⟨_, y1, g1, by omega, x2⟩, Dk.ok_trunc h.ok f n, (qlim_trunc h.lim f n).mono (by omega)⟩, y2⟩
theorem rd_write (h : RD r B d k w) (hk : k ≤ 300) (f a : Int) (ha : In64 a) (t : ByteArray) (ht : t.size ≤ 300) : Calls Tryz.prog 42 #[.pointer (some ⟨r, 0, none⟩), .int .i64 f, .int .i64 a, .string t] w (RDLeft r B (d.write f a t.data.toList).1 (k + 1) (.int .i64 (d.write f a t.data.toList).2) w) := by
  obtain ⟨s, h1, h2, h3, h4, h5, h6, h7, h8⟩ := h.rb hk
  obtain ⟨g1, g2⟩ := rep_wrote h2 f a t.data.toList
  obtain ⟨x1, x2⟩ := qwrote_fl s f a t.data.toList h4
  have htl : t.data.toList.length = t.size := Array.length_toList
  exact (rwrite_any r B s f a t w h1 h6 ha (by omega) h7).mono fun e w' ⟨he, y1, y2⟩ => ⟨by rw [he, g2], ⟨⟨_, y1, g1, by omega, x2⟩, Dk.ok_write h.ok f a _, (qlim_write h.lim f a _).mono (by omega)⟩, y2⟩
theorem rd_lose (h : RD r B d k w) (n : Int) (hn : In64 n) : Calls Tryz.prog 17 #[.pointer (some ⟨r, 0, none⟩), .int .i64 n] w (RDLeft r B (d.lose n) k (.tuple #[]) w) := by
  obtain ⟨s, h1, h2, h3, h4⟩ := h.ex
  exact (rlose_any r B s n w h1).mono fun e w' ⟨he, y1, y2⟩ => ⟨he, ⟨⟨_, y1, rep_lose h2 n, h3, h4⟩, Dk.ok_lose h.ok n, ⟨h.lim.q, h.lim.armed, by have := hn.2; show n.toNat ≤ _; omega⟩⟩, y2⟩
theorem rd_start (h : RD r B d k w) : Calls Tryz.prog 23 #[.pointer (some ⟨r, 0, none⟩)] w (RDLeft r B d.start k (.tuple #[]) w) := by
  obtain ⟨s, h1, h2, h3, h4⟩ := h.ex
  exact (rstart_any r B s w h1).mono fun e w' ⟨he, y1, y2⟩ => ⟨he, ⟨⟨_, y1, rep_start h2, h3, h4⟩, Dk.ok_start h.ok, ⟨h.lim.q, h.lim.armed, h.lim.lost⟩⟩, y2⟩
theorem rd_arm (h : RD r B d k w) (n : Int) (hn : In64 n) {A : Option Addr} {cap : Nat} {l : List Int} (hl : KRow B w A l) (hA : A = none → l = [] ∧ cap = 0) (hle : l.length ≤ 60) : Calls Tryz.prog 19 #[.pointer (some ⟨r, 0, none⟩), .int .i64 n, .slice A l.length cap] w (RDLeft r B (d.arm n l) k (.tuple #[]) w) := by
  obtain ⟨s, h1, h2, h3, h4⟩ := h.ex
  exact (rarm_any r B s n A cap l w h1 hl hA (by omega)).mono fun e w' ⟨he, y1, y2⟩ => ⟨he, ⟨⟨_, y1, rep_armed h2 n l, h3, hle⟩, Dk.ok_arm h.ok n l, ⟨h.lim.q, by have := hn.2; show n.toNat ≤ _; omega, h.lim.lost⟩⟩, y2⟩
theorem rd_crash (h : RD r B d k w) (hk : k ≤ 300) {A : Option Addr} {cap : Nat} {l : List Int} (hl : KRow B w A l) (hle : l.length ≤ 60) : Calls Tryz.prog 21 #[.pointer (some ⟨r, 0, none⟩), .slice A l.length cap] w (RDLeft r B (d.crash l) (k + 1) (.tuple #[]) w) := by
  obtain ⟨s, h1, h2, h3, h4, h5, h6, h7, h8⟩ := h.rb hk
  have x1 := qcrashed_fl s l
  obtain ⟨x2, x3⟩ := qcrashed_keep s l
  obtain ⟨c1, c2, c3⟩ := crash_q d l
  have l1 := h.lim.q
  have l2 := h.lim.armed
  have l3 := h.lim.lost
  exact (rcrash_any r B s A cap l w h1 hl (by omega) (by omega) (by omega) h6.big (fun x hx => by have := h6.qn x hx; omega)).mono fun e w' ⟨he, y1, y2⟩ => ⟨he, ⟨⟨_, y1, rep_crashed h2 l, by omega, by rw [x2]; exact h4⟩, Dk.ok_crash h.ok l, ⟨by omega, by omega, by rw [c3]; exact l3⟩⟩, y2⟩
theorem rd_size (h : RD r B d k w) (hk : k ≤ 300) (f : Int) : Calls Tryz.prog 29 #[.pointer (some ⟨r, 0, none⟩), .int .i64 f] w fun e w' => e = .returned (.int .i64 ((d.now f).length : Int)) ∧ Below w.heap.size w w' := by
  obtain ⟨s, h1, h2, h3, h4⟩ := h.ex
  have e : (rget s.fl f).2.1.size = (d.now f).length := by rw [← h2.now f]; exact Array.length_toList.symm
  rw [← e]
  exact rSize_any r B s f w h1 (by omega)
theorem rd_read (h : RD r B d k w) (hk : k ≤ 300) (f a n : Int) (ha : In64 a) (hn : In64 n) : Calls Tryz.prog 28 #[.pointer (some ⟨r, 0, none⟩), .int .i64 f, .int .i64 a, .int .i64 n] w (MRead (d.read f a n) w) := by
  obtain ⟨s, h1, h2, h3, h4⟩ := h.ex
  refine (rread_any r B s f a n w h1 (by omega) ha hn (qbig_of h2 h.ok f).1).mono fun e w' ⟨⟨b, he, hb⟩, h5⟩ => ?_
  rw [rep_read h2] at he hb
  exact ⟨b, he, hb, h5⟩
theorem rd_new (B : Nat) (w : World) (hB : B ≤ w.heap.size) : Calls Tryz.prog 7 #[] w fun e w' => e = .returned (.pointer (some ⟨w.heap.size, 0, none⟩)) ∧ RD w.heap.size B Dk.new 0 w' ∧ Below w.heap.size w w' :=
  (rnew_any B w hB).mono fun e w' ⟨he, h1, h2, _⟩ => ⟨he, ⟨⟨_, h1, rep_new, Nat.zero_le _, Nat.zero_le _⟩, Dk.ok_new, ⟨Nat.le_refl _, Nat.zero_le _, Nat.zero_le _⟩⟩, h2⟩
end

end Go.Proofs.YtbpkcgkcamkggaaGreatDoor
