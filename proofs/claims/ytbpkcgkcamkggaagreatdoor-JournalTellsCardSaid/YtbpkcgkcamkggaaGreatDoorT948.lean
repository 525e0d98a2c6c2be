/-
  JournalTells: what holds between the operations, and what each pair of calls leaves of it.
-/
import Derived.Test.YtbpkcgkcamkggaaGreatDoorT946
import Derived.Test.YtbpkcgkcamkggaaGreatDoorT947
set_option linter.unusedVariables false
set_option maxRecDepth 100000
namespace Go.Proofs.YtbpkcgkcamkggaaGreatDoor
open Go.RowKit W

/-- no operation that lies in a block of its own has turned. -/
def OpK (w w' : World) : Prop := ∀ (b : Nat) (c : Array Value) (z : Nat × Nat), w.heap[b]? = some (.cells c 38 z) → w'.heap[b]? = some (.cells c 38 z)
theorem OpK.of_below {w w' : World} (h : Below w.heap.size w w') : OpK w w' := fun b c z hb => (h.block b (brow_lt hb)).trans hb
theorem OpK.of_q {B : Nat} {w w' : World} (h : QFr B w w') : OpK w w' := fun b c z hb => (h.kind hb (by decide) (by decide) (by decide)).trans hb
theorem OpK.of_r {B : Nat} {w w' : World} (h : RFr B w w') : OpK w w' := OpK.of_q (QFr.of_r h)
theorem OpK.of_held {W : World} {r : Nat} {L : Lay} {d : Dk} {n : Nat} {O' : Nat → Prop} {w w' : World} (h : Held W r L d n w) (k : MStep (Own r L) O' w w') : OpK w w' := fun b c z hb =>
  (k.fr.block b (brow_lt hb) (h.at_.int_free hb (by decide) (by decide) (by decide) (by decide))).trans hb
theorem OpK.of_jh {W : World} {r : Nat} {L : Lay} {d : Dk} {n rj : Nat} {v : Value} {f : Int} {R : List (List UInt8)} {bad : Bool} {O' : Nat → Prop} {w w' : World} (h : JH W r L d n rj v f R bad w) (k : MStep (MO r L rj v) O' w w') : OpK w w' := fun b c z hb => by
  refine (k.fr.block b (brow_lt hb) ?_).trans hb
  rintro (ho | ho)
  · exact h.disk.int_free hb (by decide) (by decide) (by decide) (by decide) ho
  · obtain ⟨c2, T2, hc, hT2⟩ := h.jrn.kind ho
    rw [hb] at hc
    simp only [Option.some.injEq, Obj.cells.injEq] at hc
    obtain ⟨_, e, _⟩ := hc
    rcases hT2 with e2 | e2 <;> (rw [e2] at e; exact absurd e (by decide))

/-- the two disks, without their journals. -/
def JTD (W : World) (r r2 k : Nat) (w : World) : Prop := ∃ (L : Lay) (d : Dk) (n : Nat), n ≤ 300 * k ∧ Held W r L d n w ∧ RD r2 W.heap.size d (4 * k) w
/-- .. with their journals. -/
def JTI (W : World) (r r2 k : Nat) (j q : Value) (w : World) : Prop := ∃ (L : Lay) (d : Dk) (n : Nat), n ≤ 300 * k ∧ RD r2 W.heap.size d (4 * k) w ∧
  ((j = .pointer none ∧ q = .pointer none ∧ Held W r L d n w) ∨
   (∃ rj v rk R bad, j = .pointer (some ⟨rj, 0, none⟩) ∧ q = .pointer (some ⟨rk, 0, none⟩) ∧ JH W r L d n rj v 3 R bad w ∧ KAt rk r2 W.heap.size 3 R bad (MO r L rj v) w ∧ (forms R).length ≤ 16777216))

section
variable {W : World} {r r2 k : Nat} {j q : Value} {w w' : World}
theorem JTI.shape (h : JTI W r r2 k j q w) : (j = .pointer none ∧ q = .pointer none) ∨ ∃ rj rk, j = .pointer (some ⟨rj, 0, none⟩) ∧ q = .pointer (some ⟨rk, 0, none⟩) := by
  obtain ⟨L, d, n, h1, h2, ⟨h3, h4, _⟩ | ⟨rj, v, rk, R, bad, h3, h4, _⟩⟩ := h
  · exact .inl ⟨h3, h4⟩
  · exact .inr ⟨rj, rk, h3, h4⟩
theorem JTI.disk (h : JTI W r r2 k j q w) : JTD W r r2 k w := by
  obtain ⟨L, d, n, h1, h2, ⟨h3, h4, h5⟩ | ⟨rj, v, rk, R, bad, h3, h4, h5, _⟩⟩ := h
  · exact ⟨L, d, n, h1, h5, h2⟩
  · exact ⟨L, d, n, h1, h5.held, h2⟩
theorem JTD.bel (h : JTD W r r2 k w) : Below W.heap.size W w := by
  obtain ⟨L, d, n, _, h1, _⟩ := h
  exact h1.bel
theorem JTI.bel (h : JTI W r r2 k j q w) : Below W.heap.size W w := h.disk.bel
theorem JTI.below (h : JTI W r r2 k j q w) (hb : Below w.heap.size w w') : JTI W r r2 k j q w' := by
  obtain ⟨L, d, n, h1, h2, ⟨h3, h4, h5⟩ | ⟨rj, v, rk, R, bad, h3, h4, h5, h6, h7⟩⟩ := h
  · exact ⟨L, d, n, h1, h2.below hb, .inl ⟨h3, h4, h5.below hb⟩⟩
  · exact ⟨L, d, n, h1, h2.below hb, .inr ⟨rj, v, rk, R, bad, h3, h4, h5.below hb, h6.below hb, h7⟩⟩
theorem JTD.below (h : JTD W r r2 k w) (hb : Below w.heap.size w w') : JTD W r r2 k w' := by
  obtain ⟨L, d, n, h1, h2, h3⟩ := h
  exact ⟨L, d, n, h1, h2.below hb, h3.below hb⟩
theorem JTI.next (h : JTI W r r2 k j q w) : JTI W r r2 (k + 1) j q w := by
  obtain ⟨L, d, n, h1, h2, h3⟩ := h
  exact ⟨L, d, n, by omega, h2.mono (by omega), h3⟩

theorem jappend_len (d : Dk) (f : Int) (R : List (List UInt8)) (bad : Bool) (s : List UInt8) (h : (forms R).length ≤ 16777216) : (forms (jappend d f R bad s).2.2.1).length ≤ 16777216 := by
  unfold jappend
  split
  · exact h
  split
  · exact h
  split
  · exact h
  split
  · exact h
  · simp only [forms_snoc, List.length_append]; omega

/-- what the second of two calls leaves. -/
def JTN (W : World) (r r2 k : Nat) (j q res : Value) (w : World) (e : Ending) (w' : World) : Prop := e = .returned res ∧ OpK w w' ∧ JTI W r r2 k j q w'

theorem jt_append {rj rk : Nat} (h : JTI W r r2 k (.pointer (some ⟨rj, 0, none⟩)) (.pointer (some ⟨rk, 0, none⟩)) w) (hk : k ≤ 70) (ht : Tab W) (s : ByteArray) (hs : s.size ≤ 200) :
    Calls Tryz.prog 12 #[.pointer (some ⟨rj, 0, none⟩), .string s] w fun e w' => ∃ c : Int, e = .returned (.int .i64 c) ∧ OpK w w' ∧
      Calls Tryz.prog 13 #[.pointer (some ⟨rk, 0, none⟩), .string s] w' (JTN W r r2 (k + 1) (.pointer (some ⟨rj, 0, none⟩)) (.pointer (some ⟨rk, 0, none⟩)) (.int .i64 c) w') := by
  obtain ⟨L, d, n, h1, h2, ⟨h3, _⟩ | ⟨rj', v, rk', R, bad, h3, h4, h5, h6, h7⟩⟩ := h
  · cases h3
  cases h3
  cases h4
  refine (hAppend h5 (by omega) in3 ht s (by omega) h7).mono ?_
  rintro e w' ⟨rfl, L', v', hj, hm⟩
  have hsz := hj.bel.size
  refine ⟨_, rfl, OpK.of_jh h5 hm, (qappend_any (h2.mstep hm h5.noref) (h6.mstep hm) (by omega) hsz (fun b hb => hj.lt hb) s hs h7).mono ?_⟩
  rintro e2 w2 ⟨rfl, y1, y2, y3⟩
  exact ⟨rfl, OpK.of_q y3, L', _, _, by omega, y1.mono (by omega), .inr ⟨rj, v', rk, _, _, rfl, rfl, hj.qfr y3, y2, jappend_len _ _ _ _ _ h7⟩⟩

theorem jt_sync {rj rk : Nat} (h : JTI W r r2 k (.pointer (some ⟨rj, 0, none⟩)) (.pointer (some ⟨rk, 0, none⟩)) w) (hk : k ≤ 70) :
    Calls Tryz.prog 14 #[.pointer (some ⟨rj, 0, none⟩)] w fun e w' => ∃ c : Int, e = .returned (.int .i64 c) ∧ OpK w w' ∧
      Calls Tryz.prog 15 #[.pointer (some ⟨rk, 0, none⟩)] w' (JTN W r r2 (k + 1) (.pointer (some ⟨rj, 0, none⟩)) (.pointer (some ⟨rk, 0, none⟩)) (.int .i64 c) w') := by
  obtain ⟨L, d, n, h1, h2, ⟨h3, _⟩ | ⟨rj', v, rk', R, bad, h3, h4, h5, h6, h7⟩⟩ := h
  · cases h3
  cases h3
  cases h4
  refine (hJSync h5 (by omega) in3).mono ?_
  rintro e w' ⟨rfl, L', v', hj, hm⟩
  refine ⟨_, rfl, OpK.of_jh h5 hm, (qsync_any (h2.mstep hm h5.noref) (h6.mstep hm) (by omega)).mono ?_⟩
  rintro e2 w2 ⟨rfl, y1, y2, y3⟩
  exact ⟨rfl, OpK.of_q y3, L', _, _, by omega, y1.mono (by omega), .inr ⟨rj, v', rk, _, _, rfl, rfl, hj.qfr y3, y2, h7⟩⟩

/-- the reference's disk turns: what stands beside it stays. -/
theorem jt_left {d' : Dk} {L : Lay} {n : Nat} (hn : n ≤ 300 * (k + 1)) (hor : (j = .pointer none ∧ q = .pointer none ∧ Held W r L d' n w) ∨
   (∃ rj v rk R bad, j = .pointer (some ⟨rj, 0, none⟩) ∧ q = .pointer (some ⟨rk, 0, none⟩) ∧ JH W r L d' n rj v 3 R bad w ∧ KAt rk r2 W.heap.size 3 R bad (MO r L rj v) w ∧ (forms R).length ≤ 16777216))
    {k' : Nat} (hk' : k' ≤ 4 * (k + 1)) {e : Ending} (h : RDLeft r2 W.heap.size d' k' (.tuple #[]) w e w') : JTN W r r2 (k + 1) j q (.tuple #[]) w e w' := by
  obtain ⟨he, h1, h2⟩ := h
  refine ⟨he, OpK.of_r h2, L, d', n, hn, h1.mono hk', ?_⟩
  rcases hor with ⟨a, b, c⟩ | ⟨rj, v, rk, R, bad, a, b, c, d1, e1⟩
  · exact .inl ⟨a, b, c.qfr (QFr.of_r h2)⟩
  · exact .inr ⟨rj, v, rk, R, bad, a, b, c.qfr (QFr.of_r h2), d1.rfr h2, e1⟩

theorem jt_lose (h : JTI W r r2 k j q w) (hk : k ≤ 70) {x : Int} (h64 : In64 x) :
    Calls Tryz.prog 16 #[.pointer (some ⟨r, 0, none⟩), .int .i64 x] w fun e w' => e = .returned (.tuple #[]) ∧ OpK w w' ∧
      Calls Tryz.prog 17 #[.pointer (some ⟨r2, 0, none⟩), .int .i64 x] w' (JTN W r r2 (k + 1) j q (.tuple #[]) w') := by
  obtain ⟨L, d, n, h1, h2, h3⟩ := h
  rcases h3 with ⟨h3, h4, h5⟩ | ⟨rj, v, rk, R, bad, h3, h4, h5, h6, h7⟩
  · refine (mLose h5.at_ h64).mono ?_
    rintro e w' ⟨he, L', hd, hs⟩
    have hm := MStep.of_p hs
    exact ⟨he, OpK.of_held h5 hm, (rd_lose (h2.mstep hm h5.noref) x h64).mono fun e2 w2 h => jt_left (n := n) (by omega) (.inl ⟨h3, h4, h5.step hd hs⟩) (by omega) h⟩
  · refine (jLose h5 h64).mono ?_
    rintro e w' ⟨he, L', hj, hm⟩
    exact ⟨he, OpK.of_jh h5 hm, (rd_lose (h2.mstep hm h5.noref) x h64).mono fun e2 w2 h => jt_left (n := n) (by omega) (.inr ⟨rj, v, rk, R, bad, h3, h4, hj, h6.mstep hm, h7⟩) (by omega) h⟩

/-- a list that came in, for the reference. -/
theorem jrow_krow {A : Option Addr} {l : List Int} (h : JRow W A l) (hb : Below W.heap.size W w) : KRow W.heap.size w A l := fun h0 => by
  obtain ⟨b, off, rfl, hl, hc⟩ := h h0
  refine ⟨b, off, rfl, Nat.lt_of_lt_of_le hl hb.size, .inl hl, fun j hj => ?_⟩
  rw [← hc j hj]
  exact World.cell?_of_block (hb.block b hl)
theorem jrow_none {A : Option Addr} {l : List Int} {ck : Nat} (h : JRow W A l) (hz : A = none → ck = 0) : A = none → l = [] ∧ ck = 0 := fun e => ⟨by
  by_cases c : 0 < l.length
  · obtain ⟨_, _, e2, _⟩ := h c
    rw [e] at e2; cases e2
  · exact List.eq_nil_of_length_eq_zero (by omega), hz e⟩

theorem jt_arm (h : JTI W r r2 k j q w) (hk : k ≤ 70) {x : Int} (h64 : In64 x) {A : Option Addr} {l : List Int} {cap : Nat} (hr : JRow W A l) (hz : A = none → cap = 0) (hl : l.length ≤ 50) :
    Calls Tryz.prog 18 #[.pointer (some ⟨r, 0, none⟩), .int .i64 x, .slice A l.length cap] w fun e w' => e = .returned (.tuple #[]) ∧ OpK w w' ∧
      Calls Tryz.prog 19 #[.pointer (some ⟨r2, 0, none⟩), .int .i64 x, .slice A l.length cap] w' (JTN W r r2 (k + 1) j q (.tuple #[]) w') := by
  obtain ⟨L, d, n, h1, h2, h3⟩ := h
  rcases h3 with ⟨h3, h4, h5⟩ | ⟨rj, v, rk, R, bad, h3, h4, h5, h6, h7⟩
  · refine (mArm h5.at_ h64 (hr.krd h5.bel h5.own cap).irow (by omega)).mono ?_
    rintro e w' ⟨he, L', hd, hs⟩
    have hm := MStep.of_p hs
    have hh := h5.step hd hs
    exact ⟨he, OpK.of_held h5 hm, (rd_arm (h2.mstep hm h5.noref) x h64 (jrow_krow hr hh.bel) (jrow_none hr hz) (by omega)).mono fun e2 w2 h => jt_left (n := n) (by omega) (.inl ⟨h3, h4, hh⟩) (by omega) h⟩
  · refine (jArm h5 h64 cap hr (by omega)).mono ?_
    rintro e w' ⟨he, L', hj, hm⟩
    exact ⟨he, OpK.of_jh h5 hm, (rd_arm (h2.mstep hm h5.noref) x h64 (jrow_krow hr hj.bel) (jrow_none hr hz) (by omega)).mono fun e2 w2 h => jt_left (n := n) (by omega) (.inr ⟨rj, v, rk, R, bad, h3, h4, hj, h6.mstep hm, h7⟩) (by omega) h⟩

/-- the two disks alone, k calls of the program's and m of the reference's. -/
def JTE (W : World) (r r2 k m : Nat) (w : World) : Prop := ∃ (L : Lay) (d : Dk) (n : Nat), n ≤ 300 * k ∧ Held W r L d n w ∧ RD r2 W.heap.size d m w
theorem JTD.e (h : JTD W r r2 k w) : JTE W r r2 k (4 * k) w := h
theorem JTE.bel {m : Nat} (h : JTE W r r2 k m w) : Below W.heap.size W w := by
  obtain ⟨L, d, n, _, h1, _⟩ := h
  exact h1.bel
def JEN (W : World) (r r2 k m : Nat) (w : World) (e : Ending) (w' : World) : Prop := e = .returned (.tuple #[]) ∧ OpK w w' ∧ JTE W r r2 k m w'

theorem jt_crash {m : Nat} (h : JTE W r r2 k m w) (hk : k ≤ 70) (hm : m ≤ 290) {A : Option Addr} {l : List Int} {cap : Nat} (hr : JRow W A l) (hl : l.length ≤ 50) :
    Calls Tryz.prog 20 #[.pointer (some ⟨r, 0, none⟩), .slice A l.length cap] w fun e w' => e = .returned (.tuple #[]) ∧ OpK w w' ∧
      Calls Tryz.prog 21 #[.pointer (some ⟨r2, 0, none⟩), .slice A l.length cap] w' (JEN W r r2 k (m + 1) w') := by
  obtain ⟨L, d, n, h1, h5, h2⟩ := h
  refine (mCrash h5.at_ (by omega) (hr.krd h5.bel h5.own cap) (by omega)).mono ?_
  rintro e w' ⟨he, L', hd, hs⟩
  have hmm := MStep.of_p hs
  have hh := h5.step hd hs
  refine ⟨he, OpK.of_held h5 hmm, (rd_crash (h2.mstep hmm h5.noref) (by omega) (jrow_krow hr hh.bel) (by omega)).mono ?_⟩
  rintro e2 w2 ⟨he2, y1, y2⟩
  exact ⟨he2, OpK.of_r y2, L', _, n, h1, hh.qfr (QFr.of_r y2), y1⟩
theorem jt_start {m : Nat} (h : JTE W r r2 k m w) :
    Calls Tryz.prog 22 #[.pointer (some ⟨r, 0, none⟩)] w fun e w' => e = .returned (.tuple #[]) ∧ OpK w w' ∧
      Calls Tryz.prog 23 #[.pointer (some ⟨r2, 0, none⟩)] w' (JEN W r r2 k m w') := by
  obtain ⟨L, d, n, h1, h5, h2⟩ := h
  refine (mStart h5.at_).mono ?_
  rintro e w' ⟨he, L', hd, hs⟩
  have hmm := MStep.of_p hs
  have hh := h5.step hd hs
  refine ⟨he, OpK.of_held h5 hmm, (rd_start (h2.mstep hmm h5.noref)).mono ?_⟩
  rintro e2 w2 ⟨he2, y1, y2⟩
  exact ⟨he2, OpK.of_r y2, L', _, n, h1, hh.qfr (QFr.of_r y2), y1⟩

theorem jopen_forms (d : Dk) (f : Int) (h : Dk.Ok d) : (forms (jopen d f).2.2).length ≤ 16777216 := by
  have hb := (Dk.ok_sync h f).big f
  have hr := recs_le (s := (d.sync f).1.now f) (by unfold maxI; omega)
  unfold jopen
  split
  · simp [forms]
  split
  · simp [forms]
  split
  · split
    · simp [forms]
    · simp only; omega
  · simp only; omega

theorem jt_open {m : Nat} (h : JTE W r r2 k m w) (hk : k ≤ 70) (hm : m ≤ 4 * k + 2) :
    Calls Tryz.prog 8 #[.pointer (some ⟨r, 0, none⟩), .int .i64 3] w fun e w' => ∃ (j : Value) (c : Int), e = .returned (.tuple #[j, .int .i64 c]) ∧ OpK w w' ∧
      Calls Tryz.prog 9 #[.pointer (some ⟨r2, 0, none⟩), .int .i64 3] w' fun e2 w2 => ∃ q, e2 = .returned (.tuple #[q, .int .i64 c]) ∧ OpK w' w2 ∧ JTI W r r2 (k + 1) j q w2 := by
  obtain ⟨L, d, n, h1, h5, h2⟩ := h
  have hfl := jopen_forms d 3 h2.ok
  refine (hOpen h5 (by omega) in3).mono ?_
  rintro e w' (⟨hz, he, L', hh, hs⟩ | ⟨hz, L', rj, v, he, hj, hs⟩)
  · refine ⟨_, _, he, OpK.of_held h5 hs, (qopen_any (h2.mstep hs h5.noref) (by omega) hh.bel.size in3).mono ?_⟩
    rintro e2 w2 ⟨y1, y2, ⟨hz2, he2⟩ | ⟨hz2, _⟩⟩
    · exact ⟨_, he2, OpK.of_q y2, L', _, n, by omega, y1.mono (by omega), .inl ⟨rfl, rfl, hh.qfr y2⟩⟩
    · exact absurd hz2 hz
  · refine ⟨_, _, he, OpK.of_held h5 hs, (qopen_any (h2.mstep hs h5.noref) (by omega) hj.bel.size in3).mono ?_⟩
    rintro e2 w2 ⟨y1, y2, ⟨hz2, he2⟩ | ⟨hz2, rk, he2, y3⟩⟩
    · exact absurd hz hz2
    · exact ⟨_, he2, OpK.of_q y2, L', _, n, by omega, y1.mono (by omega), .inr ⟨rj, v, rk, _, _, rfl, rfl, hj.qfr y2, y3.sub (fun b hb => hj.lt hb), hfl⟩⟩
end

end Go.Proofs.YtbpkcgkcamkggaaGreatDoor
