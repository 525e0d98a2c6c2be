/-
  Acts, and what performing one does.
-/
import Derived.Test.YtkbffhlkbcdgnaaMw
import Derived.BigRegion
set_option linter.unusedVariables false
set_option maxRecDepth 100000
namespace Go.Proofs.Ytkbffhlkbcdgnaa
open Go.RowKit

/-- an act. -/
structure DAct where
  k : Int
  f : Int
  n : Int
  s : ByteArray
  kl : List Int
structure ActOk (x : DAct) : Prop where
  k : In64 x.k
  f : In64 x.f
  n : In64 x.n
  s : x.s.size ≤ 9223372036854775807
  len : x.kl.length ≤ 9223372036854775807
  kl : ∀ z ∈ x.kl, In64 z
/-- the model's step for an act. -/
def astep (d : Dk) (x : DAct) : Dk × Int := d.step (x.k % 8).toNat x.f x.n x.s.data.toList x.kl

/-- a list of ints that can be read. -/
def JRow (w : World) (A : Option Addr) (l : List Int) : Prop := 0 < l.length → ∃ b off, A = some ⟨b, off, none⟩ ∧ b < w.heap.size ∧ ∀ j (h : j < l.length), w.cell? ⟨b, off + j, none⟩ = some (.int .i64 l[j])
theorem JRow.below {w w' : World} {A : Option Addr} {l : List Int} (h : JRow w A l) (hb : Below w.heap.size w w') : JRow w' A l := fun h0 => by
  obtain ⟨b, off, rfl, hl, hc⟩ := h h0
  exact ⟨b, off, rfl, Nat.lt_of_lt_of_le hl hb.size, fun j hj => (hb.cell (p := ⟨b, off + j, none⟩) hl).trans (hc j hj)⟩
/-- read at a later world: no disk of its own owns it. -/
theorem JRow.krd {w w' : World} {A : Option Addr} {l : List Int} (h : JRow w A l) (hb : Below w.heap.size w w') {r : Nat} {L : Lay} (ho : ∀ b, Own r L b → w.heap.size ≤ b) (cap : Nat) : KRd r L w' (.slice A l.length cap) l := by
  refine ⟨A, cap, rfl, fun h0 => ?_⟩
  obtain ⟨b, off, rfl, hl, hc⟩ := h.below hb h0
  obtain ⟨b2, off2, e, hl2, _⟩ := h h0
  cases e
  exact ⟨b, off, rfl, hl, fun h1 => by have := ho b h1; omega, hc⟩

theorem and_seven (z : Int) : bits .and .i64 z 7 = z % 8 := by
  unfold bits
  simp
  have e : (2 : Int) ^ IntKind.i64.bits = 18446744073709551616 := by decide
  have e2 : (2 : Nat) ^ IntKind.i64.bits = 18446744073709551616 := by decide
  rw [e, e2, show 7 % 18446744073709551616 = 2 ^ 3 - 1 from rfl, Nat.and_two_pow_sub_one_eq_mod, IntKind.wrap_i64]
  omega
theorem and_three (z : Int) : bits .and .i64 z 3 = z % 4 := by
  unfold bits
  simp
  have e : (2 : Int) ^ IntKind.i64.bits = 18446744073709551616 := by decide
  have e2 : (2 : Nat) ^ IntKind.i64.bits = 18446744073709551616 := by decide
  rw [e, e2, show 3 % 18446744073709551616 = 2 ^ 2 - 1 from rfl, Nat.and_two_pow_sub_one_eq_mod, IntKind.wrap_i64]
  omega

theorem MLeft.after {r : Nat} {L : Lay} {d' : Dk} {n' n'' : Nat} {res res' : Value} {w w1 w' : World} {e : Ending} (h : MLeft r L d' n' res w1 e w') (hb : Below w.heap.size w w1) (hn : n' ≤ n'') : ∃ L', DAt r L' d' n'' w' ∧ PStep r L L' w w' := by
  obtain ⟨_, L', h1, h2⟩ := h
  exact ⟨L', h1.mono hn, (PStep.of_below hb).trans h2⟩


set_option maxHeartbeats 8000000 in
theorem do_any {r : Nat} {L : Lay} {d : Dk} {n : Nat} {w : World} (h : DAt r L d n w) (hn : n ≤ 137438953472) (x : DAct) (hx : ActOk x) (hs : x.s.size ≤ 16777216) (hk : x.kl.length ≤ 1099511627776) {A : Option Addr} {cap : Nat} (hr : KRd r L w (.slice A x.kl.length cap) x.kl) :
    Calls Try.prog 8 #[.pointer (some ⟨r, 0, none⟩), .agg #[.int .i64 x.k, .int .i64 x.f, .int .i64 x.n, .string x.s, .slice A x.kl.length cap]] w (MLeft r L (astep d x).1 (n + x.s.size + 2) (.int .i64 (astep d x).2) w) := by
  have hb1 : Below w.heap.size w (w.alloc (.cells #[.int .i64 x.k, .int .i64 x.f, .int .i64 x.n, .string x.s, .slice A x.kl.length cap] 33)) := (Below.refl _ _).alloc (Nat.le_refl _) _
  have H := Lib.hid (h.below hb1)
  have HR := Lib.hid (hr.step (PStep.of_below hb1))
  have HB := Lib.hid hb1
  have h7 := and_seven x.k
  have h3 := and_three x.n
  have HX := Lib.hid hx
  have HE : Hid (astep d x = d.step (x.k % 8).toNat x.f x.n x.s.data.toList x.kl) := Lib.hid rfl
  have h34 : Hid (In64 (x.n % 4)) := Lib.hid ⟨by omega, by omega⟩
  clear h hr hx hb1
  have hcases : x.k % 8 = 0 ∨ x.k % 8 = 1 ∨ x.k % 8 = 2 ∨ x.k % 8 = 3 ∨ x.k % 8 = 4 ∨ x.k % 8 = 5 ∨ x.k % 8 = 6 ∨ x.k % 8 = 7 := by omega
  rcases hcases with k7 | k7 | k7 | k7 | k7 | k7 | k7 | k7
  all_goals
    rw [k7] at h7
    rw [HE.out, k7]
    clear HE k7
  case inl | inr.inl =>
    go_enter Try.func8, Try.ntmps8
    go_wp2_with fail
    refine (mWrite H.out hn HX.out.f HX.out.n x.s hs).mono ?_
    rintro e w2 ⟨rfl, L', hd, hst⟩
    have HD := Lib.hid (show DAt r L' _ _ w2 ∧ PStep r L L' w w2 from ⟨hd, (PStep.of_below HB.out).trans hst⟩)
    clear hd hst
    go_wp2
    go_ret
    exact ⟨rfl, L', HD.out.1, HD.out.2⟩
  case inr.inr.inl =>
    go_enter Try.func8, Try.ntmps8
    go_wp2_with fail
    refine (mSync H.out hn HX.out.f).mono ?_
    rintro e w2 ⟨rfl, L', hd, hst⟩
    have HD := Lib.hid (show DAt r L' _ _ w2 ∧ PStep r L L' w w2 from ⟨hd.mono (m := n + x.s.size + 2) (by omega), (PStep.of_below HB.out).trans hst⟩)
    clear hd hst
    go_wp2
    go_ret
    exact ⟨rfl, L', HD.out.1, HD.out.2⟩
  case inr.inr.inr.inl =>
    go_enter Try.func8, Try.ntmps8
    go_wp2_with fail
    refine (mTrunc H.out hn HX.out.f HX.out.n).mono ?_
    rintro e w2 ⟨rfl, L', hd, hst⟩
    have HD := Lib.hid (show DAt r L' _ _ w2 ∧ PStep r L L' w w2 from ⟨hd.mono (m := n + x.s.size + 2) (by omega), (PStep.of_below HB.out).trans hst⟩)
    clear hd hst
    go_wp2
    go_ret
    exact ⟨rfl, L', HD.out.1, HD.out.2⟩
  case inr.inr.inr.inr.inl =>
    go_enter Try.func8, Try.ntmps8
    go_wp2_with fail
    refine (mLose H.out h34.out).mono ?_
    rintro e w2 ⟨rfl, L', hd, hst⟩
    have HD := Lib.hid (show DAt r L' _ _ w2 ∧ PStep r L L' w w2 from ⟨hd.mono (m := n + x.s.size + 2) (by omega), (PStep.of_below HB.out).trans hst⟩)
    clear hd hst
    go_wp2
    go_ret
    exact ⟨rfl, L', HD.out.1, HD.out.2⟩
  case inr.inr.inr.inr.inr.inl =>
    go_enter Try.func8, Try.ntmps8
    go_wp2_with fail
    refine (mArm H.out HX.out.n HR.out.irow hk).mono ?_
    rintro e w2 ⟨rfl, L', hd, hst⟩
    have HD := Lib.hid (show DAt r L' _ _ w2 ∧ PStep r L L' w w2 from ⟨hd.mono (m := n + x.s.size + 2) (by omega), (PStep.of_below HB.out).trans hst⟩)
    clear hd hst
    go_wp2
    go_ret
    exact ⟨rfl, L', HD.out.1, HD.out.2⟩
  case inr.inr.inr.inr.inr.inr.inl =>
    go_enter Try.func8, Try.ntmps8
    go_wp2_with fail
    refine (mCrash H.out hn HR.out hk).mono ?_
    rintro e w2 ⟨rfl, L', hd, hst⟩
    have HD := Lib.hid (show DAt r L' _ _ w2 ∧ PStep r L L' w w2 from ⟨hd.mono (m := n + x.s.size + 2) (by omega), (PStep.of_below HB.out).trans hst⟩)
    clear hd hst
    go_wp2
    go_ret
    exact ⟨rfl, L', HD.out.1, HD.out.2⟩
  case inr.inr.inr.inr.inr.inr.inr =>
    go_enter Try.func8, Try.ntmps8
    go_wp2_with fail
    refine (mStart H.out).mono ?_
    rintro e w2 ⟨rfl, L', hd, hst⟩
    have HD := Lib.hid (show DAt r L' _ _ w2 ∧ PStep r L L' w w2 from ⟨hd.mono (m := n + x.s.size + 2) (by omega), (PStep.of_below HB.out).trans hst⟩)
    clear hd hst
    go_wp2
    go_ret
    exact ⟨rfl, L', HD.out.1, HD.out.2⟩

/-- the acts that came in. -/
def actVals (x : DAct) (A : Option Addr) (cap : Nat) : List Value := [.int .i64 x.k, .int .i64 x.f, .int .i64 x.n, .string x.s, .slice A x.kl.length cap]
def Acts (w : World) (A : Option Addr) (l : List DAct) : Prop := 0 < l.length → ∃ b off, A = some ⟨b, off, none⟩ ∧ b < w.heap.size ∧
  ∀ i (h : i < l.length), ∃ AK ck, JRow w AK l[i].kl ∧ ∀ j u, (actVals l[i] AK ck)[j]? = some u → w.cell? ⟨b, off + i * 5 + j, none⟩ = some u
theorem Acts.below {w w' : World} {A : Option Addr} {l : List DAct} (h : Acts w A l) (hb : Below w.heap.size w w') : Acts w' A l := fun h0 => by
  obtain ⟨b, off, rfl, hl, hc⟩ := h h0
  refine ⟨b, off, rfl, Nat.lt_of_lt_of_le hl hb.size, fun i hi => ?_⟩
  obtain ⟨AK, ck, hr, hcc⟩ := hc i hi
  exact ⟨AK, ck, hr.below hb, fun j u hj => (hb.cell (p := ⟨b, off + i * 5 + j, none⟩) hl).trans (hcc j u hj)⟩

end Go.Proofs.Ytkbffhlkbcdgnaa
