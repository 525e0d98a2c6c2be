/-
  A disk in a law: over the world in which the law was called. The law's small helpers.
-/
import Derived.Test.YtkbffhlkbcdgnaaNa
set_option linter.unusedVariables false
set_option maxRecDepth 100000
namespace Go.Proofs.Ytkbffhlkbcdgnaa
open Go.RowKit

/-- a disk that has come into being since W. -/
structure Held (W : World) (r : Nat) (L : Lay) (d : Dk) (n : Nat) (w : World) : Prop where
  at_ : DAt r L d n w
  bel : Below W.heap.size W w
  own : ∀ b, Own r L b → W.heap.size ≤ b
theorem Held.step {W : World} {r : Nat} {L L' : Lay} {d d' : Dk} {n n' : Nat} {w w' : World} (h : Held W r L d n w) (hd : DAt r L' d' n' w') (k : PStep r L L' w w') : Held W r L' d' n' w' :=
  ⟨hd, h.bel.trans (k.fr.below h.bel.size h.own), fun b hb => by
    rcases k.own b hb with h1 | h1
    · exact h.own b h1
    · exact Nat.le_trans h.bel.size h1⟩
theorem Held.below {W : World} {r : Nat} {L : Lay} {d : Dk} {n : Nat} {w w' : World} (h : Held W r L d n w) (hb : Below w.heap.size w w') : Held W r L d n w' :=
  ⟨h.at_.below hb, h.bel.trans (hb.mono h.bel.size), h.own⟩
theorem Held.mono {W : World} {r : Nat} {L : Lay} {d : Dk} {n m : Nat} {w : World} (h : Held W r L d n w) (hn : n ≤ m) : Held W r L d m w := ⟨h.at_.mono hn, h.bel, h.own⟩

/-- what a method of the disk leaves in a law. -/
def HLeft (W : World) (r : Nat) (d' : Dk) (n' : Nat) (res : Value) (e : Ending) (w' : World) : Prop := e = .returned res ∧ ∃ L', Held W r L' d' n' w'
theorem Held.left {W : World} {r : Nat} {L : Lay} {d d' : Dk} {n n' : Nat} {w w' : World} {res : Value} {e : Ending} (h : Held W r L d n w) (hm : MLeft r L d' n' res w e w') : HLeft W r d' n' res e w' := by
  obtain ⟨he, L', hd, hs⟩ := hm
  exact ⟨he, L', h.step hd hs⟩

section
variable {W : World} {r : Nat} {L : Lay} {d : Dk} {n : Nat} {w : World}
theorem hDo (h : Held W r L d n w) (hn : n ≤ 137438953472) (x : DAct) (hx : ActOk x) (hs : x.s.size ≤ 300) (hk : x.kl.length ≤ 60) {A : Option Addr} {cap : Nat} (hr : JRow W A x.kl) :
    Calls Try.prog 8 #[.pointer (some ⟨r, 0, none⟩), .agg #[.int .i64 x.k, .int .i64 x.f, .int .i64 x.n, .string x.s, .slice A x.kl.length cap]] w (HLeft W r (astep d x).1 (n + 302) (.int .i64 (astep d x).2)) :=
  (do_any h.at_ hn x hx (by omega) (by omega) (hr.krd h.bel h.own cap)).mono fun e w' hm => by
    obtain ⟨he, L', hh⟩ := h.left hm
    exact ⟨he, L', hh.mono (by omega)⟩
theorem hSync (h : Held W r L d n w) (hn : n ≤ 137438953472) {f : Int} (h64 : In64 f) : Calls Try.prog 15 #[.pointer (some ⟨r, 0, none⟩), .int .i64 f] w (HLeft W r (d.sync f).1 n (.int .i64 (d.sync f).2)) :=
  (mSync h.at_ hn h64).mono fun e w' hm => h.left hm
theorem hTrunc (h : Held W r L d n w) (hn : n ≤ 137438953472) {f k : Int} (h64 : In64 f) (hk : In64 k) : Calls Try.prog 21 #[.pointer (some ⟨r, 0, none⟩), .int .i64 f, .int .i64 k] w (HLeft W r (d.trunc f k).1 n (.int .i64 (d.trunc f k).2)) :=
  (mTrunc h.at_ hn h64 hk).mono fun e w' hm => h.left hm
theorem hWrite (h : Held W r L d n w) (hn : n ≤ 137438953472) {f a : Int} (h64 : In64 f) (ha : In64 a) (s : ByteArray) (hs : s.size ≤ 300) : Calls Try.prog 18 #[.pointer (some ⟨r, 0, none⟩), .int .i64 f, .int .i64 a, .string s] w (HLeft W r (d.write f a s.data.toList).1 (n + 302) (.int .i64 (d.write f a s.data.toList).2)) :=
  (mWrite h.at_ hn h64 ha s (by omega)).mono fun e w' hm => by
    obtain ⟨he, L', hh⟩ := h.left hm
    exact ⟨he, L', hh.mono (by omega)⟩
theorem hCrash (h : Held W r L d n w) (hn : n ≤ 137438953472) {A : Option Addr} {l : List Int} (cap : Nat) (hr : JRow W A l) (hl : l.length ≤ 60) : Calls Try.prog 19 #[.pointer (some ⟨r, 0, none⟩), .slice A l.length cap] w (HLeft W r (d.crash l) n (.tuple #[])) :=
  (mCrash h.at_ hn (hr.krd h.bel h.own cap) (by omega)).mono fun e w' hm => h.left hm
theorem hCrash0 (h : Held W r L d n w) (hn : n ≤ 137438953472) : Calls Try.prog 19 #[.pointer (some ⟨r, 0, none⟩), .slice none 0 0] w (HLeft W r (d.crash []) n (.tuple #[])) :=
  hCrash (l := []) h hn 0 (fun h => absurd h (by simp)) (by simp)
theorem hArm (h : Held W r L d n w) {k : Int} (h64 : In64 k) {A : Option Addr} {l : List Int} (cap : Nat) (hr : JRow W A l) (hl : l.length ≤ 60) : Calls Try.prog 23 #[.pointer (some ⟨r, 0, none⟩), .int .i64 k, .slice A l.length cap] w (HLeft W r (d.arm k l) n (.tuple #[])) :=
  (mArm h.at_ h64 (hr.krd h.bel h.own cap).irow (by omega)).mono fun e w' hm => h.left hm
theorem hArm0 (h : Held W r L d n w) {k : Int} (h64 : In64 k) : Calls Try.prog 23 #[.pointer (some ⟨r, 0, none⟩), .int .i64 k, .slice none 0 0] w (HLeft W r (d.arm k []) n (.tuple #[])) :=
  hArm (l := []) h h64 0 (fun h => absurd h (by simp)) (by simp)
theorem hStart (h : Held W r L d n w) : Calls Try.prog 20 #[.pointer (some ⟨r, 0, none⟩)] w (HLeft W r d.start n (.tuple #[])) :=
  (mStart h.at_).mono fun e w' hm => h.left hm
/-- what a read gives in a law. -/
def HRead (W : World) (r : Nat) (L : Lay) (d : Dk) (n : Nat) (res : List UInt8 × Int) (e : Ending) (w' : World) : Prop :=
  ∃ s : ByteArray, e = .returned (.tuple #[.string s, .int .i64 res.2]) ∧ s.data.toList = res.1 ∧ Held W r L d n w'
theorem hRead (h : Held W r L d n w) (hn : n ≤ 137438953472) {f a k : Int} (h64 : In64 f) (ha : In64 a) (hk : In64 k) : Calls Try.prog 16 #[.pointer (some ⟨r, 0, none⟩), .int .i64 f, .int .i64 a, .int .i64 k] w (HRead W r L d n (d.read f a k)) :=
  (mRead h.at_ hn h64 ha hk).mono fun e w' ⟨s, he, hs, hb⟩ => ⟨s, he, hs, h.below hb⟩
end
theorem hNew {W w : World} (hb : Below W.heap.size W w) : Calls Try.prog 6 #[] w fun e w' => ∃ r L, e = .returned (.pointer (some ⟨r, 0, none⟩)) ∧ Held W r L Dk.new 0 w' ∧ Below w.heap.size w w' ∧ ∀ b, Own r L b → w.heap.size ≤ b :=
  (mNew w).mono fun e w' ⟨r, L, he, hd, hbb, ho⟩ => ⟨r, L, he, ⟨hd, hb.trans (hbb.mono hb.size), fun b h => Nat.le_trans hb.size (ho b h)⟩, hbb, ho⟩

/-- the bounds of few. -/
def Few (l : List DAct) : Prop := l.length ≤ 40 ∧ ∀ x ∈ l, x.s.size ≤ 300 ∧ x.kl.length ≤ 60
def FewPost (l : List DAct) (w : World) (e : Ending) (w' : World) : Prop := ∃ b : Bool, e = .returned (.bool b) ∧ (b = true → Few l) ∧ Below w.heap.size w w'
theorem below_drew (w : World) (n : Nat) : Below w.heap.size w (w.drewN n) := ⟨rfl, rfl, rfl, Nat.le_refl _, fun _ _ => rfl⟩
theorem no_few {l : List DAct} {w : World} (n : Nat) : FewPost l w (.returned (.bool false)) (w.drewN n) := ⟨false, rfl, (fun h => nomatch h), below_drew w n⟩

set_option maxRecDepth 100000 in
set_option maxHeartbeats 4000000 in
theorem few_any (A : Option Addr) (cap : Nat) (l : List DAct) (w : World) (hl : l.length ≤ 9223372036854775807) (hok : ∀ v ∈ l, ActOk v) (hA : Acts w A l) :
    Calls Try.prog 5 #[.slice A l.length cap] w (FewPost l w) := by
  have HO := Lib.hid hok; clear hok
  have HA := Lib.hid hA; clear hA
  go_enter Try.func5, Try.ntmps5
  go_wp2
  go_loopw [3] (fun i wr => ∃ (k m : Nat), k ≤ l.length ∧ i = .int .i64 k ∧ Hid (∀ j (h : j < l.length), j < k → l[j].s.size ≤ 300 ∧ l[j].kl.length ≤ 60) ∧ wr = w.drewN m) (fun i _ => l.length - (intOf i).toNat)
  case atStart => exact ⟨0, 0, Nat.zero_le _, rfl, Lib.hid (fun j _ h => absurd h (by omega)), rfl⟩
  case round =>
    obtain ⟨k, m, hk, rfl, hP, rfl⟩ := hrel
    by_cases hlt : k < l.length
    · obtain ⟨b, off, rfl, hb, hv⟩ := HA.out (by omega)
      obtain ⟨AK, ck, _, hc⟩ := hv k hlt
      have v3 := hc 3 _ rfl
      have v4 := hc 4 _ rfl
      have v2 := hc 2 _ rfl
      have hok := HO.out l[k] (List.getElem_mem hlt)
      have hz := hok.s
      have hy := hok.len
      have ⟨n0, n1⟩ := hok.n
      have hnext : Hid (l[k].s.size ≤ 300 → l[k].kl.length ≤ 60 → ∀ j (h : j < l.length), j < k + 1 → l[j].s.size ≤ 300 ∧ l[j].kl.length ≤ 60) := Lib.hid (fun h1 h2 j h hj => by
        by_cases e : j < k
        · exact hP.out j h e
        · obtain rfl : j = k := by omega
          exact ⟨h1, h2⟩)
      clear hc hv hok hP
      generalize l[k] = v at *
      have hi0 : (0 : Int) ≤ (k : Int) := by omega
      have hi1 : (k : Int) < (l.length : Int) := by omega
      by_cases h1 : v.s.size ≤ 300
      · have h1' : (v.s.size : Int) ≤ 300 := by omega
        by_cases h2 : v.kl.length ≤ 60
        · have h2' : (v.kl.length : Int) ≤ 60 := by omega
          have HN := hnext.out h1 h2
          have HNN := Lib.hid HN
          clear HN hnext
          by_cases h3 : v.n ≤ 3000
          · go_wp2
            go_roundw
            case rel => exact ⟨k + 1, m, by omega, by go_num, HNN, rfl⟩
            case measure => simp [intOf]; omega
          · by_cases h4 : v.n < 16776916
            · have h3' : 3000 < v.n := by omega
              go_wp2
              go_ret
              exact no_few m
            · have h3' : 3000 < v.n := by omega
              have h4' : 16776916 ≤ v.n := by omega
              go_wp2
              go_roundw
              case rel => exact ⟨k + 1, m, by omega, by go_num, HNN, rfl⟩
              case measure => simp [intOf]; omega
        · have h2' : (60 : Int) < (v.kl.length : Int) := by omega
          go_wp2
          go_ret
          exact no_few m
      · have h1' : (300 : Int) < (v.s.size : Int) := by omega
        go_wp2
        go_ret
        exact no_few m
    · obtain rfl : k = l.length := by omega
      have hfull : Hid (∀ x ∈ l, x.s.size ≤ 300 ∧ x.kl.length ≤ 60) := Lib.hid (fun x hx => by
        obtain ⟨j, hj, rfl⟩ := List.getElem_of_mem hx
        exact hP.out j hj hj)
      go_wp2
      go_ret
      exact ⟨decide ((l.length : Int) ≤ 40), rfl, fun h => ⟨by have := of_decide_eq_true h; omega, hfull.out⟩, below_drew w m⟩

end Go.Proofs.Ytkbffhlkbcdgnaa
