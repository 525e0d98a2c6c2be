/-
  A disk and its journal in a law: over the world in which the law was called.
-/
import Derived.Test.YtncadnmoiiiahaaDoorJg
set_option linter.unusedVariables false
set_option maxRecDepth 100000
namespace Go.Proofs.YtncadnmoiiiahaaDoor
open Go.RowKit W

/-- a disk and a journal of it, that have come into being since W. -/
structure JH (W : World) (r : Nat) (L : Lay) (d : Dk) (n : Nat) (rj : Nat) (v : Value) (f : Int) (R : List (List UInt8)) (bad : Bool) (w : World) : Prop where
  disk : DAt r L d n w
  jrn : JAt rj v r f R bad w
  bel : Below W.heap.size W w
  own : ∀ b, MO r L rj v b → W.heap.size ≤ b

theorem MStep.widen {O P O' : Nat → Prop} {w w' : World} (h : MStep O O' w w') (hs : ∀ b, O b → P b) : MStep P O' w w' := ⟨h.fr.widen hs, fun b hb => (h.own b hb).imp (hs b) id⟩
theorem MStep.sub {O O' P : Nat → Prop} {w w' : World} (h : MStep O O' w w') (hs : ∀ b, P b → O' b) : MStep O P w w' := ⟨h.fr, fun b hb => h.own b (hs b hb)⟩
theorem MStep.of_p {r : Nat} {L L' : Lay} {w w' : World} (k : PStep r L L' w w') : MStep (Own r L) (Own r L') w w' := ⟨k.fr, k.own⟩

section
variable {W : World} {r : Nat} {L L' : Lay} {d d' : Dk} {n n' : Nat} {rj : Nat} {v v' : Value} {f : Int} {R R' : List (List UInt8)} {bad bad' : Bool} {w w' : World}
theorem JH.held (h : JH W r L d n rj v f R bad w) : Held W r L d n w := ⟨h.disk, h.bel, fun b hb => h.own b (.inl hb)⟩
theorem JH.lt (h : JH W r L d n rj v f R bad w) {b : Nat} (hb : MO r L rj v b) : b < w.heap.size := by
  rcases hb with hb | hb
  · exact h.disk.own_lt hb
  · exact h.jrn.lt hb
theorem JH.to (h : JH W r L d n rj v f R bad w) (hd : DAt r L' d' n' w') (hj : JAt rj v' r f R' bad' w') (k : MStep (MO r L rj v) (MO r L' rj v') w w') : JH W r L' d' n' rj v' f R' bad' w' :=
  ⟨hd, hj, h.bel.trans (k.fr.below h.bel.size h.own), fun b hb => by
    rcases k.own b hb with h1 | h1
    · exact h.own b h1
    · exact Nat.le_trans h.bel.size h1⟩
theorem JH.step (h : JH W r L d n rj v f R bad w) (hd : DAt r L' d' n' w') (k : PStep r L L' w w') : JH W r L' d' n' rj v f R bad w' ∧ MStep (MO r L rj v) (MO r L' rj v) w w' :=
  ⟨h.to hd (h.jrn.far h.disk k) (MStep.disk k rj v), MStep.disk k rj v⟩
theorem JH.below (h : JH W r L d n rj v f R bad w) (hb : Below w.heap.size w w') : JH W r L d n rj v f R bad w' := h.to (h.disk.below hb) (h.jrn.below hb) (MStep.of_below hb)
theorem JH.mono (h : JH W r L d n rj v f R bad w) (hn : n ≤ n') : JH W r L d n' rj v f R bad w := ⟨h.disk.mono hn, h.jrn, h.bel, h.own⟩

/-- what Open gives in a law. -/
def HOpen (W : World) (r : Nat) (L : Lay) (d : Dk) (n : Nat) (f : Int) (w : World) (e : Ending) (w' : World) : Prop :=
  ((jopen d f).2.1 ≠ 0 ∧ e = .returned (.tuple #[.pointer none, .int .i64 (jopen d f).2.1]) ∧ ∃ L', Held W r L' (jopen d f).1 n w' ∧ MStep (Own r L) (Own r L') w w') ∨
  ((jopen d f).2.1 = 0 ∧ ∃ L' rj v, e = .returned (.tuple #[.pointer (some ⟨rj, 0, none⟩), .int .i64 0]) ∧ JH W r L' (jopen d f).1 n rj v f (jopen d f).2.2 false w' ∧ MStep (Own r L) (MO r L' rj v) w w')
theorem hOpen (h : Held W r L d n w) (hn : n ≤ 137438953472) (h64 : In64 f) : Calls Tryd.prog 7 #[.pointer (some ⟨r, 0, none⟩), .int .i64 f] w (HOpen W r L d n f w) :=
  (jopen_any h.at_ hn h64).mono fun e w' ⟨L', hd, k, hor⟩ => by
    have hh := h.step hd k
    rcases hor with ⟨h1, h2⟩ | ⟨h1, rj, v, h2, hj, ho⟩
    · exact .inl ⟨h1, h2, L', hh, MStep.of_p k⟩
    · refine .inr ⟨h1, L', rj, v, h2, ⟨hd, hj, hh.bel, fun b hb => ?_⟩, ⟨k.fr, fun b hb => ?_⟩⟩
      · rcases hb with hb | hb
        · exact hh.own b hb
        · exact Nat.le_trans h.bel.size (ho b hb)
      · rcases hb with hb | hb
        · exact k.own b hb
        · exact .inr (ho b hb)
/-- Open where it succeeds. -/
theorem hOpen_ok (h : Held W r L d n w) (hn : n ≤ 137438953472) (h64 : In64 f) (h0 : (jopen d f).2.1 = 0) : Calls Tryd.prog 7 #[.pointer (some ⟨r, 0, none⟩), .int .i64 f] w fun e w' =>
    ∃ L' rj v, e = .returned (.tuple #[.pointer (some ⟨rj, 0, none⟩), .int .i64 0]) ∧ JH W r L' (jopen d f).1 n rj v f (jopen d f).2.2 false w' ∧ MStep (Own r L) (MO r L' rj v) w w' :=
  (hOpen h hn h64).mono fun e w' hor => by
    rcases hor with ⟨h1, _⟩ | ⟨_, h2⟩
    · exact absurd h0 h1
    · exact h2

/-- what All gives in a law. -/
def HAll (W : World) (r : Nat) (L : Lay) (d : Dk) (n : Nat) (rj : Nat) (v : Value) (f : Int) (R : List (List UInt8)) (bad : Bool) (w : World) (e : Ending) (w' : World) : Prop :=
  ∃ A cap, e = .returned (.slice A R.length cap) ∧ R.length ≤ cap ∧ TRow (MO r L rj v) w' A R ∧ JH W r L d n rj v f R bad w' ∧ Below w.heap.size w w'
theorem own_cap {w : World} {B e size n : Nat} {A : Option Addr} {m c : Nat} {xs : List Value} (h : w.ownsRow B e size (.slice A m c) n xs) : n ≤ c := by
  rcases h.2 with ⟨h1, rfl⟩ | ⟨g, cap, cur, h1, _, _, h4⟩
  · exact Nat.zero_le _
  · cases h1
    exact h4.1
theorem hAll (h : JH W r L d n rj v f R bad w) (hR : R.length ≤ 1099511627776) : Calls Tryd.prog 13 #[.pointer (some ⟨rj, 0, none⟩)] w (HAll W r L d n rj v f R bad w) :=
  (jall_any h.jrn hR).mono fun e w' ⟨v1, he, ho, hb⟩ => by
    obtain ⟨A, cap, rfl, hA⟩ := TRow.of_own (O := MO r L rj v) ho (fun b hb2 hm => by
      have := (ho.lt b hb2).1
      have := h.lt hm
      omega)
    exact ⟨A, cap, he, own_cap ho, hA, h.below hb, hb⟩

/-- what a writing method of the journal leaves in a law. -/
def HJLeft (W : World) (r : Nat) (L : Lay) (d' : Dk) (n' : Nat) (rj : Nat) (v : Value) (f : Int) (R' : List (List UInt8)) (bad' : Bool) (res : Int) (w : World) (e : Ending) (w' : World) : Prop :=
  e = .returned (.int .i64 res) ∧ ∃ L' v', JH W r L' d' n' rj v' f R' bad' w' ∧ MStep (MO r L rj v) (MO r L' rj v') w w'
theorem JH.left (h : JH W r L d n rj v f R bad w) {res : Int} {e : Ending} (k : JLeft r L rj v f d' n' R' bad' res w e w') : HJLeft W r L d' n' rj v f R' bad' res w e w' := by
  obtain ⟨he, L', v', hd, hj, _, hs⟩ := k
  exact ⟨he, L', v', h.to hd hj hs, hs⟩
theorem hAppend (h : JH W r L d n rj v f R bad w) (hn : n ≤ 137438953472) (h64 : In64 f) (ht : Tab W) (s : ByteArray) (hs : s.size ≤ 30000) (hR : (forms R).length ≤ 16777216) :
    Calls Tryd.prog 8 #[.pointer (some ⟨rj, 0, none⟩), .string s] w (HJLeft W r L (jappend d f R bad s.data.toList).1 (n + s.size + 50) rj v f (jappend d f R bad s.data.toList).2.2.1 (jappend d f R bad s.data.toList).2.2.2 (jappend d f R bad s.data.toList).2.1 w) :=
  (jappend_any h.disk h.jrn hn h64 (ht.on h.bel) s (by omega) hR).mono fun e w' k => h.left k
/-- .. whose result is known. -/
theorem hAppend_is (h : JH W r L d n rj v f R bad w) (hn : n ≤ 137438953472) (h64 : In64 f) (ht : Tab W) (s : ByteArray) (hs : s.size ≤ 30000) (hR : (forms R).length ≤ 16777216) {d2 : Dk} {c : Int} {R2 : List (List UInt8)} {b2 : Bool} (hj : jappend d f R bad s.data.toList = (d2, c, R2, b2)) :
    Calls Tryd.prog 8 #[.pointer (some ⟨rj, 0, none⟩), .string s] w (HJLeft W r L d2 (n + s.size + 50) rj v f R2 b2 c w) := by
  have := hAppend h hn h64 ht s hs hR
  rw [hj] at this
  exact this

/-- what a writing method of the disk leaves, beside a journal. -/
def HDLeft (W : World) (r : Nat) (L : Lay) (d' : Dk) (n' : Nat) (rj : Nat) (v : Value) (f : Int) (R : List (List UInt8)) (bad : Bool) (res : Value) (w : World) (e : Ending) (w' : World) : Prop :=
  e = .returned res ∧ ∃ L', JH W r L' d' n' rj v f R bad w' ∧ MStep (MO r L rj v) (MO r L' rj v) w w'
theorem JH.dleft (h : JH W r L d n rj v f R bad w) {res : Value} {e : Ending} (k : MLeft r L d' n' res w e w') : HDLeft W r L d' n' rj v f R bad res w e w' := by
  obtain ⟨he, L', hd, hs⟩ := k
  obtain ⟨h1, h2⟩ := h.step hd hs
  exact ⟨he, L', h1, h2⟩
theorem jWrite (h : JH W r L d n rj v f R bad w) (hn : n ≤ 137438953472) {g a : Int} (h64 : In64 g) (ha : In64 a) (s : ByteArray) (hs : s.size ≤ 16777216) : Calls Tryd.prog 11 #[.pointer (some ⟨r, 0, none⟩), .int .i64 g, .int .i64 a, .string s] w (HDLeft W r L (d.write g a s.data.toList).1 (n + s.size + 2) rj v f R bad (.int .i64 (d.write g a s.data.toList).2) w) :=
  (mWrite h.disk hn h64 ha s hs).mono fun e w' k => h.dleft k
def HJRead (W : World) (r : Nat) (L : Lay) (d : Dk) (n : Nat) (rj : Nat) (v : Value) (f : Int) (R : List (List UInt8)) (bad : Bool) (res : List UInt8 × Int) (w : World) (e : Ending) (w' : World) : Prop :=
  ∃ s : ByteArray, e = .returned (.tuple #[.string s, .int .i64 res.2]) ∧ s.data.toList = res.1 ∧ JH W r L d n rj v f R bad w' ∧ Below w.heap.size w w'
theorem jRead (h : JH W r L d n rj v f R bad w) (hn : n ≤ 137438953472) {g a k : Int} (h64 : In64 g) (ha : In64 a) (hk : In64 k) : Calls Tryd.prog 10 #[.pointer (some ⟨r, 0, none⟩), .int .i64 g, .int .i64 a, .int .i64 k] w (HJRead W r L d n rj v f R bad (d.read g a k) w) :=
  (mRead h.disk hn h64 ha hk).mono fun e w' ⟨s, he, hs, hb⟩ => ⟨s, he, hs, h.below hb, hb⟩
end

end Go.Proofs.YtncadnmoiiiahaaDoor
