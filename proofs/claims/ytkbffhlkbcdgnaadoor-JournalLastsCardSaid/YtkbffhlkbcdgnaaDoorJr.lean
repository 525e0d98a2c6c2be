/-
  JournalLasts: what holds between the operations, and what each call leaves of it.
-/
import Derived.Test.YtkbffhlkbcdgnaaDoorJp
import Derived.Test.YtkbffhlkbcdgnaaDoorJs
set_option linter.unusedVariables false
set_option maxRecDepth 100000
namespace Go.Proofs.YtkbffhlkbcdgnaaDoor
open Go.RowKit W

/-- the two lists that the law keeps: the one that may be there, the one that is sure. -/
structure LLists (k : Nat) (d : Dk) (a s : Value) (all sure : List (List UInt8)) (A : Option Addr) (ca : Nat) (S : Option Addr) (cs : Nat) : Prop where
  ea : a = .slice A all.length ca
  es : s = .slice S sure.length cs
  hca : all.length ≤ ca
  na : A = none → ca = 0
  pi : JPI d 3 sure all
  a200 : ∀ t ∈ all, t.length ≤ 200
  len : all.length ≤ k

/-- what holds between two operations: j, a, s are the variables of the journal and of the two lists. -/
def LInv (W : World) (r k : Nat) (j a s : Value) (w : World) : Prop :=
  ∃ (L : Lay) (d : Dk) (n : Nat) (all sure : List (List UInt8)) (A : Option Addr) (ca : Nat) (S : Option Addr) (cs : Nat), n ≤ 300 * k ∧ LLists k d a s all sure A ca S cs ∧
    ((j = .pointer none ∧ Held W r L d n w ∧ TRow (Own r L) w A all ∧ TRow (Own r L) w S sure) ∨
     (∃ rj v R bad, j = .pointer (some ⟨rj, 0, none⟩) ∧ JH W r L d n rj v 3 R bad w ∧ TRow (MO r L rj v) w A all ∧ TRow (MO r L rj v) w S sure ∧ (∀ t ∈ R, t.length ≤ 200) ∧ R.length ≤ k ∧ (bad = false → R = all ∧ d.now 3 = forms all)))
/-- .. of the disk d, without its journal. -/
def LDisk (W : World) (r k : Nat) (d : Dk) (a s : Value) (w : World) : Prop :=
  ∃ (L : Lay) (n : Nat) (all sure : List (List UInt8)) (A : Option Addr) (ca : Nat) (S : Option Addr) (cs : Nat), n ≤ 300 * k ∧ LLists k d a s all sure A ca S cs ∧ Held W r L d n w ∧ TRow (Own r L) w A all ∧ TRow (Own r L) w S sure

section
variable {W : World} {r k : Nat} {j a s : Value} {w w' : World} {d : Dk}
theorem LLists.next {all sure : List (List UInt8)} {A : Option Addr} {ca : Nat} {S : Option Addr} {cs : Nat} (h : LLists k d a s all sure A ca S cs) {d' : Dk} (hp : JPI d' 3 sure all) : LLists (k + 1) d' a s all sure A ca S cs :=
  ⟨h.ea, h.es, h.hca, h.na, hp, h.a200, by have := h.len; omega⟩
theorem LLists.to {all sure : List (List UInt8)} {A : Option Addr} {ca : Nat} {S : Option Addr} {cs : Nat} (h : LLists k d a s all sure A ca S cs) {d' : Dk} (hp : JPI d' 3 sure all) : LLists k d' a s all sure A ca S cs :=
  ⟨h.ea, h.es, h.hca, h.na, hp, h.a200, h.len⟩
theorem LInv.shape (h : LInv W r k j a s w) : j = .pointer none ∨ ∃ rj, j = .pointer (some ⟨rj, 0, none⟩) := by
  obtain ⟨_, _, _, _, _, _, _, _, _, _, _, h1 | ⟨rj, _, _, _, h1, _⟩⟩ := h
  · exact .inl h1.1
  · exact .inr ⟨rj, h1⟩
theorem LInv.bel (h : LInv W r k j a s w) : Below W.heap.size W w := by
  obtain ⟨_, _, _, _, _, _, _, _, _, _, _, h1 | ⟨rj, _, _, _, _, h1, _⟩⟩ := h
  · exact h1.2.1.bel
  · exact h1.bel
theorem LInv.next (h : LInv W r k j a s w) : LInv W r (k + 1) j a s w := by
  obtain ⟨L, d, n, all, sure, A, ca, S, cs, h1, h2, h3⟩ := h
  refine ⟨L, d, n, all, sure, A, ca, S, cs, by omega, h2.next h2.pi, h3.imp id ?_⟩
  rintro ⟨rj, v, R, bad, a1, a2, a3, a4, a5, a6, a7⟩
  exact ⟨rj, v, R, bad, a1, a2, a3, a4, a5, by omega, a7⟩
theorem LInv.below (h : LInv W r k j a s w) (hb : Below w.heap.size w w') : LInv W r k j a s w' := by
  obtain ⟨L, d, n, all, sure, A, ca, S, cs, h1, h2, h3⟩ := h
  refine ⟨L, d, n, all, sure, A, ca, S, cs, h1, h2, ?_⟩
  rcases h3 with ⟨e, h3, h4, h5⟩ | ⟨rj, v, R, bad, a1, a2, a3, a4, a5⟩
  · exact .inl ⟨e, h3.below hb, h4.below hb, h5.below hb⟩
  · exact .inr ⟨rj, v, R, bad, a1, a2.below hb, a3.below hb, a4.below hb, a5⟩
theorem LInv.disk (h : LInv W r k j a s w) : ∃ d, LDisk W r k d a s w := by
  obtain ⟨L, d, n, all, sure, A, ca, S, cs, h1, h2, h3⟩ := h
  rcases h3 with ⟨_, h3, h4, h5⟩ | ⟨rj, v, R, bad, a1, a2, a3, a4, a5⟩
  · exact ⟨d, L, n, all, sure, A, ca, S, cs, h1, h2, h3, h4, h5⟩
  · exact ⟨d, L, n, all, sure, A, ca, S, cs, h1, h2, a2.held, a3.sub (fun b _ hb => .inl hb), a4.sub (fun b _ hb => .inl hb)⟩

theorem linv_lose (h : LInv W r k j a s w) {x : Int} (h64 : In64 x) :
    Calls Tryd.prog 11 #[.pointer (some ⟨r, 0, none⟩), .int .i64 x] w fun e w' => e = .returned (.tuple #[]) ∧ LInv W r (k + 1) j a s w' := by
  obtain ⟨L, d, n, all, sure, A, ca, S, cs, h1, h2, h3⟩ := h
  rcases h3 with ⟨rfl, h3, h4, h5⟩ | ⟨rj, v, R, bad, rfl, a2, a3, a4, a5, a6, a7⟩
  · refine (mLose h3.at_ h64).mono ?_
    rintro e w' ⟨he, L', hd, hs⟩
    exact ⟨he, L', _, n, all, sure, A, ca, S, cs, by omega, h2.next (h2.pi.lose x), .inl ⟨rfl, h3.step hd hs, h4.step (MStep.of_p hs), h5.step (MStep.of_p hs)⟩⟩
  · refine (jLose a2 h64).mono ?_
    rintro e w' ⟨he, L', hh, hs⟩
    exact ⟨he, L', _, n, all, sure, A, ca, S, cs, by omega, h2.next (h2.pi.lose x), .inr ⟨rj, v, R, bad, rfl, hh, a3.step hs, a4.step hs, a5, by omega, a7⟩⟩
theorem linv_arm (h : LInv W r k j a s w) {x : Int} (h64 : In64 x) {X : Option Addr} {l : List Int} (cap : Nat) (hr : JRow W X l) (hl : l.length ≤ 60) :
    Calls Tryd.prog 12 #[.pointer (some ⟨r, 0, none⟩), .int .i64 x, .slice X l.length cap] w fun e w' => e = .returned (.tuple #[]) ∧ LInv W r (k + 1) j a s w' := by
  obtain ⟨L, d, n, all, sure, A, ca, S, cs, h1, h2, h3⟩ := h
  rcases h3 with ⟨rfl, h3, h4, h5⟩ | ⟨rj, v, R, bad, rfl, a2, a3, a4, a5, a6, a7⟩
  · refine (mArm h3.at_ h64 (hr.krd h3.bel h3.own cap).irow (by omega)).mono ?_
    rintro e w' ⟨he, L', hd, hs⟩
    exact ⟨he, L', _, n, all, sure, A, ca, S, cs, by omega, h2.next (h2.pi.arm x l), .inl ⟨rfl, h3.step hd hs, h4.step (MStep.of_p hs), h5.step (MStep.of_p hs)⟩⟩
  · refine (jArm a2 h64 cap hr hl).mono ?_
    rintro e w' ⟨he, L', hh, hs⟩
    exact ⟨he, L', _, n, all, sure, A, ca, S, cs, by omega, h2.next (h2.pi.arm x l), .inr ⟨rj, v, R, bad, rfl, hh, a3.step hs, a4.step hs, a5, by omega, a7⟩⟩
/-- a writing call of the disk alone. -/
theorem LDisk.left (h : LDisk W r k d a s w) {d' : Dk} {f : Nat → Nat} {res : Value} {F : FuncId} {args : Array Value} (hf : ∀ n, f n = n) (hp : ∀ all sure, JPI d 3 sure all → Dk.Ok d → JPI d' 3 sure all)
    (hm : ∀ L n, Held W r L d n w → n ≤ 300 * k → Calls Tryd.prog F args w (MLeft r L d' (f n) res w)) :
    Calls Tryd.prog F args w fun e w' => e = .returned res ∧ LDisk W r k d' a s w' := by
  obtain ⟨L, n, all, sure, A, ca, S, cs, h1, h2, h3, h4, h5⟩ := h
  refine (hm L n h3 h1).mono ?_
  rintro e w' ⟨he, L', hd, hs⟩
  rw [hf] at hd
  exact ⟨he, L', n, all, sure, A, ca, S, cs, h1, h2.to (hp _ _ h2.pi h3.at_.ok), h3.step hd hs, h4.step (MStep.of_p hs), h5.step (MStep.of_p hs)⟩
theorem ldisk_crash (h : LDisk W r k d a s w) (hk : k ≤ 100) {X : Option Addr} {l : List Int} (cap : Nat) (hr : JRow W X l) (hl : l.length ≤ 60) :
    Calls Tryd.prog 18 #[.pointer (some ⟨r, 0, none⟩), .slice X l.length cap] w fun e w' => e = .returned (.tuple #[]) ∧ LDisk W r k (d.crash l) a s w' :=
  h.left (f := fun n => n) (fun _ => rfl) (fun _ _ hp ho => hp.crash ho l) (fun L n hh hn => mCrash hh.at_ (by omega) (hr.krd hh.bel hh.own cap) (by omega))
theorem ldisk_start (h : LDisk W r k d a s w) : Calls Tryd.prog 19 #[.pointer (some ⟨r, 0, none⟩)] w fun e w' => e = .returned (.tuple #[]) ∧ LDisk W r k d.start a s w' :=
  h.left (f := fun n => n) (fun _ => rfl) (fun _ _ hp _ => hp.start) (fun L n hh hn => mStart hh.at_)
theorem ldisk_lose (h : LDisk W r k d a s w) {x : Int} (h64 : In64 x) : Calls Tryd.prog 11 #[.pointer (some ⟨r, 0, none⟩), .int .i64 x] w fun e w' => e = .returned (.tuple #[]) ∧ LDisk W r k (d.lose x) a s w' :=
  h.left (f := fun n => n) (fun _ => rfl) (fun _ _ hp _ => hp.lose x) (fun L n hh hn => mLose hh.at_ h64)
theorem ldisk_arm0 (h : LDisk W r k d a s w) {x : Int} (h64 : In64 x) : Calls Tryd.prog 12 #[.pointer (some ⟨r, 0, none⟩), .int .i64 x, .slice none 0 0] w fun e w' => e = .returned (.tuple #[]) ∧ LDisk W r k (d.arm x []) a s w' :=
  h.left (f := fun n => n) (fun _ => rfl) (fun _ _ hp _ => hp.arm x []) (fun L n hh hn => mArm hh.at_ h64 (v := .slice none 0 0) (keep := []) ((show JRow W none [] from fun h => absurd h (by simp)).krd hh.bel hh.own 0).irow (by simp))
theorem LDisk.below (h : LDisk W r k d a s w) (hb : Below w.heap.size w w') : LDisk W r k d a s w' := by
  obtain ⟨L, n, all, sure, A, ca, S, cs, h1, h2, h3, h4, h5⟩ := h
  exact ⟨L, n, all, sure, A, ca, S, cs, h1, h2, h3.below hb, h4.below hb, h5.below hb⟩
theorem LDisk.ok (h : LDisk W r k d a s w) : Dk.Ok d := by
  obtain ⟨L, n, all, sure, A, ca, S, cs, h1, h2, h3, h4, h5⟩ := h
  exact h3.at_.ok

/-- what Open gives where it succeeds: the records, between the two lists. -/
def LOpened (W : World) (r k rj : Nat) (A : Option Addr) (all : List (List UInt8)) (S : Option Addr) (sure R : List (List UInt8)) (w : World) : Prop :=
  ∃ (L : Lay) (d : Dk) (n : Nat) (v : Value), n ≤ 300 * k ∧ JH W r L d n rj v 3 R false w ∧ TRow (MO r L rj v) w A all ∧ TRow (MO r L rj v) w S sure ∧ Dk.Kept d 3 (forms R) ∧ R <+: all ∧ sure <+: R ∧ (∀ t ∈ R, t.length ≤ 200) ∧ R.length ≤ k
theorem ldisk_open (h : LDisk W r k d a s w) (hk : k ≤ 100) :
    Calls Tryd.prog 10 #[.pointer (some ⟨r, 0, none⟩), .int .i64 3] w fun e w' =>
      (∃ c, (c = 8 ∨ c = 9) ∧ (jopen d 3).2.1 = c ∧ e = .returned (.tuple #[.pointer none, .int .i64 c]) ∧ LInv W r (k + 1) (.pointer none) a s w') ∨
      (∃ rj all sure A ca S cs R, e = .returned (.tuple #[.pointer (some ⟨rj, 0, none⟩), .int .i64 0]) ∧ a = .slice A all.length ca ∧ all.length ≤ ca ∧ s = .slice S sure.length cs ∧ all.length ≤ k ∧ LOpened W r k rj A all S sure R w') := by
  obtain ⟨L, n, all, sure, A, ca, S, cs, h1, h2, h3, h4, h5⟩ := h
  have hl := jopen_lasts h2.pi h3.at_.ok ok3 (fun t ht => by have := h2.a200 t ht; omega)
  refine (hOpen h3 (by omega) in3).mono ?_
  rintro e w' (⟨hz, he, L', hh, hs⟩ | ⟨hz, L', rj, v, he, hh, hs⟩)
  · rcases hl with ⟨hc, _⟩ | ⟨hc, hp⟩
    · exact absurd hc hz
    · exact .inl ⟨_, hc, rfl, he, L', _, n, all, sure, A, ca, S, cs, by omega, h2.next hp, .inl ⟨rfl, hh, h4.step hs, h5.step hs⟩⟩
  · rcases hl with ⟨_, p1, p2, p3⟩ | ⟨hc, _⟩
    · have hle := p1.length_le
      have := h2.len
      exact .inr ⟨rj, all, sure, A, ca, S, cs, (jopen d 3).2.2, he, h2.ea, h2.hca, h2.es, h2.len, L', _, n, v, h1, hh, h4.step hs, h5.step hs, p3, p1, p2, fun t ht => h2.a200 t (p1.subset ht), by omega⟩
    · omega
/-- the records become both lists. -/
theorem LOpened.inv {rj : Nat} {A S A2 : Option Addr} {all sure R : List (List UInt8)} {c2 : Nat} (h : LOpened W r k rj A all S sure R w) (hb : ∀ L d n v, JH W r L d n rj v 3 R false w → JH W r L d n rj v 3 R false w' ∧ TRow (MO r L rj v) w' A2 R) (hc : R.length ≤ c2) (hn : A2 = none → c2 = 0) :
    LInv W r (k + 1) (.pointer (some ⟨rj, 0, none⟩)) (.slice A2 R.length c2) (.slice A2 R.length c2) w' := by
  obtain ⟨L, d, n, v, h1, h2, h3, h4, h5, h6, h7, h8, h9⟩ := h
  obtain ⟨b1, b2⟩ := hb L d n v h2
  exact ⟨L, d, n, R, R, A2, c2, A2, c2, by omega, ⟨rfl, rfl, hc, hn, JPI.of_kept h5, h8, by omega⟩, .inr ⟨rj, v, R, false, rfl, b1, b2, b2, h8, by omega, fun _ => ⟨rfl, h5.now⟩⟩⟩
end

end Go.Proofs.YtkbffhlkbcdgnaaDoor
