/-
  JournalStays: what holds between the operations, and what each call leaves of it.
-/
import Derived.Test.YtkbffhlkbcdgnaaDoorJp
import Derived.Test.YtkbffhlkbcdgnaaDoorJk
set_option linter.unusedVariables false
set_option maxRecDepth 100000
namespace Go.Proofs.YtkbffhlkbcdgnaaDoor
open Go.RowKit W

theorem ok0 : Dk.fileOk 0 := by unfold Dk.fileOk; omega
theorem up_sync {d : Dk} (h : Dk.Up d) (f : Int) : Dk.Up (d.sync f).1 := by
  unfold Dk.sync
  rw [Dk.counted_up h.down (by rw [h.armed]; decide)]
  unfold Dk.sync0
  repeat' split
  all_goals exact ⟨h.down, by simp [h.armed]⟩
theorem up_trunc {d : Dk} (h : Dk.Up d) (f n : Int) : Dk.Up (d.trunc f n).1 := by
  unfold Dk.trunc
  rw [Dk.counted_up h.down (by rw [h.armed]; decide)]
  unfold Dk.trunc0
  repeat' split
  all_goals exact ⟨h.down, by simp [h.armed]⟩
theorem up_write {d : Dk} (h : Dk.Up d) (f a : Int) (s : List UInt8) : Dk.Up (d.write f a s).1 := by
  unfold Dk.write
  rw [Dk.counted_up h.down (by rw [h.armed]; decide)]
  unfold Dk.write0 Dk.add
  repeat' split
  all_goals exact ⟨h.down, by simp [h.armed]⟩
theorem up_jopen {d : Dk} (h : Dk.Up d) (f : Int) : Dk.Up (jopen d f).1 := by
  unfold jopen
  repeat' split
  all_goals first
    | exact h
    | exact up_sync h f
    | exact up_trunc (up_sync h f) _ _
theorem up_crash {d : Dk} (h : Dk.Up d) (keep : List Int) : Dk.Up (d.crash keep).start := by
  rw [Dk.crash_up h.down]
  exact ⟨rfl, rfl⟩
theorem now_sync {d : Dk} (h : Dk.Up d) (f g : Int) : (d.sync f).1.now g = d.now g := by
  unfold Dk.sync
  rw [Dk.counted_up h.down (by rw [h.armed]; decide)]
  unfold Dk.sync0
  split
  · rfl
  split
  · rfl
  · show upd d.now f (d.now f) g = d.now g
    rw [upd_self]

/-- what holds between two operations: j is the journal's variable. -/
def SInv (W : World) (r k : Nat) (j : Value) (w : World) : Prop :=
  ∃ (L : Lay) (d : Dk) (n : Nat) (all : List (List UInt8)), n ≤ 300 * k ∧ Dk.Up d ∧ JPI d 0 [] all ∧ (∀ t ∈ all, t.length ≤ 200) ∧ all.length ≤ k ∧
    ((j = .pointer none ∧ Held W r L d n w) ∨
     (∃ rj v R bad, j = .pointer (some ⟨rj, 0, none⟩) ∧ JH W r L d n rj v 0 R bad w ∧ (∀ t ∈ R, t.length ≤ 200) ∧ R.length ≤ k ∧ (bad = false → R = all ∧ d.now 0 = forms all)))
/-- .. without its journal. -/
def SDisk (W : World) (r k : Nat) (w : World) : Prop :=
  ∃ (L : Lay) (d : Dk) (n : Nat) (all : List (List UInt8)), n ≤ 300 * k ∧ Dk.Up d ∧ JPI d 0 [] all ∧ (∀ t ∈ all, t.length ≤ 200) ∧ all.length ≤ k ∧ Held W r L d n w
/-- .. while the machine is down. -/
def SDown (W : World) (r k : Nat) (w : World) : Prop :=
  ∃ (L : Lay) (d : Dk) (n : Nat) (all : List (List UInt8)), n ≤ 300 * k ∧ Dk.Up d.start ∧ JPI d 0 [] all ∧ (∀ t ∈ all, t.length ≤ 200) ∧ all.length ≤ k ∧ Held W r L d n w

section
variable {W : World} {r k : Nat} {j : Value} {w w' : World}
theorem SInv.shape (h : SInv W r k j w) : j = .pointer none ∨ ∃ rj, j = .pointer (some ⟨rj, 0, none⟩) := by
  obtain ⟨_, _, _, _, _, _, _, _, _, h1 | ⟨rj, _, _, _, h1, _⟩⟩ := h
  · exact .inl h1.1
  · exact .inr ⟨rj, h1⟩
theorem SInv.next (h : SInv W r k j w) : SInv W r (k + 1) j w := by
  obtain ⟨L, d, n, all, h1, h2, h3, h4, h5, h6⟩ := h
  refine ⟨L, d, n, all, by omega, h2, h3, h4, by omega, h6.imp id ?_⟩
  rintro ⟨rj, v, R, bad, a1, a2, a3, a4, a5⟩
  exact ⟨rj, v, R, bad, a1, a2, a3, by omega, a5⟩
theorem SInv.bel (h : SInv W r k j w) : Below W.heap.size W w := by
  obtain ⟨L, d, n, all, h1, h2, h3, h4, h5, h6 | ⟨_, _, _, _, _, h6, _⟩⟩ := h
  · exact h6.2.bel
  · exact h6.bel
theorem SInv.disk (h : SInv W r k j w) : SDisk W r k w := by
  obtain ⟨L, d, n, all, h1, h2, h3, h4, h5, h6 | ⟨_, _, _, _, _, h6, _⟩⟩ := h
  · exact ⟨L, d, n, all, h1, h2, h3, h4, h5, h6.2⟩
  · exact ⟨L, d, n, all, h1, h2, h3, h4, h5, h6.held⟩
theorem SDisk.bel (h : SDisk W r k w) : Below W.heap.size W w := by
  obtain ⟨_, _, _, _, _, _, _, _, _, h6⟩ := h
  exact h6.bel

theorem sinv_append {rj : Nat} (h : SInv W r k (.pointer (some ⟨rj, 0, none⟩)) w) (hk : k ≤ 100) (ht : Tab W) (s : ByteArray) (hs : s.size ≤ 200) :
    Calls Tryd.prog 14 #[.pointer (some ⟨rj, 0, none⟩), .string s] w fun e w' => ∃ c, e = .returned (.int .i64 c) ∧ SInv W r (k + 1) (.pointer (some ⟨rj, 0, none⟩)) w' := by
  obtain ⟨L, d, n, all, h1, h2, h3, h4, h5, h6⟩ := h
  rcases h6 with ⟨h6, _⟩ | ⟨rj', v, R, bad, a1, a2, a3, a4, a5⟩
  · cases h6
  · cases a1
    have hR := forms_200 a3
    have hsl := list_size s
    refine (hAppend a2 (by omega) in0 ht s (by omega) (by omega)).mono ?_
    rintro e w' ⟨he, L', v', hj, _⟩
    refine ⟨_, he, ?_⟩
    cases bad with
    | true =>
      have e1 : jappend d 0 R true s.data.toList = (d, 7, R, true) := by unfold jappend; rfl
      rw [e1] at hj
      exact ⟨L', d, _, all, by omega, h2, h3, h4, by omega, .inr ⟨rj, v', R, true, rfl, hj, a3, by omega, fun e => by cases e⟩⟩
    | false =>
      obtain ⟨rfl, hn⟩ := a5 rfl
      have hfl := form_len s.data.toList (by omega)
      have hw := h3.write a2.disk.ok ok0 hn (s := s.data.toList) (by omega)
      have hup := up_write h2 0 ((forms R).length : Int) (form s.data.toList)
      rcases write_codes (d := d) ok0 (a := (forms R).length) (s := form s.data.toList) (by omega) with hc | hc
      · have e1 := jappend_ok (f := 0) (R := R) (d := d) (s := s.data.toList) (by omega) (by omega) hc
        rw [e1] at hj
        have hb : ∀ t ∈ R ++ [s.data.toList], t.length ≤ 200 := fun t ht => by
          rcases List.mem_append.1 ht with ht | ht
          · exact h4 t ht
          · simp only [List.mem_singleton] at ht; subst ht; omega
        exact ⟨L', _, _, R ++ [s.data.toList], by omega, hup, hw.1, hb, by simp; omega, .inr ⟨rj, v', _, false, rfl, hj, hb, by simp; omega, fun _ => ⟨rfl, hw.2 hc⟩⟩⟩
      · exfalso
        have := Dk.write_up h2 ok0 (a := ((forms R).length : Int)) (s := form s.data.toList) (by omega) (by omega)
        rw [this.1] at hc
        omega
theorem sinv_sync {rj : Nat} (h : SInv W r k (.pointer (some ⟨rj, 0, none⟩)) w) (hk : k ≤ 100) :
    Calls Tryd.prog 17 #[.pointer (some ⟨rj, 0, none⟩)] w fun e w' => ∃ c, e = .returned (.int .i64 c) ∧ SInv W r (k + 1) (.pointer (some ⟨rj, 0, none⟩)) w' := by
  obtain ⟨L, d, n, all, h1, h2, h3, h4, h5, h6⟩ := h
  rcases h6 with ⟨h6, _⟩ | ⟨rj', v, R, bad, a1, a2, a3, a4, a5⟩
  · cases h6
  · cases a1
    refine (hJSync a2 (by omega) in0).mono ?_
    rintro e w' ⟨he, L', v', hj, _⟩
    refine ⟨_, he, ?_⟩
    cases bad with
    | true => exact ⟨L', d, _, all, by omega, h2, h3, h4, by omega, .inr ⟨rj, v', R, true, rfl, hj, a3, by omega, fun e => by cases e⟩⟩
    | false =>
      obtain ⟨rfl, hn⟩ := a5 rfl
      exact ⟨L', (d.sync 0).1, _, R, by omega, up_sync h2 0, h3.sync a2.disk.ok, h4, by omega, .inr ⟨rj, v', R, _, rfl, hj, a3, by omega, fun _ => ⟨rfl, by rw [now_sync h2]; exact hn⟩⟩⟩
theorem sinv_lose (h : SInv W r k j w) (hk : k ≤ 100) {x : Int} (h64 : In64 x) :
    Calls Tryd.prog 11 #[.pointer (some ⟨r, 0, none⟩), .int .i64 x] w fun e w' => e = .returned (.tuple #[]) ∧ SInv W r (k + 1) j w' := by
  obtain ⟨L, d, n, all, h1, h2, h3, h4, h5, h6⟩ := h
  have hu : Dk.Up (d.lose x) := ⟨h2.down, h2.armed⟩
  rcases h6 with ⟨rfl, h6⟩ | ⟨rj, v, R, bad, rfl, a2, a3, a4, a5⟩
  · refine (mLose h6.at_ h64).mono ?_
    intro e w' hm
    obtain ⟨he, L', hh⟩ := h6.left hm
    exact ⟨he, L', _, n, all, by omega, hu, h3.lose x, h4, by omega, .inl ⟨rfl, hh⟩⟩
  · refine (jLose a2 h64).mono ?_
    rintro e w' ⟨he, L', hh, _⟩
    exact ⟨he, L', _, n, all, by omega, hu, h3.lose x, h4, by omega, .inr ⟨rj, v, R, bad, rfl, hh, a3, by omega, a5⟩⟩
theorem sdisk_crash (h : SDisk W r k w) (hk : k ≤ 100) {A : Option Addr} {l : List Int} (cap : Nat) (hr : JRow W A l) (hl : l.length ≤ 60) :
    Calls Tryd.prog 18 #[.pointer (some ⟨r, 0, none⟩), .slice A l.length cap] w fun e w' => e = .returned (.tuple #[]) ∧ SDown W r k w' := by
  obtain ⟨L, d, n, all, h1, h2, h3, h4, h5, h6⟩ := h
  refine (hCrash h6 (by omega) cap hr hl).mono ?_
  rintro e w' ⟨he, L', hh⟩
  exact ⟨he, L', _, n, all, h1, up_crash h2 l, h3.crash h6.at_.ok l, h4, h5, hh⟩
theorem sdown_start (h : SDown W r k w) : Calls Tryd.prog 19 #[.pointer (some ⟨r, 0, none⟩)] w fun e w' => e = .returned (.tuple #[]) ∧ SDisk W r k w' := by
  obtain ⟨L, d, n, all, h1, h2, h3, h4, h5, h6⟩ := h
  refine (hStart h6).mono ?_
  rintro e w' ⟨he, L', hh⟩
  exact ⟨he, L', _, n, all, h1, h2, h3.start, h4, h5, hh⟩
theorem sdisk_open (h : SDisk W r k w) (hk : k ≤ 100) :
    Calls Tryd.prog 10 #[.pointer (some ⟨r, 0, none⟩), .int .i64 0] w fun e w' => ∃ j c, e = .returned (.tuple #[j, .int .i64 c]) ∧ SInv W r (k + 1) j w' := by
  obtain ⟨L, d, n, all, h1, h2, h3, h4, h5, h6⟩ := h
  have hl := jopen_lasts h3 h6.at_.ok ok0 (fun t ht => by have := h4 t ht; omega)
  have hu := up_jopen h2 0
  refine (hOpen h6 (by omega) in0).mono ?_
  rintro e w' (⟨hz, he, L', hh, _⟩ | ⟨hz, L', rj, v, he, hh, _⟩)
  · rcases hl with ⟨hc, _⟩ | ⟨_, hp⟩
    · exact absurd hc hz
    · exact ⟨_, _, he, L', _, n, all, by omega, hu, hp, h4, by omega, .inl ⟨rfl, hh⟩⟩
  · rcases hl with ⟨_, p1, p2, p3⟩ | ⟨hc, _⟩
    · have hle := p1.length_le
      have hb : ∀ t ∈ (jopen d 0).2.2, t.length ≤ 200 := fun t ht => h4 t (p1.subset ht)
      have hj := JPI.of_kept p3
      exact ⟨_, _, he, L', _, n, (jopen d 0).2.2, by omega, hu, ⟨List.nil_prefix, ⟨Nat.zero_le _, hj.now.hi, fun i hi => (hj.now.bt i hi).imp id (fun x => ⟨x.1, Nat.zero_le _⟩)⟩, ⟨Nat.zero_le _, hj.last.hi, fun i hi => (hj.last.bt i hi).imp id (fun x => ⟨x.1, Nat.zero_le _⟩)⟩⟩, hb, by omega, .inr ⟨rj, v, _, false, rfl, hh, hb, by omega, fun _ => ⟨rfl, p3.now⟩⟩⟩
    · omega
end

end Go.Proofs.YtkbffhlkbcdgnaaDoor
