/-
  Contracts of the program's small methods: Down, Size, Start, Lose, crashDue.
-/
import Derived.Test.YtncadnmoiiiahaaDoorMb
set_option linter.unusedVariables false
set_option maxRecDepth 100000
namespace Go.Proofs.YtncadnmoiiiahaaDoor
open Go.RowKit

set_option maxHeartbeats 1000000 in
theorem pSize_any (r : Nat) (L : Lay) (d : Dk) (f : Int) (w : World) (h : PAt r L d w) (ho : Dk.Ok d) (h64 : In64 f) :
    Calls Tryd.prog 9 #[.pointer (some ⟨r, 0, none⟩), .int .i64 f] w fun e w' => e = .returned (.int .i64 ((d.now f).length : Int)) ∧ w' = w := by
  obtain ⟨c0, _⟩ := h.raw.cells
  by_cases hf : Dk.fileOk f
  · have hl := h.raw.files.map.look_ok hf
    obtain ⟨k0, _⟩ := h.raw.files.cells hf
    obtain ⟨A, cap, hv, _⟩ := own_parts (h.raw.files.row f false hf)
    rw [hv] at k0
    have e : side d.now d.last f false = d.now f := rfl
    rw [e] at k0
    have HB := ho.big f
    clear h hv e
    generalize (d.now f).length = n at *
    go_enter Tryd.func9, Tryd.ntmps9
    go_wp2
    go_ret
    exact ⟨rfl, rfl⟩
  · have hl := h.raw.files.map.look_no h64 hf
    have hz : (d.now f).length = 0 := by rw [ho.none f hf]; rfl
    have HZ := Lib.hid hz
    clear h hz
    go_enter Tryd.func9, Tryd.ntmps9
    go_wp2
    go_ret
    rw [HZ.out]
    exact ⟨rfl, rfl⟩

/-- a store of a number or a truth into the disk's block. -/
theorem PAt.put {r : Nat} {L : Lay} {d d' : Dk} {w : World} (h : PAt r L d w) (i : Nat) (u : Value) (hnow : d'.now = d.now) (hlast : d'.last = d.last) (hq : d'.q = d.q) (hk : d'.keep = d.keep)
    (hcell : (#[.map (some L.m), L.qv, .map (some L.l), .int .i64 (d.lost : Int), .int .i64 (d.armed : Int), L.kv, .bool d.down] : Array Value).setIfInBounds i u
      = #[.map (some L.m), L.qv, .map (some L.l), .int .i64 (d'.lost : Int), .int .i64 (d'.armed : Int), L.kv, .bool d'.down]) :
    PAt r L d' (w.setCell ⟨r, i, none⟩ u) ∧ PStep r L L w (w.setCell ⟨r, i, none⟩ u) :=
  ⟨⟨h.raw.store i u rfl rfl rfl hnow hlast hcell (by rw [hq]; exact h.raw.set) (by rw [hk]; exact h.raw.keep) h.raw.ne,
    by rw [hq]; exact ownKeep h.queue fun b hb => Below.heap_setCell _ _ _ _ (fun e => other_kind h.queue h.raw.cell (by decide) (by rw [hb, e]))⟩,
   PStep.store i _ rfl rfl rfl (.inl rfl) (fun _ h => .inl h)⟩

/-- counts a call. -/
def DuePost (r : Nat) (L : Lay) (d : Dk) (w : World) (e : Ending) (w' : World) : Prop :=
  e = .returned (.bool (decide (d.armed = 1))) ∧ PAt r L { d with armed := d.armed - 1 } w' ∧ PStep r L L w w'

set_option maxHeartbeats 1000000 in
theorem pDue_any (r : Nat) (L : Lay) (d : Dk) (w : World) (h : PAt r L d w) (ha : d.armed ≤ 9223372036854775807) :
    Calls Tryd.prog 21 #[.pointer (some ⟨r, 0, none⟩)] w (DuePost r L d w) := by
  obtain ⟨_, _, _, _, c4, _, _, hz⟩ := h.raw.cells
  have hz4 := hz 4
  clear hz
  by_cases c0 : d.armed = 0
  · have HX : Hid (DuePost r L d w (.returned (.bool false)) w) := Lib.hid ⟨by rw [c0]; rfl, by
      have e : d = { d with armed := d.armed - 1 } := by
        cases d; simp only at c0; subst c0; rfl
      rw [← e]; exact h, PStep.refl _ _ _⟩
    rw [c0] at c4
    clear h c0 ha
    go_enter Tryd.func21, Tryd.ntmps21
    go_wp2
    go_ret
    exact HX.out
  · have hs := h.put (d' := { d with armed := d.armed - 1 }) 4 (.int .i64 ((d.armed - 1 : Nat) : Int)) rfl rfl rfl rfl rfl
    have e1 : ((d.armed - 1 : Nat) : Int) = (d.armed : Int) - 1 := by omega
    by_cases c1 : d.armed = 1
    · have HX : Hid (DuePost r L d w (.returned (.bool true)) (w.setCell ⟨r, 4, none⟩ (.int .i64 0))) := Lib.hid ⟨by rw [c1]; rfl, by
        rw [c1] at hs
        rw [c1]; exact hs.1, by
        rw [c1] at hs
        exact hs.2⟩
      rw [c1] at c4
      clear h hs e1 c0 c1 ha
      go_enter Tryd.func21, Tryd.ntmps21
      go_wp2
      go_ret
      exact HX.out
    · have HX : Hid (DuePost r L d w (.returned (.bool false)) (w.setCell ⟨r, 4, none⟩ (.int .i64 ((d.armed : Int) - 1)))) := Lib.hid ⟨by rw [decide_eq_false c1], by
        rw [← e1]; exact hs.1, by rw [← e1]; exact hs.2⟩
      have g0 : (0 : Int) < (d.armed : Int) := by omega
      have g1 : (1 : Int) < (d.armed : Int) := by omega
      have g2 : ((d.armed : Int) == 0) = false := by simp; omega
      have g3 : ((d.armed : Int) - 1 == 0) = false := by simp; omega
      have g4 : (d.armed : Int) ≤ 9223372036854775807 := by omega
      clear h hs e1 c0 c1 ha
      generalize (d.armed : Int) = a at *
      go_enter Tryd.func21, Tryd.ntmps21
      go_wp2
      go_ret
      exact HX.out

end Go.Proofs.YtncadnmoiiiahaaDoor
