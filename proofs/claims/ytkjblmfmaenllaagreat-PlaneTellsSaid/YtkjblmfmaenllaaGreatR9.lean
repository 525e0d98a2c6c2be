/-
  Contracts of the reference of layer 10, 4: room.
-/
import Derived.Test.YtkjblmfmaenllaaGreatR8
set_option linter.unusedVariables false
set_option maxRecDepth 100000
namespace Go.Proofs.YtkjblmfmaenllaaGreat
open Go.RowKit

theorem room_w (r : Rc) (l : List Pl) (p : Pl) {z : Int} (hz : 0 < z) (h : p.s = 0) : roomR r (l ++ [p]) z = ⟨max (roomR r l z).X0 (r.X0 + nearP p z), (roomR r l z).Y0, (roomR r l z).X1, (roomR r l z).Y1⟩ := by
  unfold roomR atZ
  simp only [if_pos hz, need_snoc, h, if_true, show ¬ ((0 : Int) = 1) by decide, show ¬ ((0 : Int) = 2) by decide, show ¬ ((0 : Int) = 3) by decide, if_false]
  congr 1; omega
theorem room_s (r : Rc) (l : List Pl) (p : Pl) {z : Int} (hz : 0 < z) (h : p.s = 2) : roomR r (l ++ [p]) z = ⟨(roomR r l z).X0, max (roomR r l z).Y0 (r.Y0 + nearP p z), (roomR r l z).X1, (roomR r l z).Y1⟩ := by
  unfold roomR atZ
  simp only [if_pos hz, need_snoc, h, if_true, show ¬ ((2 : Int) = 0) by decide, show ¬ ((2 : Int) = 1) by decide, show ¬ ((2 : Int) = 3) by decide, if_false]
  congr 1; omega
theorem room_e (r : Rc) (l : List Pl) (p : Pl) {z : Int} (hz : 0 < z) (h : p.s = 1) : roomR r (l ++ [p]) z = ⟨(roomR r l z).X0, (roomR r l z).Y0, min (roomR r l z).X1 (r.X1 - nearP p z), (roomR r l z).Y1⟩ := by
  unfold roomR atZ
  simp only [if_pos hz, need_snoc, h, if_true, show ¬ ((1 : Int) = 0) by decide, show ¬ ((1 : Int) = 2) by decide, show ¬ ((1 : Int) = 3) by decide, if_false]
  congr 1; omega
theorem room_n (r : Rc) (l : List Pl) (p : Pl) {z : Int} (hz : 0 < z) (h : p.s = 3) : roomR r (l ++ [p]) z = ⟨(roomR r l z).X0, (roomR r l z).Y0, (roomR r l z).X1, min (roomR r l z).Y1 (r.Y1 - nearP p z)⟩ := by
  unfold roomR atZ
  simp only [if_pos hz, need_snoc, h, if_true, show ¬ ((3 : Int) = 0) by decide, show ¬ ((3 : Int) = 1) by decide, show ¬ ((3 : Int) = 2) by decide, if_false]
  congr 1; omega
/-- a plane of no slope at or above the height changes nothing. -/
theorem room_flat (r : Rc) (l : List Pl) {p : Pl} {z : Int} (hp : PlOk p) (hn : p.n = 0) (hb : z ≤ p.b) : roomR r (l ++ [p]) z = roomR r l z := by
  have e : nearP p z = -1048576 := by
    unfold nearP
    rw [if_neg (by omega), if_neg]
    have := Int.mul_le_mul_of_nonneg_right (show z - p.b ≤ 0 by omega) (show 0 ≤ p.d by have := hp.2.2.2.1; omega)
    omega
  have k : ∀ s, needS z s (l ++ [p]) = needS z s l := fun s => by
    rw [need_snoc, e]
    have := ((need_le z s l (needS z s l)).1 (Int.le_refl _)).1
    split <;> omega
  unfold roomR atZ
  split
  · simp only [k]
  · rfl
/-- one below the height leaves no room. -/
theorem room_none {r : Rc} {l : List Pl} {p : Pl} {z : Int} (hz : 0 < z) (hr : ROk r) (hm : p ∈ l) (hp : PlOk p) (hn : p.n = 0) (hb : p.b < z) : roomS r l z = [] := by
  have e : nearP p z = 1048576 := by
    unfold nearP
    rw [if_neg (by omega), if_pos (Int.mul_pos (by omega) hp.2.2.2.1)]
  have k := ((need_le z p.s l (needS z p.s l)).1 (Int.le_refl _)).2 p hm rfl
  rw [e] at k
  obtain ⟨⟨r0, r1, r2⟩, r3, r4, r5⟩ := hr
  unfold roomS
  rw [if_neg]
  rintro ⟨⟨a0, a1, a2⟩, a3, a4, a5⟩
  unfold roomR atZ at a0 a1 a2 a3 a4 a5
  simp only [if_pos hz] at a0 a1 a2 a3 a4 a5
  obtain ⟨s0, s1⟩ := hp.1
  have : p.s = 0 ∨ p.s = 1 ∨ p.s = 2 ∨ p.s = 3 := by omega
  rcases this with h | h | h | h <;> rw [h] at k <;> omega
theorem room_zero (r : Rc) {z : Int} (hr : ROk r) : roomR r [] z = ⟨0, 0, 1048576, 1048576⟩ := by
  obtain ⟨⟨r0, r1, r2⟩, r3, r4, r5⟩ := hr
  unfold roomR atZ
  have e : ∀ s, needS z s (if 0 < z then [] else []) = -1048576 := fun s => by split <;> rfl
  simp only [e]
  congr 1 <;> omega
theorem room_bd (r : Rc) {l : List Pl} (hr : ROk r) (hl : ∀ p ∈ l, PlOk p) {z : Int} (h0 : 0 ≤ z) (h1 : z ≤ 4096) : (-20000000 ≤ (roomR r l z).X0 ∧ (roomR r l z).X0 ≤ 20000000) ∧ (-20000000 ≤ (roomR r l z).Y0 ∧ (roomR r l z).Y0 ≤ 20000000) ∧ (-20000000 ≤ (roomR r l z).X1 ∧ (roomR r l z).X1 ≤ 20000000) ∧ (-20000000 ≤ (roomR r l z).Y1 ∧ (roomR r l z).Y1 ≤ 20000000) := by
  have m : ∀ s, -1048576 ≤ needS z s (atZ l z) ∧ needS z s (atZ l z) ≤ 16777216 := fun s => need_in (l := atZ l z) (fun p hp => by unfold atZ at hp; split at hp; exact hl p hp; cases hp) h0 h1 s
  obtain ⟨⟨r0, r1, r2⟩, r3, r4, r5⟩ := hr
  have m0 := m 0; have m1 := m 1; have m2 := m 2; have m3 := m 3
  unfold roomR
  simp only []
  omega
end Go.Proofs.YtkjblmfmaenllaaGreat
