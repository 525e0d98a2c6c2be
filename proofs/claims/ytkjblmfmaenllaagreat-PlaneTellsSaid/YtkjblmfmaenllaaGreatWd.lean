/-
  First of the reference of layer 10: its mathematics.
-/
import Derived.Test.YtkjblmfmaenllaaGreatWc
set_option linter.unusedVariables false
set_option maxRecDepth 100000
namespace Go.Proofs.YtkjblmfmaenllaaGreat
open Go.RowKit

/-- a cube is not allowed only where one at the nearest corner is not. -/
theorem alw_corner {r : Rc} {p : Pl} (hp : PlOk p) {x y u v z : Int} (hd : distP r p.s u v ≤ distP r p.s x y) (h : ¬ Alw r p x y z) : ¬ Alw r p u v z := by
  have k := Int.mul_le_mul_of_nonneg_left hd hp.2.2.1.1
  unfold Alw at *
  omega
theorem bad_iff {r : Rc} {l : List Pl} (hl : ∀ p ∈ l, PlOk p) {a : List Rc} (ha : ∀ q ∈ a, ROk q) {z : Int} : BadL r l z a ↔ ∃ x y, HasL a x y ∧ ¬ AlwL r l x y z := by
  constructor
  · rintro ⟨q, hq, h⟩
    have hr := ha q hq
    have hr2 := hr
    obtain ⟨⟨r0, r1, r2⟩, r3, r4, r5⟩ := hr2
    rcases h with h | h | h | h
    · exact ⟨_, _, ⟨q, hq, hr, by omega, by omega, by omega, by omega⟩, h⟩
    · exact ⟨_, _, ⟨q, hq, hr, by omega, by omega, by omega, by omega⟩, h⟩
    · exact ⟨_, _, ⟨q, hq, hr, by omega, by omega, by omega, by omega⟩, h⟩
    · exact ⟨_, _, ⟨q, hq, hr, by omega, by omega, by omega, by omega⟩, h⟩
  · rintro ⟨x, y, ⟨q, hq, hr, h1, h2, h3, h4⟩, h⟩
    refine ⟨q, hq, ?_⟩
    have : ∃ p ∈ l, ¬ Alw r p x y z := Classical.byContradiction fun n => h (fun p hp => Classical.byContradiction fun k => n ⟨p, hp, k⟩)
    obtain ⟨p, hp, hn⟩ := this
    have no : ∀ u v, distP r p.s u v ≤ distP r p.s x y → ¬ AlwL r l u v z := fun u v hd hh => alw_corner (hl p hp) hd hn (hh p hp)
    by_cases c1 : p.s = 1
    · exact Or.inr (Or.inl (no _ _ (by rw [c1]; unfold distP; simp; omega)))
    · by_cases c0 : p.s = 0
      · exact Or.inl (no _ _ (by rw [c0]; unfold distP; simp; omega))
      · by_cases c2 : p.s = 2
        · exact Or.inl (no _ _ (by rw [c2]; unfold distP; simp; omega))
        · exact Or.inr (Or.inr (Or.inl (no _ _ (by unfold distP; rw [if_neg c0, if_neg c1, if_neg c2, if_neg c0, if_neg c1, if_neg c2]; omega))))
theorem rest_has {a room : List Rc} (ha : ∀ q ∈ a, ROk q) (hr : ∀ p ∈ room, ROk p) : IsForm (formO andnot a room) ∧ ∀ x y, HasL (formO andnot a room) x y ↔ HasL a x y ∧ ¬ HasL room x y := by
  have h := formO_is (op := andnot) rfl ha hr
  refine ⟨h.1, fun x y => ?_⟩
  rw [h.2]
  have e1 := hasB_iff a x y
  have e2 := hasB_iff room x y
  rw [← e1, ← e2]
  cases hasB a x y <;> cases hasB room x y <;> simp [andnot]
/-- the first rectangle of what lies outside of a room begins at the least cell outside. -/
theorem rest_first {a room : List Rc} (ha : ∀ q ∈ a, ROk q) (hr : ∀ p ∈ room, ROk p) {q : Rc} {t : List Rc} (h : formO andnot a room = q :: t) : OutC a room q.X0 q.Y0 := by
  have k := rest_has ha hr
  rw [h] at k
  have hq : ROk q := form_ok k.1 q (by simp)
  have h0 : HasL (q :: t) q.X0 q.Y0 := ⟨q, by simp, hq, by omega, hq.1.2.1, by omega, hq.2.2.1⟩
  have h1 := (k.2 _ _).1 h0
  exact ⟨h1.1, h1.2, fun u v hu hv hlex => lex_first k.1 ((k.2 u v).2 ⟨hu, hv⟩) hlex⟩
/-- where a cube of an area is not allowed, something lies outside of its room. -/
theorem bad_rest {r : Rc} {l : List Pl} (hr : ROk r) (hl : ∀ p ∈ l, PlOk p) {a : List Rc} (ha : ∀ q ∈ a, ROk q) {z : Int} (h0 : 0 ≤ z) (h1 : z < 4096) (h : BadL r l z a) : formO andnot a (roomS r l (z + 1)) ≠ [] := by
  obtain ⟨x, y, hx, hn⟩ := (bad_iff hl ha).1 h
  have k := (rest_has ha (room_ok r l (z + 1))).2 x y
  have : HasL (formO andnot a (roomS r l (z + 1))) x y := k.2 ⟨hx, fun hh => by
    have := ((room_has hr hl (z := z + 1) (by omega) (by omega) x y).1 hh).2
    exact hn ((top_iff hl h0 h1).1 (by omega))⟩
  intro e; rw [e] at this; obtain ⟨q, hq, _⟩ := this; cases hq
/-- what the two loops of First know: all slabs before, and the heights of this slab before, are allowed. -/
def Dq10 (r : Rc) (l : List Pl) (S : List Sl) (k : Nat) (zz : Int) : Prop := Dn10 r l S k ∧ ∀ (h : k < S.length) x y z, S[k].z0 ≤ z → z < zz → HasL S[k].ar x y → z < topH r l x y
theorem Dq10.start {r : Rc} {l : List Pl} {S : List Sl} {k : Nat} (h : Dn10 r l S k) (hk : k < S.length) : Dq10 r l S k S[k].z0 := ⟨h, fun _ x y z h1 h2 _ => by omega⟩
theorem Dq10.next {r : Rc} {l : List Pl} (hl : ∀ p ∈ l, PlOk p) {S : List Sl} {k : Nat} {zz : Int} (h : Dq10 r l S k zz) (hk : k < S.length) (ha : ∀ q ∈ S[k].ar, ROk q) (h0 : 0 ≤ zz) (h1 : zz < 4096) (hn : ¬ BadL r l zz S[k].ar) : Dq10 r l S k (zz + 1) :=
  ⟨h.1, fun hk x y z h2 h3 h4 => by
    by_cases e : z < zz
    · exact h.2 hk x y z h2 e h4
    · obtain rfl : z = zz := by omega
      refine (top_iff hl h0 h1).2 (Classical.byContradiction fun n => hn ((bad_iff hl ha).2 ⟨x, y, h4, n⟩))⟩
theorem Dq10.done {r : Rc} {l : List Pl} {S : List Sl} {k : Nat} {zz : Int} (h : Dq10 r l S k zz) (hk : k < S.length) (hz : S[k].z1 ≤ zz) : Dn10 r l S (k + 1) := by
  intro j hj hjk x y z h1 h2 h3
  by_cases e : j < k
  · exact h.1 j hj e x y z h1 h2 h3
  · obtain rfl : j = k := by omega
    exact h.2 hj x y z h1 (by omega) h3
theorem Dq10.found {r : Rc} {l : List Pl} (hr : ROk r) (hl : ∀ p ∈ l, PlOk p) {S : List Sl} (hS : SForm S) {k : Nat} {zz x y : Int} (h : Dq10 r l S k zz) (hk : k < S.length) (hz0 : S[k].z0 ≤ zz) (hz : zz < S[k].z1)
    (hc : OutC S[k].ar (roomS r l (zz + 1)) x y) : FstP r l S (⟨x, y, zz⟩, true) := by
  have hok := hS.each _ (List.getElem_mem hk)
  have hb := hok.h
  have hf := form_ok hok.form
  have z0 : 0 ≤ zz := by have := hb.1; omega
  have z1 : zz + 1 ≤ 4096 := by have := hb.2.2; omega
  have rh := fun u v => room_has hr hl (z := zz + 1) (by omega) z1 u v
  have gc : ∀ {u v}, HasL S[k].ar u v → GC u v := fun {u v} ⟨q, hq, _, q1, q2, q3, q4⟩ => by
    have := hf q hq; unfold ROk Span at this; unfold GC; omega
  refine Or.inl ⟨rfl, ⟨(sec_has hS).2 ⟨S[k], List.getElem_mem hk, ⟨hz0, hz⟩, hc.1⟩, ?_, fun u v w hw hbef => ?_⟩⟩
  · show topH r l x y ≤ zz
    have := hc.2.1
    rw [rh] at this
    have g := gc hc.1
    by_cases c : zz + 1 ≤ topH r l x y
    · exact absurd ⟨g, c⟩ this
    · omega
  · obtain ⟨s, hs, ⟨h1, h2⟩, h3⟩ := (sec_has hS).1 hw
    obtain ⟨j, hj, rfl⟩ := List.mem_iff_getElem.1 hs
    by_cases e : j < k
    · exact h.1 j hj e u v w h1 h2 h3
    · by_cases e2 : k < j
      · have := sform_after hS k j e2 hj
        unfold Bef at hbef; simp only [] at hbef; omega
      · obtain rfl : j = k := by omega
        by_cases e3 : w < zz
        · exact h.2 hj u v w h1 e3 h3
        · have hlex : LexC u v x y := hbef.elim (fun h => absurd h e3) (fun h => h.2)
          have hw0 : w = zz := hbef.elim (fun h => absurd h e3) (fun h => h.1)
          by_cases c : HasL (roomS r l (zz + 1)) u v
          · have := ((rh u v).1 c).2; omega
          · exact absurd hlex (hc.2.2 u v h3 c)
end Go.Proofs.YtkjblmfmaenllaaGreat
