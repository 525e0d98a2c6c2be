/-
  SolidFull: single cubes above one another; few.
-/
import Derived.Test.YtdnoadngfkiabaaGreatS947
set_option linter.unusedVariables false
set_option maxRecDepth 100000
namespace Go.Proofs.YtdnoadngfkiabaaGreat
open Go.RowKit

/-! ### few -/
def Few9 (S : List Sl) : Prop := S.length ≤ 12 ∧ ∀ s ∈ S, s.ar.length ≤ 8
noncomputable def few9 (S : List Sl) : Bool := @decide (Few9 S) (Classical.propDecidable _)
theorem few9_iff (S : List Sl) : few9 S = true ↔ Few9 S := by unfold few9; simp
theorem SlRow0.below {w w' : World} {A : Option Addr} {S : List Sl} (h : SlRow0 w A S) (hb : Below w.heap.size w w') : SlRow0 w' A S := fun h0 => by
  obtain ⟨b, off, rfl, hlt, hc⟩ := h h0
  refine ⟨b, off, rfl, Nat.lt_of_lt_of_le hlt hb.size, fun j hj => ?_⟩
  obtain ⟨x0, x1, Aj, cj, x2, x3, x4, x5⟩ := hc j hj
  have wc := fun o => hb.cell (p := ⟨b, o, none⟩) hlt
  exact ⟨(wc _).trans x0, (wc _).trans x1, Aj, cj, (wc _).trans x2, x3.below hb, x4, x5⟩
theorem few9_in {w : World} {A : Option Addr} {cap : Nat} {S : List Sl} (h : SlRow0 w A S) (hc : S.length ≤ cap) (hs : cap ≤ 9223372036854775807) (hf : Few9 S) : SIn w A cap S := by
  refine ⟨fun h0 => ?_, by have := hf.1; omega, hc, hs⟩
  obtain ⟨b, off, e, hlt, hcc⟩ := h h0
  refine ⟨b, off, e, hlt, fun j hj => ?_⟩
  obtain ⟨x0, x1, Aj, cj, x2, x3, x4, x5⟩ := hcc j hj
  have := hf.2 _ (List.getElem_mem hj)
  exact ⟨x0, x1, Aj, cj, x2, ⟨x3, by omega, x4, x5⟩⟩
set_option maxHeartbeats 16000000 in
theorem cfew_any (A : Option Addr) (cap : Nat) (S : List Sl) (w : World) (hl : SlRow0 w A S) (hlen : S.length ≤ 9223372036854775807) :
    Calls Tryz.prog 6 #[.slice A S.length cap, .int .i64 12] w (BlIs (few9 S) w) := by
  have HL := Lib.hid hl; clear hl
  have HB0 := Lib.hid (Below.refl w.heap.size w)
  go_enter Tryz.func6, Tryz.ntmps6
  go_wp2
  go_loopw [5] (fun i wr => ∃ (k : Nat), k ≤ S.length ∧ k ≤ 13 ∧ i = .int .i64 k ∧ Hid (Below w.heap.size w wr) ∧ ∀ j (h : j < S.length), j < k → S[j].ar.length ≤ 8) (fun i _ => 13 - (intOf i).toNat)
  case atStart => exact ⟨0, Nat.zero_le _, by omega, rfl, HB0, fun j h hj => absurd hj (Nat.not_lt_zero _)⟩
  case round =>
    clear HB0
    obtain ⟨k, hk, hk7, rfl, HB, ht⟩ := hrel
    have HT := Lib.hid ht; clear ht
    by_cases hlt : k < S.length
    · by_cases h6 : k ≤ 12
      · obtain ⟨ba, oa, rfl, hba, hva⟩ := HL.out (by omega)
        obtain ⟨x0, x1, Aj, cj, x2, _, _, _⟩ := hva k hlt
        obtain ⟨u, hu⟩ : ∃ u, u = S[k] := ⟨_, rfl⟩
        rw [← hu] at x0 x1 x2
        have BAD : Hid (¬ u.ar.length ≤ 8 → few9 S = false) := Lib.hid (fun h => by
          rw [← Bool.not_eq_true, few9_iff]
          exact fun ⟨_, h2⟩ => h (by rw [hu]; exact h2 _ (List.getElem_mem hlt)))
        have NX : Hid (u.ar.length ≤ 8 → ∀ j (h : j < S.length), j < k + 1 → S[j].ar.length ≤ 8) := Lib.hid (fun hg j h hj => by
          by_cases e : j < k
          · exact HT.out j h e
          · obtain rfl : j = k := by omega
            rw [← hu]; exact hg)
        have i0 : (0 : Int) ≤ (k : Int) := by omega
        have i1 : (k : Int) < (S.length : Int) := by omega
        have i2 : (k : Int) ≤ 12 := by omega
        clear hva hu
        have wc := fun o => HB.out.cell (p := ⟨ba, o, none⟩) hba
        have x0 := (wc _).trans x0; have x1 := (wc _).trans x1; have x2 := (wc _).trans x2
        clear wc
        have hbs := HB.out.size
        by_cases c0 : u.ar.length ≤ 8
        · have HN := Lib.hid (NX.out c0); clear BAD NX
          have c1 : ¬ (8 : Int) < (u.ar.length : Int) := by omega
          go_wp2
          go_roundw
          case rel => exact ⟨k + 1, by omega, by omega, by go_num, Lib.hid (by (repeat' first | exact Below.refl _ _ | assumption | (apply below_drewN) | (refine Below.setCell ?_ (by (try simp); (try omega)) _) | (refine Below.alloc ?_ (by (try simp); (try omega)) _) | (refine Below.trans ?_ (Below.mono (Hid.out (by assumption)) (by (try simp); (try omega)))))), HN.out⟩
          case measure => simp [intOf]; omega
        · have HQ := Lib.hid (BAD.out c0); clear BAD NX
          have c1 : (8 : Int) < (u.ar.length : Int) := by omega
          rw [HQ.out]
          go_wp2
          go_ret
          exact ⟨rfl, by (repeat' first | exact Below.refl _ _ | assumption | (apply below_drewN) | (refine Below.setCell ?_ (by (try simp); (try omega)) _) | (refine Below.alloc ?_ (by (try simp); (try omega)) _) | (refine Below.trans ?_ (Below.mono (Hid.out (by assumption)) (by (try simp); (try omega)))))⟩
      · obtain rfl : k = 13 := by omega
        have HQ : Hid (few9 S = false) := Lib.hid (by rw [← Bool.not_eq_true, few9_iff]; exact fun h => by have := h.1; omega)
        have i1 : (13 : Int) < (S.length : Int) := by omega
        have i3 : ¬ (S.length : Int) ≤ 12 := by omega
        go_wp2
        go_ret
        exact ⟨by rw [HQ.out]; rfl, HB.out⟩
    · obtain rfl : k = S.length := by omega
      have i1 : ¬ (S.length : Int) < (S.length : Int) := by omega
      have hall : ∀ s ∈ S, s.ar.length ≤ 8 := fun r hr => by
        obtain ⟨j, hj, rfl⟩ := List.mem_iff_getElem.1 hr
        exact HT.out j hj hj
      by_cases h6 : S.length ≤ 12
      · have HQ : Hid (few9 S = true) := Lib.hid ((few9_iff _).2 ⟨h6, hall⟩)
        have i3 : (S.length : Int) ≤ 12 := by omega
        go_wp2
        go_ret
        exact ⟨by rw [HQ.out]; rfl, HB.out⟩
      · have HQ : Hid (few9 S = false) := Lib.hid (by rw [← Bool.not_eq_true, few9_iff]; exact fun h => h6 h.1)
        have i3 : ¬ (S.length : Int) ≤ 12 := by omega
        go_wp2
        go_ret
        exact ⟨by rw [HQ.out]; rfl, HB.out⟩
end Go.Proofs.YtdnoadngfkiabaaGreat
