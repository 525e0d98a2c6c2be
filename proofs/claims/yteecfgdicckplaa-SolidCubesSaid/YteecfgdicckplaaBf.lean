/-
  Contracts of the law's functions near and covered.
-/
import Derived.Test.YteecfgdicckplaaBe
import Derived.Test.YteecfgdicckplaaAs
set_option linter.unusedVariables false
set_option maxRecDepth 100000
namespace Go.Proofs.Yteecfgdicckplaa
open Go.RowKit

set_option maxHeartbeats 16000000 in
theorem cnear_any (A : Option Addr) (cap : Nat) (l : List Bx) (w : World) (hl : BxRow w A l) :
    Calls Try.prog 9 #[.slice A l.length cap, .int .i64 6] w (BlIs (near8 l 6) w) := by
  have HL := Lib.hid hl; clear hl
  have HB0 := Lib.hid (Below.refl w.heap.size w)
  go_enter Try.func9, Try.ntmps9
  go_wp2
  go_loopw [5] (fun i wr => ∃ (k : Nat), k ≤ l.length ∧ k ≤ 7 ∧ i = .int .i64 k ∧ Hid (Below w.heap.size w wr) ∧ ∀ j (h : j < l.length), j < k → Good8 l[j]) (fun i _ => 7 - (intOf i).toNat)
  case atStart => exact ⟨0, Nat.zero_le _, by omega, rfl, HB0, fun j h hj => absurd hj (Nat.not_lt_zero _)⟩
  case round =>
    clear HB0
    obtain ⟨k, hk, hk7, rfl, HB, ht⟩ := hrel
    have HT := Lib.hid ht; clear ht
    by_cases hlt : k < l.length
    · by_cases h6 : k ≤ 6
      · obtain ⟨ba, oa, rfl, hba, hva⟩ := HL.out (by omega)
        obtain ⟨x0, x1, x2, x3, x4, x5⟩ := hva k hlt
        obtain ⟨u, hu⟩ : ∃ u, u = l[k] := ⟨_, rfl⟩
        rw [← hu] at x0 x1 x2 x3 x4 x5
        have BAD : Hid (¬ Good8 u → near8 l 6 = false) := Lib.hid (fun h => by
          rw [← Bool.not_eq_true, near8_iff]
          exact fun ⟨_, h2⟩ => h (by rw [hu]; exact h2 _ (List.getElem_mem hlt)))
        have NX : Hid (Good8 u → ∀ j (h : j < l.length), j < k + 1 → Good8 l[j]) := Lib.hid (fun hg j h hj => by
          by_cases e : j < k
          · exact HT.out j h e
          · obtain rfl : j = k := by omega
            rw [← hu]; exact hg)
        have i0 : (0 : Int) ≤ (k : Int) := by omega
        have i1 : (k : Int) < (l.length : Int) := by omega
        have i2 : (k : Int) ≤ 6 := by omega
        clear hva hu
        have wc := fun o => HB.out.cell (p := ⟨ba, o, none⟩) hba
        have x0 := (wc _).trans x0; have x1 := (wc _).trans x1; have x2 := (wc _).trans x2; have x3 := (wc _).trans x3; have x4 := (wc _).trans x4; have x5 := (wc _).trans x5
        clear wc
        have hbs := HB.out.size
        by_cases c0 : u.r.X0 < 0
        · have HQ := Lib.hid (BAD.out (fun h => by have := h.1.1; omega)); clear BAD NX
          rw [HQ.out]
          go_wp2
          go_ret
          exact ⟨rfl, by (repeat' first | exact Below.refl _ _ | assumption | (apply below_drewN) | (refine Below.setCell ?_ (by (try simp); (try omega)) _) | (refine Below.alloc ?_ (by (try simp); (try omega)) _) | (refine Below.trans ?_ (Below.mono (Hid.out (by assumption)) (by (try simp); (try omega)))))⟩
        by_cases c1 : u.r.X1 ≤ u.r.X0
        · have HQ := Lib.hid (BAD.out (fun h => by have := h.1.2.1; omega)); clear BAD NX
          rw [HQ.out]
          go_wp2
          go_ret
          exact ⟨rfl, by (repeat' first | exact Below.refl _ _ | assumption | (apply below_drewN) | (refine Below.setCell ?_ (by (try simp); (try omega)) _) | (refine Below.alloc ?_ (by (try simp); (try omega)) _) | (refine Below.trans ?_ (Below.mono (Hid.out (by assumption)) (by (try simp); (try omega)))))⟩
        by_cases c2 : 8 < u.r.X1
        · have HQ := Lib.hid (BAD.out (fun h => by have := h.1.2.2; omega)); clear BAD NX
          rw [HQ.out]
          go_wp2
          go_ret
          exact ⟨rfl, by (repeat' first | exact Below.refl _ _ | assumption | (apply below_drewN) | (refine Below.setCell ?_ (by (try simp); (try omega)) _) | (refine Below.alloc ?_ (by (try simp); (try omega)) _) | (refine Below.trans ?_ (Below.mono (Hid.out (by assumption)) (by (try simp); (try omega)))))⟩
        by_cases c3 : u.r.Y0 < 0
        · have HQ := Lib.hid (BAD.out (fun h => by have := h.2.1.1; omega)); clear BAD NX
          rw [HQ.out]
          go_wp2
          go_ret
          exact ⟨rfl, by (repeat' first | exact Below.refl _ _ | assumption | (apply below_drewN) | (refine Below.setCell ?_ (by (try simp); (try omega)) _) | (refine Below.alloc ?_ (by (try simp); (try omega)) _) | (refine Below.trans ?_ (Below.mono (Hid.out (by assumption)) (by (try simp); (try omega)))))⟩
        by_cases c4 : u.r.Y1 ≤ u.r.Y0
        · have HQ := Lib.hid (BAD.out (fun h => by have := h.2.1.2.1; omega)); clear BAD NX
          rw [HQ.out]
          go_wp2
          go_ret
          exact ⟨rfl, by (repeat' first | exact Below.refl _ _ | assumption | (apply below_drewN) | (refine Below.setCell ?_ (by (try simp); (try omega)) _) | (refine Below.alloc ?_ (by (try simp); (try omega)) _) | (refine Below.trans ?_ (Below.mono (Hid.out (by assumption)) (by (try simp); (try omega)))))⟩
        by_cases c5 : 8 < u.r.Y1
        · have HQ := Lib.hid (BAD.out (fun h => by have := h.2.1.2.2; omega)); clear BAD NX
          rw [HQ.out]
          go_wp2
          go_ret
          exact ⟨rfl, by (repeat' first | exact Below.refl _ _ | assumption | (apply below_drewN) | (refine Below.setCell ?_ (by (try simp); (try omega)) _) | (refine Below.alloc ?_ (by (try simp); (try omega)) _) | (refine Below.trans ?_ (Below.mono (Hid.out (by assumption)) (by (try simp); (try omega)))))⟩
        by_cases c6 : u.z0 < 0
        · have HQ := Lib.hid (BAD.out (fun h => by have := h.2.2.1; omega)); clear BAD NX
          rw [HQ.out]
          go_wp2
          go_ret
          exact ⟨rfl, by (repeat' first | exact Below.refl _ _ | assumption | (apply below_drewN) | (refine Below.setCell ?_ (by (try simp); (try omega)) _) | (refine Below.alloc ?_ (by (try simp); (try omega)) _) | (refine Below.trans ?_ (Below.mono (Hid.out (by assumption)) (by (try simp); (try omega)))))⟩
        by_cases c7 : u.z1 ≤ u.z0
        · have HQ := Lib.hid (BAD.out (fun h => by have := h.2.2.2.1; omega)); clear BAD NX
          rw [HQ.out]
          go_wp2
          go_ret
          exact ⟨rfl, by (repeat' first | exact Below.refl _ _ | assumption | (apply below_drewN) | (refine Below.setCell ?_ (by (try simp); (try omega)) _) | (refine Below.alloc ?_ (by (try simp); (try omega)) _) | (refine Below.trans ?_ (Below.mono (Hid.out (by assumption)) (by (try simp); (try omega)))))⟩
        by_cases c8 : 8 < u.z1
        · have HQ := Lib.hid (BAD.out (fun h => by have := h.2.2.2.2; omega)); clear BAD NX
          rw [HQ.out]
          go_wp2
          go_ret
          exact ⟨rfl, by (repeat' first | exact Below.refl _ _ | assumption | (apply below_drewN) | (refine Below.setCell ?_ (by (try simp); (try omega)) _) | (refine Below.alloc ?_ (by (try simp); (try omega)) _) | (refine Below.trans ?_ (Below.mono (Hid.out (by assumption)) (by (try simp); (try omega)))))⟩
        have HN := Lib.hid (NX.out ⟨⟨by omega, by omega, by omega⟩, ⟨by omega, by omega, by omega⟩, by omega, by omega, by omega⟩); clear BAD NX
        go_wp2
        go_roundw
        case rel => exact ⟨k + 1, by omega, by omega, by go_num, Lib.hid (by (repeat' first | exact Below.refl _ _ | assumption | (apply below_drewN) | (refine Below.setCell ?_ (by (try simp); (try omega)) _) | (refine Below.alloc ?_ (by (try simp); (try omega)) _) | (refine Below.trans ?_ (Below.mono (Hid.out (by assumption)) (by (try simp); (try omega)))))), HN.out⟩
        case measure => simp [intOf]; omega
      · obtain rfl : k = 7 := by omega
        have HQ : Hid (near8 l 6 = false) := Lib.hid (by rw [← Bool.not_eq_true, near8_iff]; omega)
        have i1 : (7 : Int) < (l.length : Int) := by omega
        have i3 : ¬ (l.length : Int) ≤ 6 := by omega
        go_wp2
        go_ret
        exact ⟨by rw [HQ.out]; rfl, HB.out⟩
    · obtain rfl : k = l.length := by omega
      have i1 : ¬ (l.length : Int) < (l.length : Int) := by omega
      have hall : Near8 l := fun r hr => by
        obtain ⟨j, hj, rfl⟩ := List.mem_iff_getElem.1 hr
        exact HT.out j hj hj
      by_cases h6 : l.length ≤ 6
      · have HQ : Hid (near8 l 6 = true) := Lib.hid ((near8_iff _ _).2 ⟨h6, hall⟩)
        have i3 : (l.length : Int) ≤ 6 := by omega
        go_wp2
        go_ret
        exact ⟨by rw [HQ.out]; rfl, HB.out⟩
      · have HQ : Hid (near8 l 6 = false) := Lib.hid (by rw [← Bool.not_eq_true, near8_iff]; omega)
        have i3 : ¬ (l.length : Int) ≤ 6 := by omega
        go_wp2
        go_ret
        exact ⟨by rw [HQ.out]; rfl, HB.out⟩
set_option maxHeartbeats 16000000 in
theorem ccovered_any (A : Option Addr) (cap : Nat) (l : List Bx) (x y z : Int) (w : World) (hl : BIn w A cap l) (hok : ∀ b ∈ l, BOk b) :
    Calls Try.prog 15 #[.slice A l.length cap, .int .i64 x, .int .i64 y, .int .i64 z] w (BlIs (covB l x y z) w) := by
  have HL := Lib.hid hl; clear hl
  have HOK := Lib.hid hok; clear hok
  have hlen := HL.out.len
  have HB0 := Lib.hid (Below.refl w.heap.size w)
  go_enter Try.func15, Try.ntmps15
  go_wp2
  go_loopw [9] (fun i wr => ∃ (k : Nat), k ≤ l.length ∧ i = .int .i64 k ∧ Hid (Below w.heap.size w wr) ∧ ∀ j (h : j < l.length), j < k → ¬ (HasR l[j].r x y ∧ l[j].z0 ≤ z ∧ z < l[j].z1)) (fun i _ => l.length - (intOf i).toNat)
  case atStart => exact ⟨0, Nat.zero_le _, rfl, HB0, fun j h hj => absurd hj (Nat.not_lt_zero _)⟩
  case round =>
    clear HB0
    obtain ⟨k, hk, rfl, HB, ht⟩ := hrel
    have HT := Lib.hid ht; clear ht
    by_cases hlt : k < l.length
    · obtain ⟨ba, oa, rfl, hba, hva⟩ := HL.out.row (by omega)
      obtain ⟨x0, x1, x2, x3, x4, x5⟩ := hva k hlt
      obtain ⟨u, hu⟩ : ∃ u, u = l[k] := ⟨_, rfl⟩
      rw [← hu] at x0 x1 x2 x3 x4 x5
      have HR : Hid (ROk u.r) := Lib.hid (hu ▸ (HOK.out _ (List.getElem_mem hlt)).1)
      have YES : Hid (HasR u.r x y ∧ u.z0 ≤ z ∧ z < u.z1 → covB l x y z = true) := Lib.hid (fun h => (covB_iff _ _ _ _).2 ⟨u, by rw [hu]; exact List.getElem_mem hlt, h⟩)
      have NX : Hid (¬ (HasR u.r x y ∧ u.z0 ≤ z ∧ z < u.z1) → ∀ j (h : j < l.length), j < k + 1 → ¬ (HasR l[j].r x y ∧ l[j].z0 ≤ z ∧ z < l[j].z1)) := Lib.hid (fun hg j h hj => by
        by_cases e : j < k
        · exact HT.out j h e
        · obtain rfl : j = k := by omega
          rw [← hu]; exact hg)
      have i0 : (0 : Int) ≤ (k : Int) := by omega
      have i1 : (k : Int) < (l.length : Int) := by omega
      clear hva hu
      have wc := fun o => HB.out.cell (p := ⟨ba, o, none⟩) hba
      have x0 := (wc _).trans x0; have x1 := (wc _).trans x1; have x2 := (wc _).trans x2; have x3 := (wc _).trans x3; have x4 := (wc _).trans x4; have x5 := (wc _).trans x5
      clear wc
      have hbs := HB.out.size
      by_cases c0 : ¬ (u.r.X0 ≤ x)
      · have HN := Lib.hid (NX.out (fun h => c0 (h.1.2.1))); clear YES NX
        go_wp2
        go_roundw
        case rel => exact ⟨k + 1, by omega, by go_num, Lib.hid (by (repeat' first | exact Below.refl _ _ | assumption | (apply below_drewN) | (refine Below.setCell ?_ (by (try simp); (try omega)) _) | (refine Below.alloc ?_ (by (try simp); (try omega)) _) | (refine Below.trans ?_ (Below.mono (Hid.out (by assumption)) (by (try simp); (try omega)))))), HN.out⟩
        case measure => simp [intOf]; omega
      rw [Classical.not_not] at c0
      by_cases c1 : ¬ (x < u.r.X1)
      · have HN := Lib.hid (NX.out (fun h => c1 (h.1.2.2.1))); clear YES NX
        go_wp2
        go_roundw
        case rel => exact ⟨k + 1, by omega, by go_num, Lib.hid (by (repeat' first | exact Below.refl _ _ | assumption | (apply below_drewN) | (refine Below.setCell ?_ (by (try simp); (try omega)) _) | (refine Below.alloc ?_ (by (try simp); (try omega)) _) | (refine Below.trans ?_ (Below.mono (Hid.out (by assumption)) (by (try simp); (try omega)))))), HN.out⟩
        case measure => simp [intOf]; omega
      rw [Classical.not_not] at c1
      by_cases c2 : ¬ (u.r.Y0 ≤ y)
      · have HN := Lib.hid (NX.out (fun h => c2 (h.1.2.2.2.1))); clear YES NX
        go_wp2
        go_roundw
        case rel => exact ⟨k + 1, by omega, by go_num, Lib.hid (by (repeat' first | exact Below.refl _ _ | assumption | (apply below_drewN) | (refine Below.setCell ?_ (by (try simp); (try omega)) _) | (refine Below.alloc ?_ (by (try simp); (try omega)) _) | (refine Below.trans ?_ (Below.mono (Hid.out (by assumption)) (by (try simp); (try omega)))))), HN.out⟩
        case measure => simp [intOf]; omega
      rw [Classical.not_not] at c2
      by_cases c3 : ¬ (y < u.r.Y1)
      · have HN := Lib.hid (NX.out (fun h => c3 (h.1.2.2.2.2))); clear YES NX
        go_wp2
        go_roundw
        case rel => exact ⟨k + 1, by omega, by go_num, Lib.hid (by (repeat' first | exact Below.refl _ _ | assumption | (apply below_drewN) | (refine Below.setCell ?_ (by (try simp); (try omega)) _) | (refine Below.alloc ?_ (by (try simp); (try omega)) _) | (refine Below.trans ?_ (Below.mono (Hid.out (by assumption)) (by (try simp); (try omega)))))), HN.out⟩
        case measure => simp [intOf]; omega
      rw [Classical.not_not] at c3
      by_cases c4 : ¬ (u.z0 ≤ z)
      · have HN := Lib.hid (NX.out (fun h => c4 (h.2.1))); clear YES NX
        go_wp2
        go_roundw
        case rel => exact ⟨k + 1, by omega, by go_num, Lib.hid (by (repeat' first | exact Below.refl _ _ | assumption | (apply below_drewN) | (refine Below.setCell ?_ (by (try simp); (try omega)) _) | (refine Below.alloc ?_ (by (try simp); (try omega)) _) | (refine Below.trans ?_ (Below.mono (Hid.out (by assumption)) (by (try simp); (try omega)))))), HN.out⟩
        case measure => simp [intOf]; omega
      rw [Classical.not_not] at c4
      by_cases c5 : ¬ (z < u.z1)
      · have HN := Lib.hid (NX.out (fun h => c5 (h.2.2))); clear YES NX
        go_wp2
        go_roundw
        case rel => exact ⟨k + 1, by omega, by go_num, Lib.hid (by (repeat' first | exact Below.refl _ _ | assumption | (apply below_drewN) | (refine Below.setCell ?_ (by (try simp); (try omega)) _) | (refine Below.alloc ?_ (by (try simp); (try omega)) _) | (refine Below.trans ?_ (Below.mono (Hid.out (by assumption)) (by (try simp); (try omega)))))), HN.out⟩
        case measure => simp [intOf]; omega
      rw [Classical.not_not] at c5
      have HQ := Lib.hid (YES.out ⟨⟨HR.out, c0, c1, c2, c3⟩, c4, c5⟩); clear YES NX
      rw [HQ.out]
      go_wp2
      go_ret
      exact ⟨rfl, by (repeat' first | exact Below.refl _ _ | assumption | (apply below_drewN) | (refine Below.setCell ?_ (by (try simp); (try omega)) _) | (refine Below.alloc ?_ (by (try simp); (try omega)) _) | (refine Below.trans ?_ (Below.mono (Hid.out (by assumption)) (by (try simp); (try omega)))))⟩
    · obtain rfl : k = l.length := by omega
      have HQ : Hid (covB l x y z = false) := Lib.hid (by
        rw [← Bool.not_eq_true, covB_iff]
        rintro ⟨r, hr, h⟩
        obtain ⟨j, hj, rfl⟩ := List.mem_iff_getElem.1 hr
        exact HT.out j hj hj h)
      go_wp2
      go_ret
      exact ⟨by rw [HQ.out]; rfl, HB.out⟩
end Go.Proofs.Yteecfgdicckplaa
