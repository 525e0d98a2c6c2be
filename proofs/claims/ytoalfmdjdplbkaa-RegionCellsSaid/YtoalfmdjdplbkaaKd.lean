/-
  Contracts of the law's near and covered.
-/
import Derived.Test.YtoalfmdjdplbkaaHs
import Derived.Test.YtoalfmdjdplbkaaKa
set_option linter.unusedVariables false
set_option maxRecDepth 100000
namespace Go.Proofs.Ytoalfmdjdplbkaa
open Go.RowKit

def Good24 (r : Rc) : Prop := (0 ≤ r.X0 ∧ r.X0 < r.X1 ∧ r.X1 ≤ 24) ∧ 0 ≤ r.Y0 ∧ r.Y0 < r.Y1 ∧ r.Y1 ≤ 24
set_option maxHeartbeats 8000000 in
theorem wnear_any (A : Option Addr) (cap : Nat) (l : List Rc) (w : World) (hl : RRow w A l) :
    Calls Try.prog 12 #[.slice A l.length cap, .int .i64 6] w (BlIs (nearB l 6) w) := by
  have HL := Lib.hid hl; clear hl
  have HB0 := Lib.hid (Below.refl w.heap.size w)
  go_enter Try.func12, Try.ntmps12
  go_wp2
  go_loopw [5] (fun i wr => ∃ (k : Nat), k ≤ l.length ∧ k ≤ 7 ∧ i = .int .i64 k ∧ Hid (Below w.heap.size w wr) ∧ ∀ j (h : j < l.length), j < k → Good24 l[j]) (fun i _ => 7 - (intOf i).toNat)
  case atStart => exact ⟨0, Nat.zero_le _, by omega, rfl, HB0, fun j h hj => absurd hj (Nat.not_lt_zero _)⟩
  case round =>
    clear HB0
    obtain ⟨k, hk, hk7, rfl, HB, ht⟩ := hrel
    have HT := Lib.hid ht; clear ht
    by_cases hlt : k < l.length
    · by_cases h6 : k ≤ 6
      · obtain ⟨ba, oa, rfl, hba, hva⟩ := HL.out (by omega)
        obtain ⟨x0, x1, x2, x3⟩ := hva k hlt
        obtain ⟨u, hu⟩ : ∃ u, u = l[k] := ⟨_, rfl⟩
        rw [← hu] at x0 x1 x2 x3
        have BAD : Hid (¬ Good24 u → nearB l 6 = false) := Lib.hid (fun h => by
          rw [← Bool.not_eq_true, nearB_iff]
          exact fun ⟨_, h2⟩ => h (by rw [hu]; exact h2 _ (List.getElem_mem hlt)))
        have NX : Hid (Good24 u → ∀ j (h : j < l.length), j < k + 1 → Good24 l[j]) := Lib.hid (fun hg j h hj => by
          by_cases e : j < k
          · exact HT.out j h e
          · obtain rfl : j = k := by omega
            rw [← hu]; exact hg)
        have i0 : (0 : Int) ≤ (k : Int) := by omega
        have i1 : (k : Int) < (l.length : Int) := by omega
        have i2 : (k : Int) ≤ 6 := by omega
        clear hva hu
        have wc := fun o => HB.out.cell (p := ⟨ba, o, none⟩) hba
        have x0 := (wc _).trans x0; have x1 := (wc _).trans x1; have x2 := (wc _).trans x2; have x3 := (wc _).trans x3
        clear wc
        have hbs := HB.out.size
        by_cases c0 : u.X0 < 0
        · have HQ := Lib.hid (BAD.out (fun h => by have := h.1.1; omega)); clear BAD NX
          rw [HQ.out]
          go_wp2
          go_ret
          exact ⟨rfl, by (repeat' first | exact Below.refl _ _ | assumption | (apply below_drewN) | (refine Below.setCell ?_ (by (try simp); (try omega)) _) | (refine Below.alloc ?_ (by (try simp); (try omega)) _) | (refine Below.trans ?_ (Below.mono (Hid.out (by assumption)) (by (try simp); (try omega)))))⟩
        by_cases c1 : u.X1 ≤ u.X0
        · have HQ := Lib.hid (BAD.out (fun h => by have := h.1.2.1; omega)); clear BAD NX
          rw [HQ.out]
          go_wp2
          go_ret
          exact ⟨rfl, by (repeat' first | exact Below.refl _ _ | assumption | (apply below_drewN) | (refine Below.setCell ?_ (by (try simp); (try omega)) _) | (refine Below.alloc ?_ (by (try simp); (try omega)) _) | (refine Below.trans ?_ (Below.mono (Hid.out (by assumption)) (by (try simp); (try omega)))))⟩
        by_cases c2 : 24 < u.X1
        · have HQ := Lib.hid (BAD.out (fun h => by have := h.1.2.2; omega)); clear BAD NX
          rw [HQ.out]
          go_wp2
          go_ret
          exact ⟨rfl, by (repeat' first | exact Below.refl _ _ | assumption | (apply below_drewN) | (refine Below.setCell ?_ (by (try simp); (try omega)) _) | (refine Below.alloc ?_ (by (try simp); (try omega)) _) | (refine Below.trans ?_ (Below.mono (Hid.out (by assumption)) (by (try simp); (try omega)))))⟩
        by_cases c3 : u.Y0 < 0
        · have HQ := Lib.hid (BAD.out (fun h => by have := h.2.1; omega)); clear BAD NX
          rw [HQ.out]
          go_wp2
          go_ret
          exact ⟨rfl, by (repeat' first | exact Below.refl _ _ | assumption | (apply below_drewN) | (refine Below.setCell ?_ (by (try simp); (try omega)) _) | (refine Below.alloc ?_ (by (try simp); (try omega)) _) | (refine Below.trans ?_ (Below.mono (Hid.out (by assumption)) (by (try simp); (try omega)))))⟩
        by_cases c4 : u.Y1 ≤ u.Y0
        · have HQ := Lib.hid (BAD.out (fun h => by have := h.2.2.1; omega)); clear BAD NX
          rw [HQ.out]
          go_wp2
          go_ret
          exact ⟨rfl, by (repeat' first | exact Below.refl _ _ | assumption | (apply below_drewN) | (refine Below.setCell ?_ (by (try simp); (try omega)) _) | (refine Below.alloc ?_ (by (try simp); (try omega)) _) | (refine Below.trans ?_ (Below.mono (Hid.out (by assumption)) (by (try simp); (try omega)))))⟩
        by_cases c5 : 24 < u.Y1
        · have HQ := Lib.hid (BAD.out (fun h => by have := h.2.2.2; omega)); clear BAD NX
          rw [HQ.out]
          go_wp2
          go_ret
          exact ⟨rfl, by (repeat' first | exact Below.refl _ _ | assumption | (apply below_drewN) | (refine Below.setCell ?_ (by (try simp); (try omega)) _) | (refine Below.alloc ?_ (by (try simp); (try omega)) _) | (refine Below.trans ?_ (Below.mono (Hid.out (by assumption)) (by (try simp); (try omega)))))⟩
        have HN := Lib.hid (NX.out ⟨⟨by omega, by omega, by omega⟩, by omega, by omega, by omega⟩); clear BAD NX
        go_wp2
        go_roundw
        case rel => exact ⟨k + 1, by omega, by omega, by go_num, Lib.hid (by (repeat' first | exact Below.refl _ _ | assumption | (apply below_drewN) | (refine Below.setCell ?_ (by (try simp); (try omega)) _) | (refine Below.alloc ?_ (by (try simp); (try omega)) _) | (refine Below.trans ?_ (Below.mono (Hid.out (by assumption)) (by (try simp); (try omega)))))), HN.out⟩
        case measure => simp [intOf]; omega
      · obtain rfl : k = 7 := by omega
        have HQ : Hid (nearB l 6 = false) := Lib.hid (by rw [← Bool.not_eq_true, nearB_iff]; omega)
        have i1 : (7 : Int) < (l.length : Int) := by omega
        have i3 : ¬ (l.length : Int) ≤ 6 := by omega
        go_wp2
        go_ret
        exact ⟨by rw [HQ.out]; rfl, HB.out⟩
    · obtain rfl : k = l.length := by omega
      have i1 : ¬ (l.length : Int) < (l.length : Int) := by omega
      have hall : Near24 l := fun r hr => by
        obtain ⟨j, hj, rfl⟩ := List.mem_iff_getElem.1 hr
        exact HT.out j hj hj
      by_cases h6 : l.length ≤ 6
      · have HQ : Hid (nearB l 6 = true) := Lib.hid ((nearB_iff _ _).2 ⟨h6, hall⟩)
        have i3 : (l.length : Int) ≤ 6 := by omega
        go_wp2
        go_ret
        exact ⟨by rw [HQ.out]; rfl, HB.out⟩
      · have HQ : Hid (nearB l 6 = false) := Lib.hid (by rw [← Bool.not_eq_true, nearB_iff]; omega)
        have i3 : ¬ (l.length : Int) ≤ 6 := by omega
        go_wp2
        go_ret
        exact ⟨by rw [HQ.out]; rfl, HB.out⟩
set_option maxHeartbeats 8000000 in
theorem wcovered_any (A : Option Addr) (cap : Nat) (l : List Rc) (x y : Int) (w : World) (hl : RIn w A cap l) (hok : ∀ r ∈ l, ROk r) :
    Calls Try.prog 17 #[.slice A l.length cap, .int .i64 x, .int .i64 y] w (BlIs (hasB l x y) w) := by
  have HL := Lib.hid hl; clear hl
  have HOK := Lib.hid hok; clear hok
  have hlen := HL.out.len
  have HB0 := Lib.hid (Below.refl w.heap.size w)
  go_enter Try.func17, Try.ntmps17
  go_wp2
  go_loopw [7] (fun i wr => ∃ (k : Nat), k ≤ l.length ∧ i = .int .i64 k ∧ Hid (Below w.heap.size w wr) ∧ ∀ j (h : j < l.length), j < k → ¬ HasR l[j] x y) (fun i _ => l.length - (intOf i).toNat)
  case atStart => exact ⟨0, Nat.zero_le _, rfl, HB0, fun j h hj => absurd hj (Nat.not_lt_zero _)⟩
  case round =>
    clear HB0
    obtain ⟨k, hk, rfl, HB, ht⟩ := hrel
    have HT := Lib.hid ht; clear ht
    by_cases hlt : k < l.length
    · obtain ⟨ba, oa, rfl, hba, hva⟩ := HL.out.row (by omega)
      obtain ⟨x0, x1, x2, x3⟩ := hva k hlt
      obtain ⟨u, hu⟩ : ∃ u, u = l[k] := ⟨_, rfl⟩
      rw [← hu] at x0 x1 x2 x3
      have HR : Hid (ROk u) := Lib.hid (hu ▸ HOK.out _ (List.getElem_mem hlt))
      have YES : Hid (HasR u x y → hasB l x y = true) := Lib.hid (fun h => (hasB_iff _ _ _).2 ⟨u, by rw [hu]; exact List.getElem_mem hlt, h⟩)
      have NX : Hid (¬ HasR u x y → ∀ j (h : j < l.length), j < k + 1 → ¬ HasR l[j] x y) := Lib.hid (fun hg j h hj => by
        by_cases e : j < k
        · exact HT.out j h e
        · obtain rfl : j = k := by omega
          rw [← hu]; exact hg)
      have i0 : (0 : Int) ≤ (k : Int) := by omega
      have i1 : (k : Int) < (l.length : Int) := by omega
      clear hva hu
      have wc := fun o => HB.out.cell (p := ⟨ba, o, none⟩) hba
      have x0 := (wc _).trans x0; have x1 := (wc _).trans x1; have x2 := (wc _).trans x2; have x3 := (wc _).trans x3
      clear wc
      have hbs := HB.out.size
      by_cases c0 : u.X0 ≤ x
      · skip
        by_cases c1 : x < u.X1
        · skip
          by_cases c2 : u.Y0 ≤ y
          · skip
            by_cases c3 : y < u.Y1
            · skip
              have HQ := Lib.hid (YES.out ⟨HR.out, c0, c1, c2, c3⟩); clear YES NX
              rw [HQ.out]
              go_wp2
              go_ret
              exact ⟨rfl, by (repeat' first | exact Below.refl _ _ | assumption | (apply below_drewN) | (refine Below.setCell ?_ (by (try simp); (try omega)) _) | (refine Below.alloc ?_ (by (try simp); (try omega)) _) | (refine Below.trans ?_ (Below.mono (Hid.out (by assumption)) (by (try simp); (try omega)))))⟩
            · have HN := Lib.hid (NX.out (fun h => c3 h.2.2.2.2)); clear YES NX
              go_wp2
              go_roundw
              case rel => exact ⟨k + 1, by omega, by go_num, Lib.hid (by (repeat' first | exact Below.refl _ _ | assumption | (apply below_drewN) | (refine Below.setCell ?_ (by (try simp); (try omega)) _) | (refine Below.alloc ?_ (by (try simp); (try omega)) _) | (refine Below.trans ?_ (Below.mono (Hid.out (by assumption)) (by (try simp); (try omega)))))), HN.out⟩
              case measure => simp [intOf]; omega
          · have HN := Lib.hid (NX.out (fun h => c2 h.2.2.2.1)); clear YES NX
            go_wp2
            go_roundw
            case rel => exact ⟨k + 1, by omega, by go_num, Lib.hid (by (repeat' first | exact Below.refl _ _ | assumption | (apply below_drewN) | (refine Below.setCell ?_ (by (try simp); (try omega)) _) | (refine Below.alloc ?_ (by (try simp); (try omega)) _) | (refine Below.trans ?_ (Below.mono (Hid.out (by assumption)) (by (try simp); (try omega)))))), HN.out⟩
            case measure => simp [intOf]; omega
        · have HN := Lib.hid (NX.out (fun h => c1 h.2.2.1)); clear YES NX
          go_wp2
          go_roundw
          case rel => exact ⟨k + 1, by omega, by go_num, Lib.hid (by (repeat' first | exact Below.refl _ _ | assumption | (apply below_drewN) | (refine Below.setCell ?_ (by (try simp); (try omega)) _) | (refine Below.alloc ?_ (by (try simp); (try omega)) _) | (refine Below.trans ?_ (Below.mono (Hid.out (by assumption)) (by (try simp); (try omega)))))), HN.out⟩
          case measure => simp [intOf]; omega
      · have HN := Lib.hid (NX.out (fun h => c0 h.2.1)); clear YES NX
        go_wp2
        go_roundw
        case rel => exact ⟨k + 1, by omega, by go_num, Lib.hid (by (repeat' first | exact Below.refl _ _ | assumption | (apply below_drewN) | (refine Below.setCell ?_ (by (try simp); (try omega)) _) | (refine Below.alloc ?_ (by (try simp); (try omega)) _) | (refine Below.trans ?_ (Below.mono (Hid.out (by assumption)) (by (try simp); (try omega)))))), HN.out⟩
        case measure => simp [intOf]; omega
    · obtain rfl : k = l.length := by omega
      have HQ : Hid (hasB l x y = false) := Lib.hid (by
        rw [← Bool.not_eq_true, hasB_iff]
        rintro ⟨r, hr, h⟩
        obtain ⟨j, hj, rfl⟩ := List.mem_iff_getElem.1 hr
        exact HT.out j hj hj h)
      go_wp2
      go_ret
      exact ⟨by rw [HQ.out]; rfl, HB.out⟩
end Go.Proofs.Ytoalfmdjdplbkaa
