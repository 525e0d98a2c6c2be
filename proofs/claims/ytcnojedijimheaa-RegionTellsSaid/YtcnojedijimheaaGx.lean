/-
  Contracts of the reference of layer 6 (8): Has of a region.
-/
import Derived.Test.YtcnojedijimheaaGw
set_option linter.unusedVariables false
set_option maxRecDepth 100000
namespace Go.Proofs.Ytcnojedijimheaa
open Go.RowKit

theorem hasD_next (l : List Rc) (k : Nat) (h : k < l.length) (x y : Int) : hasD (l.take (k + 1)) x y = (hasD (l.take k) x y || decide (HasR l[k] x y)) := by
  rw [List.take_succ_eq_append_getElem h]; unfold hasD; rw [List.any_append]; simp
theorem hasD_here (l : List Rc) (k : Nat) (h : k < l.length) (x y : Int) (hh : HasR l[k] x y) : hasD l x y = true := (hasD_iff l x y).2 ⟨_, List.getElem_mem h, hh⟩
set_option maxHeartbeats 16000000 in
theorem vHas_yes (A : Option Addr) (cap : Nat) (l : List Rc) (x y : Int) (w : World) (h1 : RRow w A l) (hr : RegP l) : Calls Try.prog 27 #[.slice A l.length cap, .int .i64 x, .int .i64 y] w (BlIs (hasD l x y) w) := by
  have hl : l.length ≤ 1099511627776 := by have := hr.2; omega
  have HOK := Lib.hid (form_ok hr.1)
  have H1 := Lib.hid h1
  have HR := Lib.hid (vRight_yes A cap l w h1 hl hr)
  clear h1 hr
  go_enter Try.func27, Try.ntmps27
  go_wp2_with fail
  refine HR.out.mono ?_
  rintro e1 w1 ⟨rfl, hb1⟩
  have K0 := Lib.hid hb1; clear hb1 HR
  go_wp2_with fail
  go_loopw [7] (fun i wr => ∃ (k : Nat), k ≤ l.length ∧ i = .int .i64 k ∧ Hid (Below w.heap.size w wr) ∧ Hid (hasD (l.take k) x y = false)) (fun i _ => l.length - (intOf i).toNat)
  case atStart => exact ⟨0, Nat.zero_le _, rfl, K0, Lib.hid rfl⟩
  case round =>
    clear K0
    obtain ⟨k, hk, rfl, HB, HT⟩ := hrel
    by_cases hlt : k < l.length
    · obtain ⟨b1, o1, rfl, hb1, hv1⟩ := H1.out (by omega)
      obtain ⟨x0, x1, x2, x3⟩ := hv1 k hlt
      have wc := fun o => HB.out.cell (p := ⟨b1, o, none⟩) hb1
      have x0 := (wc _).trans x0; have x1 := (wc _).trans x1; have x2 := (wc _).trans x2; have x3 := (wc _).trans x3
      clear hv1 wc
      have i0 : (0 : Int) ≤ (k : Int) := by omega
      have i1 : (k : Int) < (l.length : Int) := by omega
      have HUO := Lib.hid (HOK.out _ (List.getElem_mem hlt))
      have HH := Lib.hid (fun h => hasD_here l k hlt x y h)
      have HN : Hid (¬ HasR l[k] x y → hasD (l.take (k + 1)) x y = false) := Lib.hid (fun h => by rw [hasD_next l k hlt, HT.out, decide_eq_false h]; rfl)
      obtain ⟨u, hu⟩ : ∃ u, u = l[k] := ⟨_, rfl⟩
      rw [← hu] at x0 x1 x2 x3 HH HN HUO
      clear hu HT
      by_cases c0 : u.X0 ≤ x
      · have d0 : decide (u.X0 ≤ x) = true := decide_eq_true c0
        by_cases c1 : x < u.X1
        · have d1 : decide (x < u.X1) = true := decide_eq_true c1
          by_cases c2 : u.Y0 ≤ y
          · have d2 : decide (u.Y0 ≤ y) = true := decide_eq_true c2
            by_cases c3 : y < u.Y1
            · have d3 : decide (y < u.Y1) = true := decide_eq_true c3
              have FIN : Hid (BlIs (hasD l x y) w (.returned (.bool true)) wr) := Lib.hid ⟨by rw [HH.out ⟨HUO.out, c0, c1, c2, c3⟩], HB.out⟩
              clear HH HN
              go_wp2_with fail
              go_ret
              exact FIN.out
            · have d3 : decide (y < u.Y1) = false := decide_eq_false c3
              have HT2 := Lib.hid (HN.out (fun h => c3 h.2.2.2.2))
              clear HH HN
              go_wp2_with fail
              go_roundw
              case rel => exact ⟨k + 1, by omega, by go_num, HB, HT2⟩
              case measure => simp [intOf]; omega
          · have d2 : decide (u.Y0 ≤ y) = false := decide_eq_false c2
            have HT2 := Lib.hid (HN.out (fun h => c2 h.2.2.2.1))
            clear HH HN
            go_wp2_with fail
            go_roundw
            case rel => exact ⟨k + 1, by omega, by go_num, HB, HT2⟩
            case measure => simp [intOf]; omega
        · have d1 : decide (x < u.X1) = false := decide_eq_false c1
          have HT2 := Lib.hid (HN.out (fun h => c1 h.2.2.1))
          clear HH HN
          go_wp2_with fail
          go_roundw
          case rel => exact ⟨k + 1, by omega, by go_num, HB, HT2⟩
          case measure => simp [intOf]; omega
      · have d0 : decide (u.X0 ≤ x) = false := decide_eq_false c0
        have HT2 := Lib.hid (HN.out (fun h => c0 h.2.1))
        clear HH HN
        go_wp2_with fail
        go_roundw
        case rel => exact ⟨k + 1, by omega, by go_num, HB, HT2⟩
        case measure => simp [intOf]; omega
    · obtain rfl : k = l.length := by omega
      have FIN : Hid (BlIs (hasD l x y) w (.returned (.bool false)) wr) := Lib.hid ⟨by have := HT.out; rw [List.take_length] at this; rw [this], HB.out⟩
      clear HT
      go_wp2_with fail
      go_ret
      exact FIN.out
end Go.Proofs.Ytcnojedijimheaa
