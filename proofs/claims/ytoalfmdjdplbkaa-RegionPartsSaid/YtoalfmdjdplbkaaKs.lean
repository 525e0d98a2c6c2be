/-
  Contract of the law's apart.
-/
import Derived.Test.YtoalfmdjdplbkaaKq
import Derived.Test.YtoalfmdjdplbkaaHv
import Derived.Lib.MinMax
set_option linter.unusedVariables false
set_option maxRecDepth 100000
namespace Go.Proofs.Ytoalfmdjdplbkaa
open Go.RowKit

set_option maxHeartbeats 16000000 in
theorem wapart_any (A1 : Option Addr) (c1 : Nat) (A2 : Option Addr) (c2 : Nat) (a b : List Rc) (w : World) (ha : RIn w A1 c1 a) (hb : RIn w A2 c2 b) (oa : ∀ r ∈ a, ROk r) (ob : ∀ r ∈ b, ROk r) (hn : ∀ p ∈ a, ∀ q ∈ b, ¬ NearP p q) :
    Calls Try.prog 22 #[.slice A1 a.length c1, .slice A2 b.length c2] w (BlIs true w) := by
  have HA := Lib.hid ha; have HB := Lib.hid hb
  have OA := Lib.hid oa; have OB := Lib.hid ob; have HN := Lib.hid hn
  clear ha hb oa ob hn
  have hla := HA.out.len; have hlb := HB.out.len
  have HW := Lib.hid (Below.refl w.heap.size w)
  go_enter Try.func22, Try.ntmps22
  go_wp2_with fail
  go_loopw [5] (fun i wr => ∃ k : Nat, k ≤ a.length ∧ i = .int .i64 k ∧ Hid (Below w.heap.size w wr)) (fun i _ => a.length - (intOf i).toNat)
  case atStart => exact ⟨0, Nat.zero_le _, rfl, HW⟩
  case round =>
    clear HW
    obtain ⟨i, hi, rfl, HW⟩ := hrel
    by_cases hlt : i < a.length
    · have i0 : (0 : Int) ≤ (i : Int) := by omega
      have i1 : (i : Int) < (a.length : Int) := by omega
      have q5 : IntKind.i64.wrap ((i : Int) + 1) = (i : Int) + 1 := IntWalk.i64_in _ (by omega)
      obtain ⟨r, hr⟩ : ∃ r, r = a[i] := ⟨_, rfl⟩
      have okr : ROk r := hr ▸ OA.out _ (List.getElem_mem hlt)
      have HNR : Hid (∀ q ∈ b, ¬ NearP r q) := Lib.hid (fun q hq => HN.out r (hr ▸ List.getElem_mem hlt) q hq)
      obtain ⟨ba, oa, rfl, hba, hva⟩ := HA.out.row (by omega)
      obtain ⟨x0, x1, x2, x3⟩ := hva i hlt
      rw [← hr] at x0 x1 x2 x3
      clear hva hr
      have XA := Lib.hid (And.intro x0 (And.intro x1 (And.intro x2 x3)))
      clear x0 x1 x2 x3
      go_wp2_with fail
      go_loopw [6] (fun j wr => ∃ k : Nat, k ≤ b.length ∧ j = .int .i64 k ∧ Hid (Below w.heap.size w wr)) (fun j _ => b.length - (intOf j).toNat)
      case atStart => exact ⟨0, Nat.zero_le _, rfl, HW⟩
      case round =>
        clear HW
        obtain ⟨j, hj, rfl, HW⟩ := hrel
        by_cases hlt2 : j < b.length
        · have j0 : (0 : Int) ≤ (j : Int) := by omega
          have j1 : (j : Int) < (b.length : Int) := by omega
          have q6 : IntKind.i64.wrap ((j : Int) + 1) = (j : Int) + 1 := IntWalk.i64_in _ (by omega)
          obtain ⟨s, hs⟩ : ∃ s, s = b[j] := ⟨_, rfl⟩
          have oks : ROk s := hs ▸ OB.out _ (List.getElem_mem hlt2)
          have hnn : ¬ NearP r s := HNR.out s (hs ▸ List.getElem_mem hlt2)
          obtain ⟨bb, ob, rfl, hbb, hvb⟩ := HB.out.row (by omega)
          obtain ⟨y0, y1, y2, y3⟩ := hvb j hlt2
          rw [← hs] at y0 y1 y2 y3
          clear hvb hs
          obtain ⟨x0, x1, x2, x3⟩ := XA.out
          have wa := fun o => HW.out.cell (p := ⟨ba, o, none⟩) hba
          have wb := fun o => HW.out.cell (p := ⟨bb, o, none⟩) hbb
          have x0 := (wa _).trans x0; have x1 := (wa _).trans x1; have x2 := (wa _).trans x2; have x3 := (wa _).trans x3
          have y0 := (wb _).trans y0; have y1 := (wb _).trans y1; have y2 := (wb _).trans y2; have y3 := (wb _).trans y3
          have hba' : ba < wr.heap.size := Nat.lt_of_lt_of_le hba HW.out.size
          have hbb' : bb < wr.heap.size := Nat.lt_of_lt_of_le hbb HW.out.size
          clear wa wb
          obtain ⟨⟨a1, a2, a3⟩, a4, a5, a6⟩ := okr
          obtain ⟨⟨b1, b2, b3⟩, b4, b5, b6⟩ := oks
          unfold NearP at hnn
          have w1 : IntKind.i64.wrap (min r.X1 s.X1 - max r.X0 s.X0) = min r.X1 s.X1 - max r.X0 s.X0 := IntWalk.i64_in _ (by omega)
          have w2 : IntKind.i64.wrap (min r.Y1 s.Y1 - max r.Y0 s.Y0) = min r.Y1 s.Y1 - max r.Y0 s.Y0 := IntWalk.i64_in _ (by omega)
          clear a1 a2 a3 a4 a5 a6 b1 b2 b3 b4 b5 b6
          go_wp2_with fail
          go_quiet (fail)
          go_wp2_with fail
          go_quiet (fail)
          clear w1 w2
          generalize min r.X1 s.X1 - max r.X0 s.X0 = xd at *
          generalize min r.Y1 s.Y1 - max r.Y0 s.Y0 = yd at *
          by_cases c1 : 0 < xd
          · have d1 : decide (0 < xd) = true := decide_eq_true c1
            have d2 : decide (0 ≤ yd) = false := decide_eq_false (by omega)
            have d3 : decide (0 ≤ xd) = true := decide_eq_true (by omega)
            have d4 : decide (0 < yd) = false := decide_eq_false (by omega)
            clear c1 hnn
            go_wp2_with fail
            go_roundw
            case rel => exact ⟨j + 1, by omega, by go_num, Lib.hid (by (repeat' first | exact Below.refl _ _ | assumption | (apply below_drewN) | (refine Below.setCell ?_ (by (try simp); (try omega)) _) | (refine Below.alloc ?_ (by (try simp); (try omega)) _) | (refine Below.trans ?_ (Below.mono (Hid.out (by assumption)) (by (try simp); (try omega))))))⟩
            case measure => simp [intOf]; omega
          · have d1 : decide (0 < xd) = false := decide_eq_false c1
            by_cases c2 : 0 ≤ xd
            · have d3 : decide (0 ≤ xd) = true := decide_eq_true c2
              have d4 : decide (0 < yd) = false := decide_eq_false (by omega)
              clear c1 c2 hnn
              go_wp2_with fail
              go_roundw
              case rel => exact ⟨j + 1, by omega, by go_num, Lib.hid (by (repeat' first | exact Below.refl _ _ | assumption | (apply below_drewN) | (refine Below.setCell ?_ (by (try simp); (try omega)) _) | (refine Below.alloc ?_ (by (try simp); (try omega)) _) | (refine Below.trans ?_ (Below.mono (Hid.out (by assumption)) (by (try simp); (try omega))))))⟩
              case measure => simp [intOf]; omega
            · have d3 : decide (0 ≤ xd) = false := decide_eq_false c2
              clear c1 c2 hnn
              go_wp2_with fail
              go_roundw
              case rel => exact ⟨j + 1, by omega, by go_num, Lib.hid (by (repeat' first | exact Below.refl _ _ | assumption | (apply below_drewN) | (refine Below.setCell ?_ (by (try simp); (try omega)) _) | (refine Below.alloc ?_ (by (try simp); (try omega)) _) | (refine Below.trans ?_ (Below.mono (Hid.out (by assumption)) (by (try simp); (try omega))))))⟩
              case measure => simp [intOf]; omega
        · obtain rfl : j = b.length := by omega
          go_wp2_with fail
          go_roundw
          case rel => exact ⟨i + 1, by omega, by go_num, HW⟩
          case measure => simp [intOf]; omega
    · obtain rfl : i = a.length := by omega
      go_wp2_with fail
      go_ret
      exact ⟨rfl, HW.out⟩
end Go.Proofs.Ytoalfmdjdplbkaa
