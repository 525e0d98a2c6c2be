/-
  Contracts of the program's layer 6 (14): Same, with slices.Equal.
-/
import Derived.Test.YtdnoadngfkiabaaP910
import Derived.Test.YtdnoadngfkiabaaP901
import Derived.Laws.StructEq
set_option linter.unusedVariables false
set_option maxRecDepth 100000
namespace Go.Proofs.Ytdnoadngfkiabaa
open Go.RowKit

set_option maxHeartbeats 16000000 in
theorem geq_any (A1 : Option Addr) (c1 : Nat) (A2 : Option Addr) (c2 : Nat) (l m : List Rc) (w : World) (h1 : RRow w A1 l) (h2 : RRow w A2 m) (hl : l.length ≤ 1099511627776) (hm : m.length ≤ 1099511627776) :
    Calls Try.prog 82 #[.slice A1 l.length c1, .slice A2 m.length c2] w (BlIs (decide (l = m)) w) := by
  have H1 := Lib.hid h1; clear h1
  have H2 := Lib.hid h2; clear h2
  by_cases hlen : l.length = m.length
  · have hll : ((l.length : Int) != (m.length : Int)) = false := by simp [hlen]
    go_enter Try.func82, Try.ntmps82
    go_wp2
    go_loopw [13] (fun i wr => ∃ (k q : Nat), k ≤ l.length ∧ i = .int .i64 k ∧ wr = w.drewN q ∧ l.take k = m.take k) (fun i _ => l.length - (intOf i).toNat)
    case atStart => exact ⟨0, 0, Nat.zero_le _, rfl, rfl, rfl⟩
    case round =>
      obtain ⟨k, q, hk, rfl, rfl, ht⟩ := hrel
      by_cases hlt : k < l.length
      · obtain ⟨b1, o1, rfl, hb1, hv1⟩ := H1.out (by omega)
        obtain ⟨b2, o2, rfl, hb2, hv2⟩ := H2.out (by omega)
        obtain ⟨x0, x1, x2, x3⟩ := hv1 k hlt
        obtain ⟨y0, y1, y2, y3⟩ := hv2 k (by omega)
        have hk2 : k < m.length := by omega
        have HT := Lib.hid (take_eq_step hlt hk2 ht); clear ht
        have HNE : Hid (l[k] ≠ m[k] → l ≠ m) := Lib.hid (fun h e => h (by subst e; rfl))
        have i0 : (0 : Int) ≤ (k : Int) := by omega
        have i1 : (k : Int) < (l.length : Int) := by omega
        have i2 : (k : Int) < (m.length : Int) := by omega
        clear hv1 hv2
        generalize l[k] = u at *
        generalize m[k] = v at *
        rcases rc_parts (u := u) (v := v) with rfl | ⟨e, hd⟩
        · have HT2 := Lib.hid (HT.out rfl); clear HT HNE
          go_wp2_with fail
          go_quiet (fail)
          go_wp2
          go_roundw
          case rel => exact ⟨k + 1, _, by omega, by go_num, rfl, HT2.out⟩
          case measure => simp [intOf]; omega
        · have HN := Lib.hid (HNE.out e); clear HT HNE e
          rcases hd with d0 | ⟨d0, d1⟩ | ⟨d0, d1, d2⟩ | ⟨d0, d1, d2, d3⟩
          all_goals
            go_wp2_with fail
            go_quiet (fail)
            go_wp2
            go_ret
            exact ⟨by rw [decide_eq_false HN.out]; rfl, by (repeat' first | exact Below.refl _ _ | assumption | (apply below_drewN) | (refine Below.setCell ?_ (by (try simp); (try omega)) _) | (refine Below.alloc ?_ (by (try simp); (try omega)) _) | (refine Below.trans ?_ (Below.mono (Hid.out (by assumption)) (by (try simp); (try omega)))))⟩
      · obtain rfl : k = l.length := by omega
        have he : l = m := by
          rw [List.take_length] at ht
          rw [ht, hlen, List.take_length]
        go_wp2
        go_ret
        exact ⟨by rw [decide_eq_true he]; rfl, by (repeat' first | exact Below.refl _ _ | assumption | (apply below_drewN) | (refine Below.setCell ?_ (by (try simp); (try omega)) _) | (refine Below.alloc ?_ (by (try simp); (try omega)) _) | (refine Below.trans ?_ (Below.mono (Hid.out (by assumption)) (by (try simp); (try omega)))))⟩
  · have hll : ((l.length : Int) != (m.length : Int)) = true := by simp; omega
    rw [decide_eq_false (fun e => hlen (by rw [e]))]
    go_enter Try.func82, Try.ntmps82
    go_wp2
    go_ret
    exact ⟨rfl, by (repeat' first | exact Below.refl _ _ | assumption | (apply below_drewN) | (refine Below.setCell ?_ (by (try simp); (try omega)) _) | (refine Below.alloc ?_ (by (try simp); (try omega)) _) | (refine Below.trans ?_ (Below.mono (Hid.out (by assumption)) (by (try simp); (try omega)))))⟩

set_option maxHeartbeats 4000000 in
theorem gsame_any (A1 : Option Addr) (c1 : Nat) (A2 : Option Addr) (c2 : Nat) (l m : List Rc) (w : World) (h1 : RRow w A1 l) (h2 : RRow w A2 m) (hl : l.length ≤ 1099511627776) (hm : m.length ≤ 1099511627776) :
    Calls Try.prog 64 #[.slice A1 l.length c1, .slice A2 m.length c2] w (BlIs (decide (l = m)) w) := by
  have HE := Lib.hid (geq_any A1 c1 A2 c2 l m w h1 h2 hl hm); clear h1 h2
  generalize decide (l = m) = d at *
  go_enter Try.func64, Try.ntmps64
  go_wp2_with (go_at_call 82; refine HE.out.mono ?_; rintro e w1 ⟨rfl, hb⟩; have HBl := Lib.hid hb; clear hb)
  go_ret
  exact ⟨rfl, by (repeat' first | exact Below.refl _ _ | assumption | (apply below_drewN) | (refine Below.setCell ?_ (by (try simp); (try omega)) _) | (refine Below.alloc ?_ (by (try simp); (try omega)) _) | (refine Below.trans ?_ (Below.mono (Hid.out (by assumption)) (by (try simp); (try omega)))))⟩
end Go.Proofs.Ytdnoadngfkiabaa
