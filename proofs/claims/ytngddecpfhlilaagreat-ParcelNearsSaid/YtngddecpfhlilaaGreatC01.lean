/-
  Contracts of the reference of layer 6 (1): RightRect, ints, Same.
-/
import Derived.Test.YtngddecpfhlilaaGreatC00
import Derived.BigQuiet
set_option linter.unusedVariables false
set_option maxRecDepth 100000
namespace Go.Proofs.YtngddecpfhlilaaGreat
open Go.RowKit
theorem take_eq_step {α : Type} {l m : List α} {k : Nat} (h1 : k < l.length) (h2 : k < m.length) (h : l.take k = m.take k) (e : l[k] = m[k]) : l.take (k + 1) = m.take (k + 1) := by
 rw [List.take_succ_eq_append_getElem h1, List.take_succ_eq_append_getElem h2, h, e]
instance (l m : List Int) : Decidable (l = m) := inferInstance
theorem rc_parts {u v : Rc} : u = v ∨ (u ≠ v ∧ ((u.X0 == v.X0) = false ∨ (u.X0 = v.X0 ∧ (u.Y0 == v.Y0) = false) ∨ (u.X0 = v.X0 ∧ u.Y0 = v.Y0 ∧ (u.X1 == v.X1) = false) ∨ (u.X0 = v.X0 ∧ u.Y0 = v.Y0 ∧ u.X1 = v.X1 ∧ (u.Y1 == v.Y1) = false))) := by
 by_cases e : u = v
 ·exact Or.inl e
 ·refine Or.inr ⟨e, ?_⟩
  by_cases c0 : u.X0 = v.X0
  ·by_cases c1 : u.Y0 = v.Y0
   ·by_cases c2 : u.X1 = v.X1
    ·by_cases c3 : u.Y1 = v.Y1
     ·exact absurd (Rc.eq c0 c1 c2 c3) e
     ·exact Or.inr (Or.inr (Or.inr ⟨c0, c1, c2, by simp [c3]⟩))
    ·exact Or.inr (Or.inr (Or.inl ⟨c0, c1, by simp [c2]⟩))
   ·exact Or.inr (Or.inl ⟨c0, by simp [c1]⟩)
  ·exact Or.inl (by simp [c0])
set_option maxHeartbeats 16000000 in
theorem vsame_any (A1 : Option Addr) (c1 : Nat) (A2 : Option Addr) (c2 : Nat) (l m : List Rc) (w : World) (h1 : RRow w A1 l) (h2 : RRow w A2 m) (hl : l.length ≤ 1099511627776) (hm : m.length ≤ 1099511627776) :
  Calls Tryz.prog 47 #[.slice A1 l.length c1, .slice A2 m.length c2] w (BlIs (decide (l = m)) w) := by
 have H1 := Lib.hid h1; clear h1
 have H2 := Lib.hid h2; clear h2
 by_cases hlen : l.length = m.length
 ·have hll : ((l.length : Int) != (m.length : Int)) = false := by simp [hlen]
  go_enter Tryz.func47, Tryz.ntmps47
  go_wp2
  go_loopw [5] (fun i wr => ∃ (k q : Nat), k ≤ l.length ∧ i = .int .i64 k ∧ wr = w.drewN q ∧ l.take k = m.take k) (fun i _ => l.length - (intOf i).toNat)
  case atStart => exact ⟨0, 0, Nat.zero_le _, rfl, rfl, rfl⟩
  case round =>
   obtain ⟨k, q, hk, rfl, rfl, ht⟩ := hrel
   by_cases hlt : k < l.length
   ·obtain ⟨b1, o1, rfl, hb1, hv1⟩ := H1.out (by omega)
    obtain ⟨b2, o2, rfl, hb2, hv2⟩ := H2.out (by omega)
    obtain ⟨x0, x1, x2, x3⟩ := hv1 k hlt
    obtain ⟨y0, y1, y2, y3⟩ := hv2 k (by omega)
    have hk2 : k < m.length := by omega
    have HT := Lib.hid (take_eq_step hlt hk2 ht); clear ht
    have HNE : Hid (l[k] ≠ m[k] → l ≠ m) := Lib.hid (fun h e => h (by subst e; rfl))
    have i0 : (0 : Int) ≤ (k : Int) := by omega
    have i1 : (k : Int) < (l.length : Int) := by omega
    have i2 : (k : Int) < (m.length : Int) := by omega
    clear hv1 hv2
    generalize l[k] = u at *
    generalize m[k] = v at *
    rcases rc_parts (u := u) (v := v) with rfl | ⟨e, hd⟩
    ·have HT2 := Lib.hid (HT.out rfl); clear HT HNE
     go_wp2_with fail
     go_quiet (fail)
     go_wp2
     go_roundw
     case rel => exact ⟨k + 1, _, by omega, by go_num, rfl, HT2.out⟩
     case measure => simp [intOf]; omega
    ·have HN := Lib.hid (HNE.out e); clear HT HNE e
     rcases hd with d0 | ⟨d0, d1⟩ | ⟨d0, d1, d2⟩ | ⟨d0, d1, d2, d3⟩
     all_goals
      go_wp2_with fail
      go_quiet (fail)
      go_wp2
      go_ret
      exact ⟨by rw [decide_eq_false HN.out]; rfl, by (repeat' first | exact Below.refl _ _ | assumption | (apply below_drewN) | (refine Below.setCell ?_ (by (try simp); (try omega)) _) | (refine Below.alloc ?_ (by (try simp); (try omega)) _) | (refine Below.trans ?_ (Below.mono (Hid.out (by assumption)) (by (try simp); (try omega)))))⟩
   ·obtain rfl : k = l.length := by omega
    have he : l = m := by
     rw [List.take_length] at ht
     rw [ht, hlen, List.take_length]
    go_wp2
    go_ret
    exact ⟨by rw [decide_eq_true he]; rfl, by (repeat' first | exact Below.refl _ _ | assumption | (apply below_drewN) | (refine Below.setCell ?_ (by (try simp); (try omega)) _) | (refine Below.alloc ?_ (by (try simp); (try omega)) _) | (refine Below.trans ?_ (Below.mono (Hid.out (by assumption)) (by (try simp); (try omega)))))⟩
 ·have hll : ((l.length : Int) != (m.length : Int)) = true := by simp; omega
  rw [decide_eq_false (fun e => hlen (by rw [e]))]
  go_enter Tryz.func47, Tryz.ntmps47
  go_wp2
  go_ret
  exact ⟨rfl, by (repeat' first | exact Below.refl _ _ | assumption | (apply below_drewN) | (refine Below.setCell ?_ (by (try simp); (try omega)) _) | (refine Below.alloc ?_ (by (try simp); (try omega)) _) | (refine Below.trans ?_ (Below.mono (Hid.out (by assumption)) (by (try simp); (try omega)))))⟩
end Go.Proofs.YtngddecpfhlilaaGreat
