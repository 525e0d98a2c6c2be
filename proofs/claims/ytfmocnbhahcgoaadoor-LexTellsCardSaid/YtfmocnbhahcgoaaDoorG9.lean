/-
  Layer 14: the contract of the reference's Like.
-/
import Derived.Test.YtfmocnbhahcgoaaDoorG8
set_option linter.unusedVariables false
set_option maxRecDepth 100000
namespace Go.Proofs.YtfmocnbhahcgoaaDoor
open Go.RowKit

/-- a token apart from its place. -/
def core (x : Tk) : Int × List UInt8 × Int := (x.k, x.t, x.n)
theorem core_parts {u v : Tk} : (u.k = v.k ∧ u.t = v.t ∧ u.n = v.n) ∨ (core u ≠ core v ∧ ((u.k == v.k) = false ∨ ((u.k == v.k) = true ∧ (decide (u.t = v.t)) = false) ∨ ((u.k == v.k) = true ∧ (decide (u.t = v.t)) = true ∧ (u.n == v.n) = false))) := by
  unfold core
  by_cases c0 : u.k = v.k
  · by_cases c1 : u.t = v.t
    · by_cases c2 : u.n = v.n
      · exact .inl ⟨c0, c1, c2⟩
      · exact .inr ⟨by simp [c2], .inr (.inr ⟨by simp [c0], by simp [c1], by simp [c2]⟩)⟩
    · exact .inr ⟨by simp [c1], .inr (.inl ⟨by simp [c0], by simp [c1]⟩)⟩
  · exact .inr ⟨by simp [c0], .inl (by simp [c0])⟩
def likeB (l m : List Tk) : Bool := decide (l.map core = m.map core)
theorem like_step {l m : List Tk} {k : Nat} (h1 : k < l.length) (h2 : k < m.length) (h : (l.take k).map core = (m.take k).map core) (e : core l[k] = core m[k]) : (l.take (k + 1)).map core = (m.take (k + 1)).map core := by
  rw [List.take_succ_eq_append_getElem h1, List.take_succ_eq_append_getElem h2, List.map_append, List.map_append, h, List.map_cons, List.map_cons, e]
set_option maxHeartbeats 16000000 in
theorem like_any (A1 : Option Addr) (c1 : Nat) (A2 : Option Addr) (c2 : Nat) (l m : List Tk) (w : World) (h1 : TkRow w A1 l) (h2 : TkRow w A2 m) (hl : l.length ≤ 1099511627776) (hm : m.length ≤ 1099511627776) :
    Calls Tryd.prog 20 #[.slice A1 l.length c1, .slice A2 m.length c2] w (BlIs (likeB l m) w) := by
  have H1 := Lib.hid h1; clear h1
  have H2 := Lib.hid h2; clear h2
  by_cases hlen : l.length = m.length
  · have hll : ((l.length : Int) != (m.length : Int)) = false := by simp [hlen]
    go_enter Tryd.func20, Tryd.ntmps20
    go_wp2
    go_loopw [5] (fun i wr => ∃ (k q : Nat), k ≤ l.length ∧ i = .int .i64 k ∧ wr = w.drewN q ∧ (l.take k).map core = (m.take k).map core) (fun i _ => l.length - (intOf i).toNat)
    case atStart => exact ⟨0, 0, Nat.zero_le _, rfl, rfl, rfl⟩
    case round =>
      obtain ⟨k, q, hk, rfl, rfl, ht⟩ := hrel
      by_cases hlt : k < l.length
      · obtain ⟨b1, o1, rfl, hb1, hv1⟩ := H1.out.out (by omega)
        obtain ⟨b2, o2, rfl, hb2, hv2⟩ := H2.out.out (by omega)
        obtain ⟨x0, x1, x2, x3⟩ := hv1 k hlt
        obtain ⟨y0, y1, y2, y3⟩ := hv2 k (by omega)
        have hk2 : k < m.length := by omega
        have HT := Lib.hid (like_step hlt hk2 ht); clear ht
        have HNE : Hid (core l[k] ≠ core m[k] → likeB l m = false) := Lib.hid (fun h => by
          unfold likeB
          apply decide_eq_false
          intro e
          apply h
          have h3 : (l.map core)[k]'(by simpa using hlt) = (m.map core)[k]'(by simpa using hk2) := by simp only [e]
          simpa using h3)
        have i0 : (0 : Int) ≤ (k : Int) := by omega
        have i1 : (k : Int) < (l.length : Int) := by omega
        have i2 : (k : Int) < (m.length : Int) := by omega
        clear hv1 hv2
        generalize l[k] = u at *
        generalize m[k] = v at *
        clear x3 y3
        rcases core_parts (u := u) (v := v) with ⟨e0, e1, e2⟩ | ⟨e, hd⟩
        · have HT2 := Lib.hid (HT.out (by unfold core; rw [e0, e1, e2])); clear HT HNE
          obtain ⟨uk, ut, un, up⟩ := u
          obtain ⟨vk, vt, vn, vp⟩ := v
          simp only at e0 e1 e2
          subst e0; subst e1; subst e2
          simp only at x0 x1 x2 y0 y1 y2
          have hk0 : (uk == uk) = true := by simp
          have hn0 : (un == un) = true := by simp
          generalize (⟨ut.toArray⟩ : ByteArray) = us at *
          have hs0 : (us.toList == us.toList) = true := by simp
          go_wp2_with fail
          go_quiet (fail)
          go_wp2
          go_roundw
          case rel => exact ⟨k + 1, _, by omega, by go_num, rfl, HT2.out⟩
          case measure => simp [intOf]; omega
        · have HN := Lib.hid (HNE.out e); clear HT HNE e
          have hse := mk_eq u.t v.t
          obtain ⟨uk, ut, un, up⟩ := u
          obtain ⟨vk, vt, vn, vp⟩ := v
          simp only at x0 x1 x2 y0 y1 y2 hd hse
          have hkk : (uk != vk) = !(uk == vk) := rfl
          have hnn : (un != vn) = !(un == vn) := rfl
          have hss : ((⟨ut.toArray⟩ : ByteArray).toList != (⟨vt.toArray⟩ : ByteArray).toList) = !((⟨ut.toArray⟩ : ByteArray).toList == (⟨vt.toArray⟩ : ByteArray).toList) := rfl
          rw [hse] at hss
          rcases hd with d0 | ⟨d0, d1⟩ | ⟨d0, d1, d2⟩
          all_goals
            try rw [d0] at hkk
            try rw [d1] at hse hss
            try rw [d2] at hnn
            simp only [Bool.not_true, Bool.not_false] at hkk hss
            try simp only [Bool.not_false] at hnn
            generalize (⟨ut.toArray⟩ : ByteArray) = us at *
            generalize (⟨vt.toArray⟩ : ByteArray) = vs at *
            go_wp2_with fail
            go_quiet (fail)
            go_wp2
            go_ret
            exact ⟨by rw [HN.out]; rfl, by (repeat' first | exact Below.refl _ _ | assumption | (apply below_drewN) | (refine Below.setCell ?_ (by (try simp); (try omega)) _) | (refine Below.alloc ?_ (by (try simp); (try omega)) _) | (refine Below.trans ?_ (Below.mono (Hid.out (by assumption)) (by (try simp); (try omega)))))⟩
      · obtain rfl : k = l.length := by omega
        have he : likeB l m = true := by
          unfold likeB
          apply decide_eq_true
          rw [List.take_length, hlen, List.take_length] at ht
          exact ht
        go_wp2
        go_ret
        exact ⟨by rw [he]; rfl, by (repeat' first | exact Below.refl _ _ | assumption | (apply below_drewN) | (refine Below.setCell ?_ (by (try simp); (try omega)) _) | (refine Below.alloc ?_ (by (try simp); (try omega)) _) | (refine Below.trans ?_ (Below.mono (Hid.out (by assumption)) (by (try simp); (try omega)))))⟩
  · have hll : ((l.length : Int) != (m.length : Int)) = true := by simp; omega
    have he : likeB l m = false := by
      unfold likeB
      apply decide_eq_false
      intro e
      have := congrArg List.length e
      simp at this
      exact hlen this
    rw [he]
    go_enter Tryd.func20, Tryd.ntmps20
    go_wp2
    go_ret
    exact ⟨rfl, by (repeat' first | exact Below.refl _ _ | assumption | (apply below_drewN) | (refine Below.setCell ?_ (by (try simp); (try omega)) _) | (refine Below.alloc ?_ (by (try simp); (try omega)) _) | (refine Below.trans ?_ (Below.mono (Hid.out (by assumption)) (by (try simp); (try omega)))))⟩
end Go.Proofs.YtfmocnbhahcgoaaDoor
