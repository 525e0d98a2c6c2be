/-
  SolidSections: plain mathematics; the contract of rects.
-/
import Derived.Test.YteecfgdicckplaaAs
import Derived.BigQuiet
set_option linter.unusedVariables false
set_option maxRecDepth 100000
namespace Go.Proofs.Yteecfgdicckplaa
open Go.RowKit

set_option maxHeartbeats 16000000 in
theorem crects_any (A1 : Option Addr) (c1 : Nat) (A2 : Option Addr) (c2 : Nat) (l m : List Rc) (w : World) (h1 : RRow w A1 l) (h2 : RRow w A2 m) (hl : l.length ≤ 1099511627776) (hm : m.length ≤ 1099511627776) :
    Calls Try.prog 20 #[.slice A1 l.length c1, .slice A2 m.length c2] w (BlIs (decide (l = m)) w) := by
  have H1 := Lib.hid h1; clear h1
  have H2 := Lib.hid h2; clear h2
  by_cases hlen : l.length = m.length
  · have hll : ((l.length : Int) != (m.length : Int)) = false := by simp [hlen]
    go_enter Try.func20, Try.ntmps20
    go_wp2
    go_loopw [5] (fun i wr => ∃ (k q : Nat), k ≤ l.length ∧ i = .int .i64 k ∧ wr = w.drewN q ∧ l.take k = m.take k) (fun i _ => l.length - (intOf i).toNat)
    case atStart => exact ⟨0, 0, Nat.zero_le _, rfl, rfl, rfl⟩
    case round =>
      obtain ⟨k, q, hk, rfl, rfl, ht⟩ := hrel
      by_cases hlt : k < l.length
      · obtain ⟨b1, o1, rfl, hb1, hv1⟩ := H1.out (by omega)
        obtain ⟨b2, o2, rfl, hb2, hv2⟩ := H2.out (by omega)
        obtain ⟨x0, x1, x2, x3⟩ := hv1 k hlt
        obtain ⟨y0, y1, y2, y3⟩ := hv2 k (by omega)
        have hk2 : k < m.length := by omega
        have HT := Lib.hid (take_eq_step hlt hk2 ht); clear ht
        have HNE : Hid (l[k] ≠ m[k] → l ≠ m) := Lib.hid (fun h e => h (by subst e; rfl))
        have i0 : (0 : Int) ≤ (k : Int) := by omega
        have i1 : (k : Int) < (l.length : Int) := by omega
        have i2 : (k : Int) < (m.length : Int) := by omega
        clear hv1 hv2
        generalize l[k] = u at *
        generalize m[k] = v at *
        rcases rc_parts (u := u) (v := v) with rfl | ⟨e, hd⟩
        · have HT2 := Lib.hid (HT.out rfl); clear HT HNE
          go_wp2_with fail
          go_quiet (fail)
          go_wp2
          go_roundw
          case rel => exact ⟨k + 1, _, by omega, by go_num, rfl, HT2.out⟩
          case measure => simp [intOf]; omega
        · have HN := Lib.hid (HNE.out e); clear HT HNE e
          rcases hd with d0 | ⟨d0, d1⟩ | ⟨d0, d1, d2⟩ | ⟨d0, d1, d2, d3⟩
          all_goals
            go_wp2_with fail
            go_quiet (fail)
            go_wp2
            go_ret
            exact ⟨by rw [decide_eq_false HN.out]; rfl, by (repeat' first | exact Below.refl _ _ | assumption | (apply below_drewN) | (refine Below.setCell ?_ (by (try simp); (try omega)) _) | (refine Below.alloc ?_ (by (try simp); (try omega)) _) | (refine Below.trans ?_ (Below.mono (Hid.out (by assumption)) (by (try simp); (try omega)))))⟩
      · obtain rfl : k = l.length := by omega
        have he : l = m := by
          rw [List.take_length] at ht
          rw [ht, hlen, List.take_length]
        go_wp2
        go_ret
        exact ⟨by rw [decide_eq_true he]; rfl, by (repeat' first | exact Below.refl _ _ | assumption | (apply below_drewN) | (refine Below.setCell ?_ (by (try simp); (try omega)) _) | (refine Below.alloc ?_ (by (try simp); (try omega)) _) | (refine Below.trans ?_ (Below.mono (Hid.out (by assumption)) (by (try simp); (try omega)))))⟩
  · have hll : ((l.length : Int) != (m.length : Int)) = true := by simp; omega
    rw [decide_eq_false (fun e => hlen (by rw [e]))]
    go_enter Try.func20, Try.ntmps20
    go_wp2
    go_ret
    exact ⟨rfl, by (repeat' first | exact Below.refl _ _ | assumption | (apply below_drewN) | (refine Below.setCell ?_ (by (try simp); (try omega)) _) | (refine Below.alloc ?_ (by (try simp); (try omega)) _) | (refine Below.trans ?_ (Below.mono (Hid.out (by assumption)) (by (try simp); (try omega)))))⟩
theorem snoc_ind {α : Type} {P : List α → Prop} (h0 : P []) (h1 : ∀ T u, P T → P (T ++ [u])) : ∀ S, P S := by
  intro S
  rw [← S.reverse_reverse]
  generalize S.reverse = R
  induction R with
  | nil => exact h0
  | cons a R ih => rw [List.reverse_cons]; exact h1 _ _ ih
theorem before_last {u : Sl} : ∀ {S : List Sl}, SForm (S ++ [u]) → ∀ t ∈ S, t.z1 ≤ u.z0 := by
  intro S
  induction S with
  | nil => intro _ t ht; cases ht
  | cons s S ih =>
    intro h t ht
    rcases List.mem_cons.1 ht with rfl | ht
    · exact SForm.after (s := t) (S := S ++ [u]) h u (by simp)
    · exact ih (SForm.tail (s := s) (S := S ++ [u]) h) t ht
def TopIs (P : Int → Prop) (t : Int) : Prop := (t = 0 ∧ ∀ z, ¬ P z) ∨ (P (t - 1) ∧ ∀ z, t ≤ z → ¬ P z)
theorem TopIs.eq {P : Int → Prop} {t u : Int} (h : TopIs P t) (k : TopIs P u) : t = u := by
  rcases h with ⟨h1, h2⟩ | ⟨h1, h2⟩
  · rcases k with ⟨k1, k2⟩ | ⟨k1, k2⟩
    · omega
    · exact absurd k1 (h2 _)
  · rcases k with ⟨k1, k2⟩ | ⟨k1, k2⟩
    · exact absurd h1 (k2 _)
    · rcases Int.lt_trichotomy t u with c | c | c
      · exact absurd k1 (h2 _ (by omega))
      · exact c
      · exact absurd h1 (k2 _ (by omega))
theorem TopIs.of {P Q : Int → Prop} {t : Int} (h : TopIs P t) (e : ∀ z, P z ↔ Q z) : TopIs Q t := by
  rcases h with ⟨h1, h2⟩ | ⟨h1, h2⟩
  · exact Or.inl ⟨h1, fun z hz => h2 z ((e z).2 hz)⟩
  · exact Or.inr ⟨(e _).1 h1, fun z hz k => h2 z hz ((e z).2 k)⟩
theorem topS_is (x y : Int) : ∀ S : List Sl, SForm S → TopIs (fun z => HasL (secS S z) x y) (topS S x y) := by
  refine snoc_ind (fun _ => Or.inl ⟨rfl, fun z => no_has x y⟩) (fun T u ih h => ?_)
  obtain ⟨hT, hu, _⟩ := h.init
  have hb := before_last h
  have hh := hu.h
  unfold HOk at hh
  have ht : topS (T ++ [u]) x y = if hasD u.ar x y = true then u.z1 else topS T x y := by
    unfold topS; rw [List.foldl_append]; rfl
  have hs : ∀ z, secS (T ++ [u]) z = if u.z0 ≤ z ∧ z < u.z1 then u.ar else secS T z := fun z => sec_snoc hb z
  have hn : ∀ z, u.z0 ≤ z → secS T z = [] := fun z hz => sec_above (fun t ht => by have := hb t ht; omega)
  rw [ht]
  by_cases c : hasD u.ar x y = true
  · rw [if_pos c]
    refine Or.inr ⟨?_, fun z hz => ?_⟩
    · show HasL (secS (T ++ [u]) (u.z1 - 1)) x y
      rw [hs, if_pos (by omega)]
      exact (hasD_iff _ _ _).1 c
    · show ¬ HasL (secS (T ++ [u]) z) x y
      rw [hs, if_neg (by omega), hn z (by omega)]
      exact no_has x y
  · rw [if_neg c]
    refine (ih hT).of (fun z => ?_)
    show HasL (secS T z) x y ↔ HasL (secS (T ++ [u]) z) x y
    rw [hs]
    by_cases d : u.z0 ≤ z ∧ z < u.z1
    · rw [if_pos d, hn z d.1]
      exact ⟨fun k => absurd k (no_has x y), fun k => absurd ((hasD_iff _ _ _).2 k) c⟩
    · rw [if_neg d]
def InXY (b : Bx) (x y : Int) : Prop := b.r.X0 ≤ x ∧ x < b.r.X1 ∧ b.r.Y0 ≤ y ∧ y < b.r.Y1
instance (b : Bx) (x y : Int) : Decidable (InXY b x y) := by unfold InXY; exact inferInstance
/-- the greatest height of a box over a cell. -/
def topB (l : List Bx) (x y : Int) : Int := l.foldl (fun t b => if InXY b x y then max t b.z1 else t) 0
theorem topB_next (l : List Bx) (k : Nat) (h : k < l.length) (x y : Int) : topB (l.take (k + 1)) x y = if InXY l[k] x y then max (topB (l.take k) x y) l[k].z1 else topB (l.take k) x y := by
  unfold topB
  rw [List.take_succ_eq_append_getElem h, List.foldl_append]; rfl
theorem topB_is (x y : Int) : ∀ l : List Bx, (∀ b ∈ l, BOk b) → 0 ≤ topB l x y ∧ topB l x y ≤ 4096 ∧ TopIs (fun z => HasB l x y z) (topB l x y) := by
  refine snoc_ind (fun _ => ⟨Int.le_refl _, (show (0 : Int) ≤ 4096 by decide), Or.inl ⟨rfl, fun z => ?_⟩⟩) (fun T u ih h => ?_)
  · rintro ⟨b, hb, _⟩; cases hb
  · obtain ⟨h0, h4, hi⟩ := ih (fun b hb => h b (List.mem_append_left _ hb))
    have hu := h u (by simp)
    have hh := hu.2
    unfold HOk at hh
    have ht : topB (T ++ [u]) x y = if InXY u x y then max (topB T x y) u.z1 else topB T x y := by
      unfold topB; rw [List.foldl_append]; rfl
    have hs : ∀ z, HasB (T ++ [u]) x y z ↔ HasB T x y z ∨ (InXY u x y ∧ u.z0 ≤ z ∧ z < u.z1) := fun z => by
      unfold HasB InXY
      constructor
      · rintro ⟨b, hb, h1, h2⟩
        rcases List.mem_append.1 hb with hb | hb
        · exact Or.inl ⟨b, hb, h1, h2⟩
        · rw [List.mem_singleton] at hb; subst hb
          exact Or.inr ⟨h1.2, h2⟩
      · rintro (⟨b, hb, h1, h2⟩ | ⟨h1, h2⟩)
        · exact ⟨b, List.mem_append_left _ hb, h1, h2⟩
        · exact ⟨u, by simp, ⟨hu.1, h1⟩, h2⟩
    rw [ht]
    by_cases c : InXY u x y
    · rw [if_pos c]
      refine ⟨by omega, by omega, Or.inr ⟨?_, fun z hz => ?_⟩⟩
      · show HasB (T ++ [u]) x y (max (topB T x y) u.z1 - 1)
        rw [hs]
        by_cases d : topB T x y ≤ u.z1
        · exact Or.inr ⟨c, by omega, by omega⟩
        · rcases hi with ⟨e1, _⟩ | ⟨e1, _⟩
          · omega
          · refine Or.inl ?_
            rw [show max (topB T x y) u.z1 = topB T x y by omega]
            exact e1
      · show ¬ HasB (T ++ [u]) x y z
        rw [hs]
        rintro (k | ⟨_, _, k⟩)
        · rcases hi with ⟨_, e2⟩ | ⟨_, e2⟩
          · exact e2 z k
          · exact e2 z (by omega) k
        · omega
    · rw [if_neg c]
      refine ⟨h0, h4, hi.of (fun z => ?_)⟩
      show HasB T x y z ↔ HasB (T ++ [u]) x y z
      rw [hs]
      exact ⟨Or.inl, fun k => k.elim id (fun k => absurd k.1 c)⟩
theorem top_sol {l : List Bx} (h : ∀ b ∈ l, BOk b) (x y : Int) : topS (solB l) x y = topB l x y :=
  ((topS_is x y (solB l) (solB_is h).1).of (fun z => (cs_b h).cubes x y z)).eq (topB_is x y l h).2.2
/-! ### neighbouring slabs differ -/
theorem sec_after : ∀ {S : List Sl}, SForm S → ∀ s ∈ S, secS S s.z1 ≠ s.ar := by
  intro S
  induction S with
  | nil => intro _ s hs; cases hs
  | cons s0 S ih =>
    intro h s hs
    have h0 := h.head
    have hz0 := h0.h
    unfold HOk at hz0
    rcases List.mem_cons.1 hs with rfl | hs
    · rw [sec_rest (Int.le_refl _)]
      cases S with
      | nil => exact fun e => h0.ne e.symm
      | cons u S =>
        by_cases c : s.z1 = u.z0
        · rw [sec_cons, if_pos (by have := (h.tail.head).h; unfold HOk at this; omega)]
          exact fun e => (h.2.1.2 c) e.symm
        · rw [sec_below (fun v hv => by
            have ha := h.after u List.mem_cons_self
            rcases List.mem_cons.1 hv with rfl | hv
            · omega
            · have hb := h.tail.after v hv
              have hz := (h.tail.head).h
              unfold HOk at hz
              omega)]
          exact fun e => h0.ne e.symm
    · have ha := h.after s hs
      have hz := (h.each s (List.mem_cons_of_mem _ hs)).h
      unfold HOk at hz
      rw [sec_rest (by omega)]
      exact ih h.tail s hs
theorem sec_before : ∀ {S : List Sl}, SForm S → ∀ s ∈ S, secS S (s.z0 - 1) ≠ s.ar := by
  intro S
  induction S with
  | nil => intro _ s hs; cases hs
  | cons s0 S ih =>
    intro h s hs
    have h0 := h.head
    have hz0 := h0.h
    unfold HOk at hz0
    rcases List.mem_cons.1 hs with rfl | hs
    · rw [sec_below (fun v hv => by
        rcases List.mem_cons.1 hv with rfl | hv
        · omega
        · have hb := h.after v hv
          omega)]
      exact fun e => h0.ne e.symm
    · cases S with
      | nil => cases hs
      | cons u S =>
        have hu := h.tail.head
        have hzu := hu.h
        unfold HOk at hzu
        have ha := h.after u List.mem_cons_self
        rcases List.mem_cons.1 hs with rfl | hs
        · by_cases c : s0.z1 = s.z0
          · rw [sec_cons, if_pos (by omega)]
            exact fun e => (h.2.1.2 c) e
          · rw [sec_rest (by omega), sec_below (fun v hv => by
              rcases List.mem_cons.1 hv with rfl | hv
              · omega
              · have hb := h.tail.after v hv
                omega)]
            exact fun e => hu.ne e.symm
        · have hb := h.tail.after s hs
          rw [sec_rest (by omega)]
          exact ih h.tail s (List.mem_cons_of_mem _ hs)
end Go.Proofs.Yteecfgdicckplaa
