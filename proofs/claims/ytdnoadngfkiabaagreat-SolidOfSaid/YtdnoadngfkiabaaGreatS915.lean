/-
  Contracts of the program's layer 9, 1: isRange, continues, bases, area.
-/
import Derived.Test.YtdnoadngfkiabaaGreatS914
set_option linter.unusedVariables false
set_option maxRecDepth 100000
namespace Go.Proofs.YtdnoadngfkiabaaGreat
open Go.RowKit

theorem bisr_any (a b : Int) (w : World) : Calls Tryz.prog 34 #[.int .i64 a, .int .i64 b] w (BlIs (decide (HOk a b)) w) := by
  by_cases c0 : 0 ≤ a
  · by_cases c1 : a < b
    · by_cases c2 : b ≤ 4096
      · rw [show decide (HOk a b) = true from decide_eq_true ⟨c0, c1, c2⟩]
        go_enter Tryz.func34, Tryz.ntmps34
        go_wp2
        go_ret
        exact ⟨rfl, by (repeat' first | exact Below.refl _ _ | assumption | (apply below_drewN) | (refine Below.setCell ?_ (by (try simp); (try omega)) _) | (refine Below.alloc ?_ (by (try simp); (try omega)) _) | (refine Below.trans ?_ (Below.mono (Hid.out (by assumption)) (by (try simp); (try omega)))))⟩
      · rw [show decide (HOk a b) = false from decide_eq_false (fun h => c2 h.2.2)]
        go_enter Tryz.func34, Tryz.ntmps34
        go_wp2
        go_ret
        exact ⟨by first | rfl | (apply ret_bl; rw [decide_eq_false_iff_not]; omega), by (repeat' first | exact Below.refl _ _ | assumption | (apply below_drewN) | (refine Below.setCell ?_ (by (try simp); (try omega)) _) | (refine Below.alloc ?_ (by (try simp); (try omega)) _) | (refine Below.trans ?_ (Below.mono (Hid.out (by assumption)) (by (try simp); (try omega)))))⟩
    · rw [show decide (HOk a b) = false from decide_eq_false (fun h => c1 h.2.1)]
      go_enter Tryz.func34, Tryz.ntmps34
      go_wp2
      go_ret
      exact ⟨by first | rfl | (apply ret_bl; rw [decide_eq_false_iff_not]; omega), by (repeat' first | exact Below.refl _ _ | assumption | (apply below_drewN) | (refine Below.setCell ?_ (by (try simp); (try omega)) _) | (refine Below.alloc ?_ (by (try simp); (try omega)) _) | (refine Below.trans ?_ (Below.mono (Hid.out (by assumption)) (by (try simp); (try omega)))))⟩
  · rw [show decide (HOk a b) = false from decide_eq_false (fun h => c0 h.1)]
    go_enter Tryz.func34, Tryz.ntmps34
    go_wp2
    go_ret
    exact ⟨by first | rfl | (apply ret_bl; rw [decide_eq_false_iff_not]; omega), by (repeat' first | exact Below.refl _ _ | assumption | (apply below_drewN) | (refine Below.setCell ?_ (by (try simp); (try omega)) _) | (refine Below.alloc ?_ (by (try simp); (try omega)) _) | (refine Below.trans ?_ (Below.mono (Hid.out (by assumption)) (by (try simp); (try omega)))))⟩
set_option maxHeartbeats 4000000 in
theorem bcont_any (a0 a1 b0 b1 : Int) (A1 : Option Addr) (c1 : Nat) (A2 : Option Addr) (c2 : Nat) (l m : List Rc) (w : World) (h1 : RRow w A1 l) (h2 : RRow w A2 m) (hl : l.length ≤ 1099511627776) (hm : m.length ≤ 1099511627776) :
    Calls Tryz.prog 56 #[.agg #[.int .i64 a0, .int .i64 a1, .slice A1 l.length c1], .agg #[.int .i64 b0, .int .i64 b1, .slice A2 m.length c2]] w (BlIs (decide (a1 = b0 ∧ l = m)) w) := by
  by_cases e : a1 = b0
  · have HS := Lib.hid (fun w' (hb : Below w.heap.size w w') => gsame_any A1 c1 A2 c2 l m w' (h1.below hb) (h2.below hb) hl hm)
    have E : Hid (decide (a1 = b0 ∧ l = m) = decide (l = m)) := Lib.hid (by simp [e])
    have d : (a1 == b0) = true := by simp [e]
    clear h1 h2 e
    rw [E.out]
    generalize decide (l = m) = r at *
    go_enter Tryz.func56, Tryz.ntmps56
    go_wp2_with fail
    refine (HS.out _ (by (repeat' first | exact Below.refl _ _ | assumption | (apply below_drewN) | (refine Below.setCell ?_ (by (try simp); (try omega)) _) | (refine Below.alloc ?_ (by (try simp); (try omega)) _) | (refine Below.trans ?_ (Below.mono (Hid.out (by assumption)) (by (try simp); (try omega))))))).mono ?_
    rintro e1 w1 ⟨rfl, hb1⟩
    have HB : Hid (Below w.heap.size w w1) := Lib.hid ((show Below w.heap.size w _ from by (repeat' first | exact Below.refl _ _ | assumption | (apply below_drewN) | (refine Below.setCell ?_ (by (try simp); (try omega)) _) | (refine Below.alloc ?_ (by (try simp); (try omega)) _) | (refine Below.trans ?_ (Below.mono (Hid.out (by assumption)) (by (try simp); (try omega)))))).trans (hb1.mono (by simp; try omega)))
    clear hb1 HS
    go_wp2_with fail
    go_ret
    exact ⟨rfl, HB.out⟩
  · have d : (a1 == b0) = false := by simp [e]
    rw [show decide (a1 = b0 ∧ l = m) = false from decide_eq_false (fun h => e h.1)]
    clear h1 h2 e
    go_enter Tryz.func56, Tryz.ntmps56
    go_wp2_with fail
    go_ret
    exact ⟨rfl, by (repeat' first | exact Below.refl _ _ | assumption | (apply below_drewN) | (refine Below.setCell ?_ (by (try simp); (try omega)) _) | (refine Below.alloc ?_ (by (try simp); (try omega)) _) | (refine Below.trans ?_ (Below.mono (Hid.out (by assumption)) (by (try simp); (try omega)))))⟩
/-- a list of boxes that can be read. -/
def BxRow (w : World) (A : Option Addr) (l : List Bx) : Prop := 0 < l.length → ∃ b off, A = some ⟨b, off, none⟩ ∧ b < w.heap.size ∧ ∀ j (h : j < l.length), w.cell? ⟨b, off + j * 6, none⟩ = some (.int .i64 l[j].r.X0) ∧ w.cell? ⟨b, off + j * 6 + 1, none⟩ = some (.int .i64 l[j].r.Y0) ∧ w.cell? ⟨b, off + j * 6 + 2, none⟩ = some (.int .i64 l[j].r.X1) ∧ w.cell? ⟨b, off + j * 6 + 3, none⟩ = some (.int .i64 l[j].r.Y1) ∧ w.cell? ⟨b, off + j * 6 + 4, none⟩ = some (.int .i64 l[j].z0) ∧ w.cell? ⟨b, off + j * 6 + 5, none⟩ = some (.int .i64 l[j].z1)
theorem BxRow.below {w w' : World} {A : Option Addr} {l : List Bx} (h : BxRow w A l) (hb : Below w.heap.size w w') : BxRow w' A l := fun h0 => by
  obtain ⟨b, off, e, hl, hc⟩ := h h0
  refine ⟨b, off, e, Nat.lt_of_lt_of_le hl hb.size, fun j hj => ?_⟩
  obtain ⟨c0, c1, c2, c3, c4, c5⟩ := hc j hj
  have wc := fun o => hb.cell (p := ⟨b, o, none⟩) hl
  exact ⟨(wc _).trans c0, (wc _).trans c1, (wc _).trans c2, (wc _).trans c3, (wc _).trans c4, (wc _).trans c5⟩
theorem BxRow.nil (w : World) (A : Option Addr) : BxRow w A [] := fun h => absurd h (by simp)
theorem bases_next (l : List Bx) (z : Int) (k : Nat) (h : k < l.length) : basesB (l.take (k + 1)) z = basesB (l.take k) z ++ (if l[k].z0 ≤ z ∧ z < l[k].z1 then [l[k].r] else []) := by
  rw [List.take_succ_eq_append_getElem h, bases_append]
  congr 1
/-- own rectangles behind a world. -/
def RcRes (F : List Rc) (w : World) (e : Ending) (w' : World) : Prop := ∃ v, e = .returned v ∧ w'.ownsRow w.heap.size 33 4 v F.length (rcells F) ∧ Below w.heap.size w w'
structure GW9 (v : Value) (F : List Rc) (w wr : World) : Prop where
  own : wr.ownsRow w.heap.size 33 4 v F.length (rcells F)
  bel : Below w.heap.size w wr
set_option maxHeartbeats 16000000 in
theorem bbases_any (A : Option Addr) (cap : Nat) (l : List Bx) (z : Int) (w : World) (h1 : BxRow w A l) (hl : l.length ≤ 1000000) :
    Calls Tryz.prog 38 #[.slice A l.length cap, .int .i64 z] w (RcRes (basesB l z) w) := by
  have H1 := Lib.hid h1; clear h1
  have K0 : Hid (GW9 (.slice none 0 0) (basesB (l.take 0) z) w w) := Lib.hid ⟨World.ownsRow_nil _ _ _ _, Below.refl _ _⟩
  obtain ⟨i0, hi9, hz0, hz1, hz2⟩ := info_parts infoRect
  go_enter Tryz.func38, Tryz.ntmps38
  go_wp2
  go_loopw [5, 10] (fun v i wr => ∃ (k : Nat) (v0 : Value), k ≤ l.length ∧ i = .int .i64 k ∧ v0 = v ∧ Hid (GW9 v0 (basesB (l.take k) z) w wr)) (fun _ i _ => l.length - (intOf i).toNat)
  case atStart => exact ⟨0, _, Nat.zero_le _, rfl, rfl, K0⟩
  case round =>
    clear K0
    obtain ⟨k, v, hk, rfl, rfl, HK⟩ := hrel
    by_cases hlt : k < l.length
    · obtain ⟨b1, o1, rfl, hb1, hv1⟩ := H1.out (by omega)
      obtain ⟨x0, x1, x2, x3, x4, x5⟩ := hv1 k hlt
      have wc := fun o => HK.out.bel.cell (p := ⟨b1, o, none⟩) hb1
      have x0 := (wc _).trans x0; have x1 := (wc _).trans x1; have x2 := (wc _).trans x2; have x3 := (wc _).trans x3; have x4 := (wc _).trans x4; have x5 := (wc _).trans x5
      have hbs := HK.out.bel.size
      have hbw : b1 < wr.heap.size := Nat.lt_of_lt_of_le hb1 hbs
      have n0 : (0 : Int) ≤ (k : Int) := by omega
      have n1 : (k : Int) < (l.length : Int) := by omega
      have HN := Lib.hid (bases_next l z k hlt)
      have hfl := bases_len (l.take k) z
      rw [List.length_take] at hfl
      have hfl : (basesB (l.take k) z).length ≤ 1000000 := by omega
      clear hv1 wc
      obtain ⟨u, hu⟩ : ∃ u, u = l[k] := ⟨_, rfl⟩
      rw [← hu] at x0 x1 x2 x3 x4 x5 HN
      clear hu
      generalize basesB (l.take k) z = F at *
      by_cases ca : u.z0 ≤ z
      · by_cases cb : z < u.z1
        · have HN2 : Hid (basesB (l.take (k + 1)) z = F ++ [u.r]) := Lib.hid (by rw [HN.out, if_pos ⟨ca, cb⟩])
          have HO := Lib.hid HK.out.own
          clear HN
          go_wp2_with (at_builtin; refine wpList_append_own _ rfl _ _ 37 rfl w.heap.size 33 i0 (.agg #[.int .i64 0, .int .i64 0, .int .i64 0, .int .i64 0]) 4 32 Tryz.underlying37 hi9 hz0 hz1 hz2 rfl (by decide) _ _ _ rfl ((HO.out.alloc _).alloc _) ⟨wr.heap.size + 1, 0, none⟩ 1 1 [.int .i64 u.r.X0, .int .i64 u.r.Y0, .int .i64 u.r.X1, .int .i64 u.r.Y1] rfl rfl ?c1 ?c2 ?c3 ?c4 ?c5 ?_)
          case c1 =>
            intro t u ht
            match t, ht with
            | 0, ht => simp at ht; subst ht; simp [Addr.add]
            | 1, ht => simp at ht; subst ht; simp [Addr.add]
            | 2, ht => simp at ht; subst ht; simp [Addr.add]
            | 3, ht => simp at ht; subst ht; simp [Addr.add]
          case c2 => intro u hu; simp only [List.mem_cons, List.not_mem_nil, or_false] at hu; rcases hu with rfl | rfl | rfl | rfl <;> rfl
          case c3 => unfold maxLen; omega
          case c4 => omega
          case c5 => simp; omega
          intro v' w4 hown' hgr _
          have HX : Hid (GW9 v' (basesB (l.take (k + 1)) z) w w4) := Lib.hid ⟨by rw [HN2.out, rcells_append, List.length_append]; exact hown', Below.grown ((HK.out.bel.alloc hbs _).alloc (by simp; omega) _) hgr (by simp; omega) (fun k hk => (HO.out.lt k hk).1)⟩
          clear hown' hgr HO HK HN2 x0 x1 x2 x3 x4 x5
          go_wp2_with fail
          go_roundw
          case rel => exact ⟨k + 1, _, by omega, by go_num, rfl, HX⟩
          case measure => simp [intOf]; omega
        · have HX : Hid (∀ o, GW9 v (basesB (l.take (k + 1)) z) w (wr.alloc o)) := Lib.hid (fun o => ⟨by rw [HN.out, if_neg (fun h => cb h.2), List.append_nil]; exact HK.out.own.alloc _, HK.out.bel.alloc hbs _⟩)
          clear HN HK
          go_wp2_with fail
          go_roundw
          case rel => exact ⟨k + 1, _, by omega, by go_num, rfl, Lib.hid (HX.out _)⟩
          case measure => simp [intOf]; omega
      · have HX : Hid (∀ o, GW9 v (basesB (l.take (k + 1)) z) w (wr.alloc o)) := Lib.hid (fun o => ⟨by rw [HN.out, if_neg (fun h => ca h.1), List.append_nil]; exact HK.out.own.alloc _, HK.out.bel.alloc hbs _⟩)
        clear HN HK
        go_wp2_with fail
        go_roundw
        case rel => exact ⟨k + 1, _, by omega, by go_num, rfl, Lib.hid (HX.out _)⟩
        case measure => simp [intOf]; omega
    · obtain rfl : k = l.length := by omega
      have HX : Hid (GW9 v (basesB l z) w wr) := Lib.hid (by have := HK.out; rw [List.take_length] at this; exact this)
      clear HK
      go_wp2_with fail
      go_ret
      exact ⟨_, rfl, HX.out.own, HX.out.bel⟩
/-- the area at a height, in the memory of the solid. -/
def ArIs (l : List Rc) (w : World) (e : Ending) (w' : World) : Prop := ∃ A c, e = .returned (.slice A l.length c) ∧ RIn w' A c l ∧ Below w.heap.size w w'
/-- the same, with what tells the nil slice. -/
def ArZ (S : List Sl) (l : List Rc) (w : World) (e : Ending) (w' : World) : Prop := ∃ A c, e = .returned (.slice A l.length c) ∧ RIn w' A c l ∧ Below w.heap.size w w' ∧ ((∀ s ∈ S, s.ar ≠ []) → l ≠ [] ∨ (A = none ∧ c = 0))
set_option maxHeartbeats 16000000 in
theorem barea_z (A : Option Addr) (cap : Nat) (S : List Sl) (z : Int) (w : World) (h : SIn w A cap S) :
    Calls Tryz.prog 54 #[.slice A S.length cap, .int .i64 z] w (ArZ S (secS S z) w) := by
  have hl := h.len
  have H1 := Lib.hid h.row; clear h
  have HB0 := Lib.hid (Below.refl w.heap.size w)
  go_enter Tryz.func54, Tryz.ntmps54
  go_wp2
  go_loopw [9] (fun i wr => ∃ (k : Nat), k ≤ S.length ∧ i = .int .i64 k ∧ Hid (Below w.heap.size w wr) ∧ Hid (secS S z = secS (S.drop k) z)) (fun i _ => S.length - (intOf i).toNat)
  case atStart => exact ⟨0, Nat.zero_le _, rfl, HB0, Lib.hid rfl⟩
  case round =>
    clear HB0
    obtain ⟨k, hk, rfl, HB, HS⟩ := hrel
    by_cases hlt : k < S.length
    · obtain ⟨b1, o1, rfl, hb1, hv1⟩ := H1.out (by omega)
      obtain ⟨x0, x1, Aj, cj, x2, hr⟩ := hv1 k hlt
      have wc := fun o => HB.out.cell (p := ⟨b1, o, none⟩) hb1
      have x0 := (wc _).trans x0; have x1 := (wc _).trans x1; have x2 := (wc _).trans x2
      have hbs := HB.out.size
      have hbw : b1 < wr.heap.size := Nat.lt_of_lt_of_le hb1 hbs
      have HR := Lib.hid (hr.below (HB.out.alloc hbs (.cells #[.int .i64 S[k].z0, .int .i64 S[k].z1, .slice Aj S[k].ar.length cj] 40)))
      have n0 : (0 : Int) ≤ (k : Int) := by omega
      have n1 : (k : Int) < (S.length : Int) := by omega
      have HD : Hid (secS (S.drop k) z = if S[k].z0 ≤ z ∧ z < S[k].z1 then S[k].ar else secS (S.drop (k + 1)) z) := Lib.hid (by rw [List.drop_eq_getElem_cons hlt, sec_cons])
      have HBA := Lib.hid (HB.out.alloc hbs (.cells #[.int .i64 S[k].z0, .int .i64 S[k].z1, .slice Aj S[k].ar.length cj] 40))
      have HNE : Hid ((∀ s ∈ S, s.ar ≠ []) → S[k].ar ≠ []) := Lib.hid (fun h => h _ (List.getElem_mem hlt))
      clear hv1 wc hr HB
      generalize S[k] = u at *
      by_cases ca : u.z0 ≤ z
      · by_cases cb : z < u.z1
        · have HE : Hid (secS S z = u.ar) := Lib.hid (by rw [HS.out, HD.out, if_pos ⟨ca, cb⟩])
          clear HD HS
          go_wp2_with fail
          go_ret
          rw [HE.out]
          exact ⟨_, _, rfl, HR.out, HBA.out, fun h => Or.inl (HNE.out h)⟩
        · have HE : Hid (secS S z = secS (S.drop (k + 1)) z) := Lib.hid (by rw [HS.out, HD.out, if_neg (fun h => cb h.2)])
          clear HD HS HR
          go_wp2_with fail
          go_roundw
          case rel => exact ⟨k + 1, by omega, by go_num, HBA, HE⟩
          case measure => simp [intOf]; omega
      · have HE : Hid (secS S z = secS (S.drop (k + 1)) z) := Lib.hid (by rw [HS.out, HD.out, if_neg (fun h => ca h.1)])
        clear HD HS HR
        go_wp2_with fail
        go_roundw
        case rel => exact ⟨k + 1, by omega, by go_num, HBA, HE⟩
        case measure => simp [intOf]; omega
    · obtain rfl : k = S.length := by omega
      have HE : Hid (secS S z = []) := Lib.hid (by rw [HS.out, List.drop_length]; rfl)
      clear HS
      go_wp2_with fail
      go_ret
      rw [HE.out]
      exact ⟨none, 0, rfl, ⟨RRow.nil _ _, by simp, by simp, by omega⟩, HB.out, fun _ => Or.inr ⟨rfl, rfl⟩⟩
theorem barea_any (A : Option Addr) (cap : Nat) (S : List Sl) (z : Int) (w : World) (h : SIn w A cap S) :
    Calls Tryz.prog 54 #[.slice A S.length cap, .int .i64 z] w (ArIs (secS S z) w) :=
  (barea_z A cap S z w h).mono fun e w' ⟨A', c', h1, h2, h3, _⟩ => ⟨A', c', h1, h2, h3⟩
end Go.Proofs.YtdnoadngfkiabaaGreat
