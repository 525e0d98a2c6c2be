/-
  RegionShifts: the walk for every input.
-/
import Derived.Test.YtoalfmdjdplbkaaKl
set_option linter.unusedVariables false
set_option maxRecDepth 100000
namespace Go.Proofs.Ytoalfmdjdplbkaa
open Go.RowKit

theorem stays_mv {l : List Rc} {b : Rc} {dx dy : Int} (hok : ∀ r ∈ l, ROk r) (hb : boundsR l = (b, true)) : (staysB b.X0 b.X1 dx = true ∧ staysB b.Y0 b.Y1 dy = true) ↔ MvOk dx dy l := by
  obtain ⟨k1, _⟩ := bounds_of l
  rw [hb] at k1
  obtain ⟨⟨⟨z1, z2, z3⟩, z4, z5, z6⟩, hin, ⟨p0, hp0, o0, e0⟩, ⟨p1, hp1, o1, e1⟩, ⟨p2, hp2, o2, e2⟩, ⟨p3, hp3, o3, e3⟩⟩ := k1 rfl
  rw [staysB_iff, staysB_iff]
  constructor
  · rintro ⟨h1, h2⟩ r hm
    obtain ⟨⟨⟨a1, a2, a3⟩, a4, a5, a6⟩, _, c1, c2, c3, c4⟩ := hin r hm (hok r hm)
    refine ⟨⟨?_, ?_, ?_⟩, ?_, ?_, ?_⟩ <;> simp only [mvR] at * <;> omega
  · intro h
    obtain ⟨⟨a1, a2, a3⟩, _⟩ := h p0 hp0
    obtain ⟨⟨b1, b2, b3⟩, _⟩ := h p1 hp1
    obtain ⟨_, c1, c2, c3⟩ := h p2 hp2
    obtain ⟨_, d1, d2, d3⟩ := h p3 hp3
    simp only [mvR] at *
    omega
theorem bounds_some {l : List Rc} (hok : ∀ r ∈ l, ROk r) (hne : l ≠ []) : ∃ b, boundsR l = (b, true) ∧ ROk b := by
  obtain ⟨k1, k2⟩ := bounds_of l
  cases hb : boundsR l with
  | mk b some =>
    rw [hb] at k1 k2
    cases some with
    | true => exact ⟨b, rfl, (k1 rfl).1⟩
    | false =>
      obtain ⟨_, e2⟩ := k2 rfl
      obtain ⟨r, hr⟩ := List.exists_mem_of_ne_nil _ hne
      exact absurd (hok r hr) (e2 r hr)
theorem shift_ok {l : List Rc} {dx dy : Int} (hr : RegP l) (hm : MvOk dx dy l) : shiftG l dx dy = (mvL dx dy l, 0) := by
  have hok := form_ok hr.1
  unfold shiftG
  rw [if_pos hr, if_neg]
  · rfl
  · rintro ⟨h1, h2⟩
    exact h2 ((stays_mv hok (b := (boundsR l).1) (by rw [← h1])).2 hm)
theorem shift_not {l : List Rc} {dx dy : Int} (hr : RegP l) (hm : ¬ MvOk dx dy l) : shiftG l dx dy = ([], 3) := by
  have hok := form_ok hr.1
  have hne : l ≠ [] := fun e => hm (by subst e; intro r hr; cases hr)
  obtain ⟨b, hb, _⟩ := bounds_some hok hne
  unfold shiftG
  rw [if_pos hr, if_pos]
  rw [hb]
  exact ⟨rfl, fun h => hm ((stays_mv hok hb).1 h)⟩
theorem con_shift {P R : List Rc} {dx dy er : Int} (he : shiftG P dx dy = (R, er)) (hR : R.length ≤ 1099511627776) (w' : World) (A1 : Option Addr) (c1 : Nat) (h : RIn w' A1 c1 P) : Calls Try.prog 23 #[.slice A1 P.length c1, .int .i64 dx, .int .i64 dy] w' (RR R R.length er w') := by
  have := gshift_any A1 c1 P dx dy w' h
  rw [he] at this
  exact this.mono fun e w2 h2 => h2.rr hR
theorem con_bounds {P : List Rc} {b : Rc} (hr : RegP P) (hb : boundsR P = (b, true)) (w' : World) (A1 : Option Addr) (c1 : Nat) (h : RIn w' A1 c1 P) : Calls Try.prog 24 #[.slice A1 P.length c1] w' (RbIs (b, true) w') := by
  have := gbounds_any A1 c1 P w' h
  rw [show boundsG P = (b, true) by unfold boundsG; rw [if_pos hr, hb]] at this
  exact this
theorem con_parts {P : List Rc} {n : Nat} (hr : RegP P) (hn : (partsM P).length = n) (w' : World) (A1 : Option Addr) (c1 : Nat) (h : RIn w' A1 c1 P) : Calls Try.prog 21 #[.slice A1 P.length c1] w' (LenIs n w') :=
  (gparts_any A1 c1 P w' h hr).mono fun e w2 ⟨vp, Vs, he, ho, _, hb⟩ => by
    obtain ⟨A, cap, rfl⟩ := own_val ho
    have : (partsR P).length = n := by rw [← hn]; unfold partsR partsL partsM; rw [List.length_map]
    rw [this] at he
    exact ⟨A, cap, he, hb⟩
theorem op_yes {op : Bool → Bool → Bool} {P Q : List Rc} (hp : RegP P) (hq : RegP Q) (h : (formO op P Q).length ≤ 200) : opR op P Q = (formO op P Q, 0) := by rw [op_cap hp hq, cap_le h]
theorem six_ofR {a : List Rc} (ho : ∀ r ∈ a, ROk r) (h : a.length ≤ 6) : ofR a = (formL a, 0) := by
  unfold ofR
  rw [if_pos ho, if_pos (by omega), cap_le (Nat.le_trans (sq_le (k := 6) (form_sq ho) h) (by omega))]
theorem bad_ofR {a : List Rc} (ho : ¬ ∀ r ∈ a, ROk r) : ofR a = ([], 1) := by unfold ofR; rw [if_neg ho]
set_option maxHeartbeats 4000000 in
theorem shifts_ok (Aa Ab : Option Addr) (ca cb : Nat) (a b : List Rc) (dx dy : Int) (w : World) (ha : RIn w Aa ca a) (hb : RIn w Ab cb b) (na : a.length ≤ 6) (nb : b.length ≤ 6) (oa : ∀ r ∈ a, ROk r) (ob : ∀ r ∈ b, ROk r) :
    Calls Try.prog 6 #[.slice Aa a.length ca, .slice Ab b.length cb, .int .i64 dx, .int .i64 dy] w (BlIs true w) := by
  have HSM := Lib.hid (small_any w)
  have fx := fs_l oa; have fy := fs_l ob
  have lx : (formL a).length ≤ 36 := sq_le (k := 6) (form_sq oa) na
  have ly : (formL b).length ≤ 36 := sq_le (k := 6) (form_sq ob) nb
  have rx : RegP (formL a) := ⟨fx.form, by omega⟩
  have ry : RegP (formL b) := ⟨fy.form, by omega⟩
  have fm := fs_not fx fy
  have lm : (formO andnot (formL a) (formL b)).length ≤ 144 := by rw [fm.eq (raw_not oa ob) (fun x y => Iff.rfl)]; exact sq_le (k := 12) (formO_sq andnot oa ob) (by omega)
  have rm : RegP (formO andnot (formL a) (formL b)) := ⟨fm.form, by omega⟩
  have HX := Lib.hid (con_of (six_ofR oa na) (by omega)); have HY := Lib.hid (con_of (six_ofR ob nb) (by omega))
  generalize hX : formL a = X at *
  generalize hY : formL b = Y at *
  clear hX hY
  by_cases hne : X = []
  · have hm : MvOk dx dy X := by rw [hne]; intro r hr; cases hr
    have hs := shift_ok rx hm
    have h0 : X.length = 0 := by rw [hne]; rfl
    exact shifts_nil Aa Ab ca cb a.length b.length X.length Y.length (mvL dx dy X).length 0 0 0 0 a b X Y (mvL dx dy X) [] [] [] dx dy 0 0 0 0 0 0 w ha hb na nb h0 (by rw [mv_len]; exact h0)
      HSM HX HY (Lib.hid (con_shift hs (by rw [mv_len]; omega)))
  · have hpos : 0 < X.length := List.length_pos_iff.2 hne
    obtain ⟨r, hr, ho⟩ := bounds_some fx.ok hne
    obtain ⟨r0, r1, r2, r3⟩ := r
    have hst := stays_mv (dx := dx) (dy := dy) fx.ok hr
    rw [staysB_iff, staysB_iff] at hst
    obtain ⟨⟨z1, z2, z3⟩, z4, z5, z6⟩ := ho
    simp only at hst z1 z2 z3 z4 z5 z6
    by_cases hm : MvOk dx dy X
    · have hs := shift_ok rx hm
      obtain ⟨s1, s2⟩ := hst.2 hm
      have rs : RegP (mvL dx dy X) := ⟨form_mv rx.1 hm, by rw [mv_len]; omega⟩
      have hmb : MvOk (-dx) (-dy) (mvL dx dy X) := fun q hq => by
        have : mvR (-dx) (-dy) q ∈ mvL (-dx) (-dy) (mvL dx dy X) := List.mem_map.2 ⟨q, hq, rfl⟩
        rw [mv_back] at this
        exact fx.ok _ this
      have hbk := shift_ok rs hmb
      rw [mv_back] at hbk
      have hbs : boundsR (mvL dx dy X) = (⟨r0 + dx, r1 + dy, r2 + dx, r3 + dy⟩, true) := by
        rw [(bounds_mv X.length X rfl fx.ok hm hne).1, hr]; rfl
      have hpm := parts_mv fx.ok hm
      have hax : areaL (mvL dx dy X) = areaL X := mv_areaL fx.ok hm
      have Hs := Lib.hid (con_shift hs (by rw [mv_len]; omega)); have Hb := Lib.hid (con_bounds rx hr)
      have Hk := Lib.hid (con_shift hbk (by omega)); have Hq := Lib.hid (con_bounds rs hbs)
      have Sx := Lib.hid (con_same X (by omega))
      have As : Hid (∀ (w' : World) (A1 : Option Addr) (c1 : Nat), RIn w' A1 c1 (mvL dx dy X) → Calls Try.prog 19 #[.slice A1 (mvL dx dy X).length c1] w' (InIs (areaL X) w')) := Lib.hid (fun w' A1 c1 h => by rw [← hax]; exact con_area rs w' A1 c1 h)
      have Ax := Lib.hid (con_area rx)
      have Ps := Lib.hid (con_parts rs hpm); have Px := Lib.hid (con_parts rx (rfl : (partsM X).length = (partsM X).length))
      by_cases hm2 : MvOk dx dy Y
      · have ht := shift_ok ry hm2
        have rt : RegP (mvL dx dy Y) := ⟨form_mv ry.1 hm2, by rw [mv_len]; omega⟩
        have hmv := minus_mv rx.1 ry.1 hm hm2
        have hml : MvOk dx dy (formO andnot X Y) := mv_sub fx.ok fm.ok hm (fun x y h => by
          have := (fm.cells x y).1 h
          exact (fx.cells x y).2 this.1)
        have hl := shift_ok rm hml
        have hmm : opR andnot (mvL dx dy X) (mvL dx dy Y) = (mvL dx dy (formO andnot X Y), 0) := by
          rw [op_yes rs rt (by rw [hmv, mv_len]; omega), hmv]
        exact shifts_full Aa Ab ca cb a.length b.length X.length Y.length (mvL dx dy X).length (mvL dx dy Y).length (mvL dx dy (formO andnot X Y)).length (formO andnot X Y).length (partsM X).length a b X Y (mvL dx dy X) (mvL dx dy Y) (mvL dx dy (formO andnot X Y)) (formO andnot X Y) dx dy r0 r1 r2 r3 (areaL X) 0 w ha hb na nb hpos
          (by omega) (by omega) (by omega) (by omega) (by omega) (by omega) (by omega) (by omega) (by omega) (by omega)
          HSM HX HY Hs Hb Hk Hq Sx As Ax Ps Px (Lib.hid (con_shift ht (by rw [mv_len]; omega))) (Lib.hid (con_minus hmm (by rw [mv_len]; omega))) (Lib.hid (con_minus (op_yes rx ry (by omega)) (by omega))) (Lib.hid (con_shift hl (by rw [mv_len]; omega))) (Lib.hid (con_same _ (by rw [mv_len]; omega)))
      · have ht := shift_not ry hm2
        exact shifts_out Aa Ab ca cb a.length b.length X.length Y.length (mvL dx dy X).length 0 0 0 (partsM X).length a b X Y (mvL dx dy X) [] [] [] dx dy r0 r1 r2 r3 (areaL X) 3 w ha hb na nb hpos (by decide)
          (by omega) (by omega) (by omega) (by omega) (by omega) (by omega) (by omega) (by omega) (by omega) (by omega)
          HSM HX HY Hs Hb Hk Hq Sx As Ax Ps Px (Lib.hid (con_shift ht (by simp)))
    · have hs := shift_not rx hm
      exact shifts_no Aa Ab ca cb a.length b.length X.length Y.length 0 0 0 0 0 a b X Y [] [] [] [] dx dy r0 r1 r2 r3 0 0 w ha hb na nb hpos rfl ⟨by omega, by omega, by omega, by omega⟩ (fun h => hm (hst.1 (by omega)))
        HSM HX HY (Lib.hid (con_shift hs (by simp))) (Lib.hid (con_bounds rx hr))
set_option maxHeartbeats 8000000 in
theorem shifts_far (Aa Ab : Option Addr) (ca cb na nb : Nat) (dx dy : Int) (w : World) (h : 6 < na ∨ ¬ 6 < na ∧ 6 < nb) :
    Calls Try.prog 6 #[.slice Aa na ca, .slice Ab nb cb, .int .i64 dx, .int .i64 dy] w (BlIs true w) := by
  have HS := Lib.hid (small_any w)
  rcases h with h | ⟨h, h2⟩
  · have m1 : (6 : Int) < (na : Int) := by omega
    clear h
    go_enter Try.func6, Try.ntmps6
    go_wp2_with fail
    refine HS.out.mono ?_
    rintro e w1 ⟨rfl, hb1⟩
    have HB1 := Lib.hid hb1; clear hb1
    go_wp2_with fail
    go_ret
    exact ⟨rfl, HB1.out⟩
  · have m1 : ¬ (6 : Int) < (na : Int) := by omega
    have m2 : (6 : Int) < (nb : Int) := by omega
    clear h h2
    go_enter Try.func6, Try.ntmps6
    go_wp2_with fail
    refine HS.out.mono ?_
    rintro e w1 ⟨rfl, hb1⟩
    have HB1 := Lib.hid hb1; clear hb1
    go_wp2_with fail
    go_ret
    exact ⟨rfl, HB1.out⟩
theorem shifts_walk (Aa Ab : Option Addr) (ca cb : Nat) (a b : List Rc) (dx dy : Int) (w : World) (ha : RRow w Aa a) (hb : RRow w Ab b) (la : a.length ≤ 9223372036854775807) (lb : b.length ≤ 9223372036854775807) (ra : a.length ≤ ca) (rb : b.length ≤ cb) (sa : ca ≤ 9223372036854775807) (sb : cb ≤ 9223372036854775807) :
    Calls Try.prog 6 #[.slice Aa a.length ca, .slice Ab b.length cb, .int .i64 dx, .int .i64 dy] w (BlIs true w) := by
  by_cases na : a.length ≤ 6
  · by_cases nb : b.length ≤ 6
    · have ia : RIn w Aa ca a := ⟨ha, by omega, ra, sa⟩
      have ib : RIn w Ab cb b := ⟨hb, by omega, rb, sb⟩
      by_cases oa : ∀ r ∈ a, ROk r
      · by_cases ob : ∀ r ∈ b, ROk r
        · exact shifts_ok Aa Ab ca cb a b dx dy w ia ib na nb oa ob
        · exact shifts_err Aa Ab ca cb a.length b.length _ _ 0 0 0 0 0 a b (formL a) [] [] [] [] [] dx dy 0 0 0 0 0 0 w ia ib na nb 0 1 (Or.inr ⟨by decide, by decide⟩) (Lib.hid (small_any w)) (Lib.hid (con_of (six_ofR oa na) (by have := sq_le (k := 6) (form_sq oa) na; omega))) (Lib.hid (con_of (bad_ofR ob) (by simp)))
      · by_cases ob : ∀ r ∈ b, ROk r
        · exact shifts_err Aa Ab ca cb a.length b.length _ _ 0 0 0 0 0 a b [] (formL b) [] [] [] [] dx dy 0 0 0 0 0 0 w ia ib na nb 1 0 (Or.inl (by decide)) (Lib.hid (small_any w)) (Lib.hid (con_of (bad_ofR oa) (by simp))) (Lib.hid (con_of (six_ofR ob nb) (by have := sq_le (k := 6) (form_sq ob) nb; omega)))
        · exact shifts_err Aa Ab ca cb a.length b.length _ _ 0 0 0 0 0 a b [] [] [] [] [] [] dx dy 0 0 0 0 0 0 w ia ib na nb 1 1 (Or.inl (by decide)) (Lib.hid (small_any w)) (Lib.hid (con_of (bad_ofR oa) (by simp))) (Lib.hid (con_of (bad_ofR ob) (by simp)))
    · exact shifts_far Aa Ab ca cb _ _ dx dy w (Or.inr ⟨by omega, by omega⟩)
  · exact shifts_far Aa Ab ca cb _ _ dx dy w (Or.inl (by omega))
end Go.Proofs.Ytoalfmdjdplbkaa
