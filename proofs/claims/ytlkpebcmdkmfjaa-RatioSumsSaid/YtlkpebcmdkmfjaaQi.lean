/-
  The laws' examples of layer 4 (small).
-/
import Derived.Test.YtlkpebcmdkmfjaaQf
import Derived.Deep.RegionHeld3
set_option linter.unusedVariables false
set_option maxRecDepth 100000
namespace Go.Proofs.Ytlkpebcmdkmfjaa
open Go.RowKit

theorem mk_is {n d : Int} {N D e : Int} (h1 : (mkF n d).1.N = N) (h2 : (mkF n d).1.D = D) (h3 : (mkF n d).2 = e) : mkF n d = (⟨N, D⟩, e) := Prod.ext (Fr.eq h1 h2) h3
theorem ex1 (w : World) : Calls Try.prog 10 #[.int .i64 6, .int .i64 (-4)] w (FrIs (⟨-3, 2⟩, 0) w) := by
  have := make_any 6 (-4) (by unfold In64; omega) (by unfold In64; omega) w
  rwa [mk_is (N := -3) (D := 2) (e := 0) (by decide +kernel) (by decide +kernel) (by decide +kernel)] at this
theorem ex2 (w : World) : Calls Try.prog 10 #[.int .i64 1, .int .i64 0] w (FrIs (⟨0, 0⟩, 1) w) := by
  have := make_any 1 0 (by unfold In64; omega) (by unfold In64; omega) w
  rwa [mk_is (N := 0) (D := 0) (e := 1) (by decide +kernel) (by decide +kernel) (by decide +kernel)] at this
theorem ex3 (w : World) : Calls Try.prog 10 #[.int .i64 1073741825, .int .i64 1] w (FrIs (⟨0, 0⟩, 3) w) := by
  have := make_any 1073741825 1 (by unfold In64; omega) (by unfold In64; omega) w
  rwa [mk_is (N := 0) (D := 0) (e := 3) (by decide +kernel) (by decide +kernel) (by decide +kernel)] at this
theorem inF_small {n d : Int} (h : -100 ≤ n ∧ n ≤ 100 ∧ -100 ≤ d ∧ d ≤ 100) : InF ⟨n, d⟩ := ⟨⟨by simp only []; omega, by simp only []; omega⟩, by simp only []; omega, by simp only []; omega⟩
theorem ex4 (w : World) : Calls Try.prog 12 #[.agg #[.int .i64 1, .int .i64 2], .agg #[.int .i64 1, .int .i64 3]] w (FrIs (⟨5, 6⟩, 0) w) := by
  have := add_any ⟨1, 2⟩ ⟨1, 3⟩ (inF_small (by decide)) (inF_small (by decide)) w
  rwa [show addF ⟨1, 2⟩ ⟨1, 3⟩ = (⟨5, 6⟩, 0) from Prod.ext (Fr.eq (by decide +kernel) (by decide +kernel)) (by decide +kernel)] at this
theorem ex5 (w : World) : Calls Try.prog 14 #[.agg #[.int .i64 2, .int .i64 3], .agg #[.int .i64 3, .int .i64 4]] w (FrIs (⟨1, 2⟩, 0) w) := by
  have := mul_any ⟨2, 3⟩ ⟨3, 4⟩ (inF_small (by decide)) (inF_small (by decide)) w
  rwa [show mulF ⟨2, 3⟩ ⟨3, 4⟩ = (⟨1, 2⟩, 0) from Prod.ext (Fr.eq (by decide +kernel) (by decide +kernel)) (by decide +kernel)] at this
theorem ex6 (w : World) : Calls Try.prog 24 #[.agg #[.int .i64 (-3), .int .i64 2]] w (InIs (-2) w) := by
  have := floor_any ⟨-3, 2⟩ (inF_small (by decide)) w
  rwa [show floorF ⟨-3, 2⟩ = -2 by decide +kernel] at this
theorem ex7 (w : World) : Calls Try.prog 26 #[.agg #[.int .i64 (-3), .int .i64 2]] w (InIs (-1) w) := by
  have := ceil_any ⟨-3, 2⟩ (inF_small (by decide)) w
  rwa [show ceilF ⟨-3, 2⟩ = -1 by decide +kernel] at this
theorem ex8 (w : World) : Calls Try.prog 18 #[.agg #[.int .i64 1, .int .i64 2], .agg #[.int .i64 2, .int .i64 3]] w (InIs (-1) w) := by
  have := compare_any ⟨1, 2⟩ ⟨2, 3⟩ (inF_small (by decide)) (inF_small (by decide)) w
  rwa [show cmpF ⟨1, 2⟩ ⟨2, 3⟩ = -1 by decide +kernel] at this
theorem ex9 (w : World) : Calls Try.prog 22 #[.agg #[.int .i64 1, .int .i64 2], .agg #[.int .i64 2, .int .i64 3]] w (FIs ⟨2, 3⟩ w) := by
  have := max_any ⟨1, 2⟩ ⟨2, 3⟩ (inF_small (by decide)) (inF_small (by decide)) w
  rwa [show maxF ⟨1, 2⟩ ⟨2, 3⟩ = ⟨2, 3⟩ from Fr.eq (by decide +kernel) (by decide +kernel)] at this
theorem ex10 (w : World) : Calls Try.prog 20 #[.agg #[.int .i64 1, .int .i64 2], .agg #[.int .i64 2, .int .i64 3]] w (FIs ⟨1, 2⟩ w) := by
  have := min_any ⟨1, 2⟩ ⟨2, 3⟩ (inF_small (by decide)) (inF_small (by decide)) w
  rwa [show minF ⟨1, 2⟩ ⟨2, 3⟩ = ⟨1, 2⟩ from Fr.eq (by decide +kernel) (by decide +kernel)] at this
theorem in64_small {n : Int} (h : -100 ≤ n ∧ n ≤ 100) : In64 n := ⟨by omega, by omega⟩

/-- what the last region of small reads. -/
def Sm (p q r : Nat) (w0 w : World) : Prop :=
  w.cell? ⟨p, 0, none⟩ = some (.int .i64 (-3)) ∧ w.cell? ⟨p, 1, none⟩ = some (.int .i64 2) ∧ w.cell? ⟨q, 0, none⟩ = some (.int .i64 1) ∧ w.cell? ⟨q, 1, none⟩ = some (.int .i64 2) ∧ w.cell? ⟨r, 0, none⟩ = some (.int .i64 2) ∧ w.cell? ⟨r, 1, none⟩ = some (.int .i64 3) ∧
  p < w.heap.size ∧ q < w.heap.size ∧ r < w.heap.size ∧ Hid (Below w0.heap.size w0 w)
theorem Sm.go {p q r : Nat} {w0 w w' : World} (h : Sm p q r w0 w) (hb : Below w.heap.size w w') : Sm p q r w0 w' := by
  obtain ⟨h1, h2, h3, h4, h5, h6, a, b, c, h7⟩ := h
  have hs := hb.size
  exact ⟨(hb.cell (p := ⟨p, 0, none⟩) a).trans h1, (hb.cell (p := ⟨p, 1, none⟩) a).trans h2, (hb.cell (p := ⟨q, 0, none⟩) b).trans h3, (hb.cell (p := ⟨q, 1, none⟩) b).trans h4, (hb.cell (p := ⟨r, 0, none⟩) c).trans h5, (hb.cell (p := ⟨r, 1, none⟩) c).trans h6, by omega, by omega, by omega, Lib.hid (h7.out.trans (hb.mono h7.out.size))⟩
theorem Sm.drewN {p q r : Nat} {w0 w : World} (h : Sm p q r w0 w) (n : Nat) : Sm p q r w0 (w.drewN n) := h.go (below_drewN (Below.refl _ _) n)

set_option maxHeartbeats 8000000 in
theorem small_any (w : World) : Calls Try.prog 9 #[] w (BlIs true w) := by
  have k1 : okB ⟨1, 2⟩ = true := by decide +kernel
  have k2 : okB ⟨2, 4⟩ = false := by decide +kernel
  go_enter Try.func9, Try.ntmps9
  go_wp2_with fail
  refine (ex1 _).mono ?_
  rintro e w1 ⟨rfl, hb⟩
  have B1 := Lib.hid hb; clear hb
  go_wp2_with fail
  refine (ex2 _).mono ?_
  rintro e w2 ⟨rfl, hb⟩
  have F1 := Lib.hid ((FrAt.new w1 ⟨-3, 2⟩).below hb (by simp))
  have B2 := Lib.hid (B1.out.trans ((Below.alloc (Below.refl _ _) (Nat.le_refl _) _).trans (hb.mono (by simp)) |>.mono B1.out.size)); clear hb B1
  go_wp2_with fail
  refine (ex3 _).mono ?_
  rintro e w3 ⟨rfl, hb⟩
  have F2 := Lib.hid ((F1.out.alloc _).below hb (F1.out.alloc _).lt); clear F1
  have B3 := Lib.hid (B2.out.trans ((Below.alloc (Below.refl _ _) (Nat.le_refl _) _).trans (hb.mono (by simp)) |>.mono B2.out.size)); clear hb B2
  go_wp2_with fail
  refine (ex4 _).mono ?_
  rintro e w4 ⟨rfl, hb⟩
  have F3 := Lib.hid ((F2.out.alloc _).below hb (F2.out.alloc _).lt); clear F2
  have B4 := Lib.hid (B3.out.trans ((Below.alloc (Below.refl _ _) (Nat.le_refl _) _).trans (hb.mono (by simp)) |>.mono B3.out.size)); clear hb B3
  go_wp2_with fail
  refine (ex5 _).mono ?_
  rintro e w5 ⟨rfl, hb⟩
  have F4 := Lib.hid ((F3.out.alloc _).below hb (F3.out.alloc _).lt); clear F3
  have G4 := Lib.hid ((FrAt.new w4 ⟨5, 6⟩).below hb (by simp))
  have B5 := Lib.hid (B4.out.trans ((Below.alloc (Below.refl _ _) (Nat.le_refl _) _).trans (hb.mono (by simp)) |>.mono B4.out.size)); clear hb B4
  have x0 := F4.out.cell0; have x1 := F4.out.cell1; have y0 := G4.out.cell0; have y1 := G4.out.cell1
  have xl := F4.out.lt; have yl := G4.out.lt
  have xz : w1.heap.size < w5.heap.size + 1 := by omega
  have xz2 : w1.heap.size < w5.heap.size + 1 + 1 := by omega
  have yz : w4.heap.size < w5.heap.size + 1 := by omega
  have yz2 : w4.heap.size < w5.heap.size + 1 + 1 := by omega
  go_wp2
  clear x0 x1 y0 y1 yl yz yz2 G4
  have KW : Sm w1.heap.size (w5.heap.size + 1) (w5.heap.size + 1 + 1) w (((w5.alloc (.cells #[.int .i64 1, .int .i64 2] 23)).alloc (.cells #[.int .i64 1, .int .i64 2] 23)).alloc (.cells #[.int .i64 2, .int .i64 3] 23)) := by
    have f1 := ((F4.out.alloc (.cells #[.int .i64 1, .int .i64 2] 23)).alloc (.cells #[.int .i64 1, .int .i64 2] 23)).alloc (.cells #[.int .i64 2, .int .i64 3] 23)
    have f2 := (FrAt.new' (w5.alloc (.cells #[.int .i64 1, .int .i64 2] 23)) ⟨1, 2⟩ (w5.heap.size + 1) (by simp)).alloc (.cells #[.int .i64 2, .int .i64 3] 23)
    have f3 := FrAt.new' ((w5.alloc (.cells #[.int .i64 1, .int .i64 2] 23)).alloc (.cells #[.int .i64 1, .int .i64 2] 23)) ⟨2, 3⟩ (w5.heap.size + 1 + 1) (by simp)
    exact ⟨f1.cell0, f1.cell1, f2.cell0, f2.cell1, f3.cell0, f3.cell1, f1.lt, f2.lt, f3.lt, Lib.hid (by have := B5.out; have hs := B5.out.size; (repeat' first | exact Below.refl _ _ | assumption | (apply below_drewN) | (refine Below.setCell ?_ (by (try simp); (try omega)) _) | (refine Below.alloc ?_ (by (try simp); (try omega)) _) | (refine Below.trans ?_ (Below.mono (Hid.out (by assumption)) (by (try simp); (try omega))))))⟩
  have K := Lib.hid KW
  clear KW F4 B5 xl xz xz2
  generalize w1.heap.size = p at *
  generalize w5.heap.size + 1 = q at *
  generalize World.alloc (World.alloc (World.alloc w5 _) _) _ = w6 at *
  go_region_held3 (fun w' => w'.cell? ⟨p, 0, none⟩ = some (.int .i64 (-3)) ∧ w'.cell? ⟨p, 1, none⟩ = some (.int .i64 2) ∧ w'.cell? ⟨q, 0, none⟩ = some (.int .i64 1) ∧ w'.cell? ⟨q, 1, none⟩ = some (.int .i64 2) ∧ w'.cell? ⟨q + 1, 0, none⟩ = some (.int .i64 2) ∧ w'.cell? ⟨q + 1, 1, none⟩ = some (.int .i64 3) ∧ p < w'.heap.size ∧ q < w'.heap.size ∧ q + 1 < w'.heap.size ∧ Hid (Below w.heap.size w w'))
    (first | exact K.out | exact Sm.drewN K.out 1 | exact Sm.go ‹_› ‹_›)
    (first
      | (go_at_call 24; refine (ex6 _).mono ?_; rintro e w' ⟨rfl, hb⟩)
      | (go_at_call 26; refine (ex7 _).mono ?_; rintro e w' ⟨rfl, hb⟩)
      | (go_at_call 18; refine (ex8 _).mono ?_; rintro e w' ⟨rfl, hb⟩)
      | (go_at_call 22; refine (ex9 _).mono ?_; rintro e w' ⟨rfl, hb⟩)
      | (go_at_call 20; refine (ex10 _).mono ?_; rintro e w' ⟨rfl, hb⟩)
      | (go_at_call 16; refine (right_nd _ _ (in64_small (by decide)) (in64_small (by decide)) _).mono ?_; rintro e w' ⟨rfl, hb⟩))
  go_wp2
  have K6 : Sm p q (q + 1) w w' := by assumption
  go_ret
  exact ⟨rfl, K6.2.2.2.2.2.2.2.2.2.out⟩
end Go.Proofs.Ytlkpebcmdkmfjaa
