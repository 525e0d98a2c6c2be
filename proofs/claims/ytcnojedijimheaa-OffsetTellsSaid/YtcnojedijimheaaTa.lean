/-
  OffsetAdds: what the models say; the law's walk.
  OffsetAdds: the law's walk for whatever comes in.
-/
import Derived.Test.YtcnojedijimheaaGx
import Derived.Test.YtcnojedijimheaaSr
import Derived.Test.YtcnojedijimheaaSt
set_option linter.unusedVariables false
set_option maxRecDepth 100000
namespace Go.Proofs.Ytcnojedijimheaa
open Go.RowKit

theorem capR_err (F : List Rc) : (capR F).2 = 0 ∨ (capR F).2 = 6 := by unfold capR; split; exact Or.inl rfl; exact Or.inr rfl
theorem capR_len (F : List Rc) : (capR F).1.length ≤ 200 := by
  unfold capR; split
  · assumption
  · simp
theorem capR_fst {F : List Rc} (h : (capR F).2 = 0) : (capR F).1 = F ∧ F.length ≤ 200 := by
  unfold capR at h ⊢
  split
  · rename_i h2; exact ⟨rfl, h2⟩
  · rename_i h2; rw [if_neg h2] at h; cases h
theorem growM_len (l : List Rc) (d : Int) : (growM l d).1.length ≤ 200 := by
  unfold growM; split
  · exact capR_len _
  · simp
theorem shrinkM_len (l : List Rc) (d : Int) : (shrinkM l d).1.length ≤ 200 := by
  unfold shrinkM; split
  · exact capR_len _
  · simp
theorem growM_yes {l : List Rc} {d : Int} (h : RegP l) (h0 : 0 ≤ d) (h1 : d ≤ 1048576) : growM l d = capR (groF l d) := if_pos ⟨h, h0, h1⟩
theorem shrinkM_yes {l : List Rc} {d : Int} (h : RegP l) (h0 : 0 ≤ d) (h1 : d ≤ 1048576) : shrinkM l d = capR (eroF l d) := if_pos ⟨h, h0, h1⟩
theorem growM_reg {l : List Rc} {d : Int} (h : RegP l) (h0 : 0 ≤ d) (h1 : d ≤ 1048576) (he : (growM l d).2 = 0) : (growM l d).1 = groF l d ∧ RegP (groF l d) := by
  rw [growM_yes h h0 h1] at he ⊢
  obtain ⟨e1, e2⟩ := capR_fst he
  exact ⟨e1, (groF_is (form_ok h.1) h0).form, e2⟩
theorem shrinkM_reg {l : List Rc} {d : Int} (h : RegP l) (h0 : 0 ≤ d) (h1 : d ≤ 1048576) (he : (shrinkM l d).2 = 0) : (shrinkM l d).1 = eroF l d ∧ RegP (eroF l d) := by
  rw [shrinkM_yes h h0 h1] at he ⊢
  obtain ⟨e1, e2⟩ := capR_fst he
  exact ⟨e1, (eroF_is (form_ok h.1) h0).form, e2⟩
theorem adds_gro {l : List Rc} {d n : Int} (h : RegP l) (h0 : 0 ≤ d) (hn : 0 ≤ n) (h1 : d + n ≤ 1048576) (he : (growM l d).2 = 0) : growM (growM l d).1 n = growM l (d + n) := by
  obtain ⟨e1, e2⟩ := growM_reg h h0 (by omega) he
  rw [e1, growM_yes e2 hn (by omega), growM_yes h (by omega) h1, groF_groF (form_ok h.1) h0 hn]
theorem adds_ero {l : List Rc} {d n : Int} (h : RegP l) (h0 : 0 ≤ d) (hn : 0 ≤ n) (h1 : d + n ≤ 1048576) (he : (shrinkM l d).2 = 0) : shrinkM (shrinkM l d).1 n = shrinkM l (d + n) := by
  obtain ⟨e1, e2⟩ := shrinkM_reg h h0 (by omega) he
  rw [e1, shrinkM_yes e2 hn (by omega), shrinkM_yes h (by omega) h1, eroF_eroF (form_ok h.1) h0 hn]
theorem ygrow_rg (A : Option Addr) (cap : Nat) (l : List Rc) (d : Int) (w : World) (hl : RIn w A cap l) : Calls Try.prog 17 #[.slice A l.length cap, .int .i64 d] w (RG (growM l d).1 (growM l d).1.length (growM l d).2 w) :=
  (ygrow_any A cap l d w hl).mono fun e w2 h2 => h2.rg (by have := growM_len l d; omega)
theorem yshrink_rg (A : Option Addr) (cap : Nat) (l : List Rc) (d : Int) (w : World) (hl : RIn w A cap l) : Calls Try.prog 19 #[.slice A l.length cap, .int .i64 d] w (RG (shrinkM l d).1 (shrinkM l d).1.length (shrinkM l d).2 w) :=
  (yshrink_any A cap l d w hl).mono fun e w2 h2 => h2.rg (by have := shrinkM_len l d; omega)
theorem vsame_rin (A1 : Option Addr) (c1 : Nat) (A2 : Option Addr) (c2 : Nat) (l m : List Rc) (w : World) (h1 : RIn w A1 c1 l) (h2 : RIn w A2 c2 m) : Calls Try.prog 13 #[.slice A1 l.length c1, .slice A2 m.length c2] w (BlIs (decide (l = m)) w) := vsame_any A1 c1 A2 c2 l m w h1.row h2.row h1.len h2.len
theorem vRight_rin {A : Option Addr} {cap : Nat} {l : List Rc} {w : World} (h : RIn w A cap l) (hr : RegP l) : Calls Try.prog 26 #[.slice A l.length cap] w (BlIs true w) := vRight_yes A cap l w h.row h.len hr
theorem vRight_rin_no {A : Option Addr} {cap : Nat} {l : List Rc} {w : World} (h : RIn w A cap l) (hr : ¬ RegP l) : Calls Try.prog 26 #[.slice A l.length cap] w (BlIs false w) := vRight_no A cap l w h.row h.len hr
set_option maxHeartbeats 40000000 in
theorem zadds_core (A : Option Addr) (c : Nat) (a X Y Z U V W : List Rc) (d n e f g h i k : Int) (w : World) (hA : RIn w A c a) (h24 : a.length ≤ 24) (hr : RegP a) (hd : 0 ≤ d) (hn : 0 ≤ n) (hs : d + n ≤ 1048576)
    (hG1 : ∀ w', Below w.heap.size w w' → Calls Try.prog 17 #[.slice A a.length c, .int .i64 d] w' (RG X X.length e w'))
    (hG2 : ∀ w' A1 c1, RIn w' A1 c1 X → Calls Try.prog 17 #[.slice A1 X.length c1, .int .i64 n] w' (RG Y Y.length f w'))
    (hG3 : ∀ w', Below w.heap.size w w' → Calls Try.prog 17 #[.slice A a.length c, .int .i64 (d + n)] w' (RG Z Z.length g w'))
    (hS1 : ∀ w', Below w.heap.size w w' → Calls Try.prog 19 #[.slice A a.length c, .int .i64 d] w' (RG U U.length h w'))
    (hS2 : ∀ w' A1 c1, RIn w' A1 c1 U → Calls Try.prog 19 #[.slice A1 U.length c1, .int .i64 n] w' (RG V V.length i w'))
    (hS3 : ∀ w', Below w.heap.size w w' → Calls Try.prog 19 #[.slice A a.length c, .int .i64 (d + n)] w' (RG W W.length k w'))
    (he : e = 0 ∨ e = 6) (hg : g = 0 ∨ g = 6) (hh : h = 0 ∨ h = 6) (hk : k = 0 ∨ k = 6) (hY : e = 0 → f = g ∧ Y = Z) (hV : h = 0 → i = k ∧ V = W) :
    Calls Try.prog 6 #[.slice A a.length c, .int .i64 d, .int .i64 n] w (BlIs true w) := by
  have HA := Lib.hid hA
  have HR := Lib.hid (fun w' (hb : Below w.heap.size w w') => vRight_rin (hA.below hb) hr)
  have G1 := Lib.hid hG1; have G2 := Lib.hid hG2; have G3 := Lib.hid hG3; have S1 := Lib.hid hS1; have S2 := Lib.hid hS2; have S3 := Lib.hid hS3
  have HY := Lib.hid hY; have HV := Lib.hid hV
  have HF : Hid (decide (a.length ≤ 24) = true) := Lib.hid (decide_eq_true h24)
  have s0 : ¬ d < 0 := by omega
  have s1 : ¬ n < 0 := by omega
  have s2 : ¬ (1048576 : Int) < d := by omega
  have q3 : IntKind.i64.wrap (1048576 - d) = 1048576 - d := IntWalk.i64_in _ (by omega)
  have s3 : ¬ 1048576 - d < n := by omega
  have q4 : IntKind.i64.wrap (d + n) = d + n := IntWalk.i64_in _ (by omega)
  clear hA h24 hr hG1 hG2 hG3 hS1 hS2 hS3 hY hV hs hd hn
  go_enter Try.func6, Try.ntmps6
  go_wp2_with fail
  refine (zsmall_any _).mono ?_
  rintro e1 w1 ⟨rfl, hb1⟩
  have HB1 := Lib.hid hb1; clear hb1
  go_wp2_with fail
  refine (zfew_any A c a _).mono ?_
  rw [HF.out]
  rintro e2 w2 ⟨rfl, hb2⟩
  have HB2 := Lib.hid (HB1.out.trans (hb2.mono HB1.out.size)); clear hb2 HB1
  go_wp2_with fail
  refine (HR.out _ HB2.out).mono ?_
  rintro e3 w3 ⟨rfl, hb3⟩
  have HB3 := Lib.hid (HB2.out.trans (hb3.mono HB2.out.size)); clear hb3 HB2 HR
  go_wp2_with fail
  rcases he with rfl | rfl
  · have EYZ : Hid (Y = Z) := Lib.hid (HY.out rfl).2
    obtain rfl : f = g := (HY.out rfl).1
    clear HY
    rcases hg with rfl | rfl
    · rcases hh with rfl | rfl
      · have EVW : Hid (V = W) := Lib.hid (HV.out rfl).2
        obtain rfl : i = k := (HV.out rfl).1
        clear HV
        rcases hk with rfl | rfl
        · refine (G1.out _ HB3.out).mono ?_
          rintro e4 w4 ⟨AX, cX, rfl, hX, hb4⟩
          have HB4 := Lib.hid (HB3.out.trans (hb4.mono HB3.out.size))
          have HX := Lib.hid hX; clear hX hb4 HB3
          go_wp2_with fail
          refine (G2.out _ AX cX HX.out).mono ?_
          rintro e5 w5 ⟨AY, cY, rfl, hY, hb5⟩
          have HB5 := Lib.hid (HB4.out.trans (hb5.mono HB4.out.size))
          have HX := Lib.hid (HX.out.below hb5)
          have HY := Lib.hid hY; clear hY hb5 HB4
          go_wp2_with fail
          refine (G3.out _ HB5.out).mono ?_
          rintro e6 w6 ⟨AZ, cZ, rfl, hZ, hb6⟩
          have HB6 := Lib.hid (HB5.out.trans (hb6.mono HB5.out.size))
          have HY := Lib.hid (HY.out.below hb6)
          have HZ := Lib.hid hZ; clear hZ hb6 HB5
          go_wp2_with fail
          refine (vsame_rin AY cY AZ cZ Y Z _ HY.out HZ.out).mono ?_
          rw [decide_eq_true EYZ.out]
          rintro e9 w9 ⟨rfl, hb9⟩
          have HB9 := Lib.hid (HB6.out.trans (hb9.mono HB6.out.size)); clear hb9 HB6
          go_wp2_with fail
          refine (S1.out _ HB9.out).mono ?_
          rintro e10 w10 ⟨AU, cU, rfl, hU, hb10⟩
          have HB10 := Lib.hid (HB9.out.trans (hb10.mono HB9.out.size))
          have HU := Lib.hid hU; clear hU hb10 HB9
          go_wp2_with fail
          refine (S2.out _ AU cU HU.out).mono ?_
          rintro e11 w11 ⟨AV, cV, rfl, hV, hb11⟩
          have HB11 := Lib.hid (HB10.out.trans (hb11.mono HB10.out.size))
          have HU := Lib.hid (HU.out.below hb11)
          have HV := Lib.hid hV; clear hV hb11 HB10
          go_wp2_with fail
          refine (S3.out _ HB11.out).mono ?_
          rintro e12 w12 ⟨AW, cW, rfl, hW, hb12⟩
          have HB12 := Lib.hid (HB11.out.trans (hb12.mono HB11.out.size))
          have HV := Lib.hid (HV.out.below hb12)
          have HW := Lib.hid hW; clear hW hb12 HB11
          go_wp2_with fail
          refine (vsame_rin AV cV AW cW V W _ HV.out HW.out).mono ?_
          rw [decide_eq_true EVW.out]
          rintro e13 w13 ⟨rfl, hb13⟩
          have HB13 := Lib.hid (HB12.out.trans (hb13.mono HB12.out.size)); clear hb13 HB12
          go_wp2_with fail
          go_ret
          exact ⟨rfl, HB13.out⟩
        · refine (G1.out _ HB3.out).mono ?_
          rintro e4 w4 ⟨AX, cX, rfl, hX, hb4⟩
          have HB4 := Lib.hid (HB3.out.trans (hb4.mono HB3.out.size))
          have HX := Lib.hid hX; clear hX hb4 HB3
          go_wp2_with fail
          refine (G2.out _ AX cX HX.out).mono ?_
          rintro e5 w5 ⟨AY, cY, rfl, hY, hb5⟩
          have HB5 := Lib.hid (HB4.out.trans (hb5.mono HB4.out.size))
          have HX := Lib.hid (HX.out.below hb5)
          have HY := Lib.hid hY; clear hY hb5 HB4
          go_wp2_with fail
          refine (G3.out _ HB5.out).mono ?_
          rintro e6 w6 ⟨AZ, cZ, rfl, hZ, hb6⟩
          have HB6 := Lib.hid (HB5.out.trans (hb6.mono HB5.out.size))
          have HY := Lib.hid (HY.out.below hb6)
          have HZ := Lib.hid hZ; clear hZ hb6 HB5
          go_wp2_with fail
          refine (vsame_rin AY cY AZ cZ Y Z _ HY.out HZ.out).mono ?_
          rw [decide_eq_true EYZ.out]
          rintro e9 w9 ⟨rfl, hb9⟩
          have HB9 := Lib.hid (HB6.out.trans (hb9.mono HB6.out.size)); clear hb9 HB6
          go_wp2_with fail
          refine (S1.out _ HB9.out).mono ?_
          rintro e10 w10 ⟨AU, cU, rfl, hU, hb10⟩
          have HB10 := Lib.hid (HB9.out.trans (hb10.mono HB9.out.size))
          have HU := Lib.hid hU; clear hU hb10 HB9
          go_wp2_with fail
          refine (S2.out _ AU cU HU.out).mono ?_
          rintro e11 w11 ⟨AV, cV, rfl, hV, hb11⟩
          have HB11 := Lib.hid (HB10.out.trans (hb11.mono HB10.out.size))
          have HU := Lib.hid (HU.out.below hb11)
          have HV := Lib.hid hV; clear hV hb11 HB10
          go_wp2_with fail
          refine (S3.out _ HB11.out).mono ?_
          rintro e12 w12 ⟨AW, cW, rfl, hW, hb12⟩
          have HB12 := Lib.hid (HB11.out.trans (hb12.mono HB11.out.size))
          have HV := Lib.hid (HV.out.below hb12)
          have HW := Lib.hid hW; clear hW hb12 HB11
          go_wp2_with fail
          go_ret
          exact ⟨rfl, HB12.out⟩
      · clear HV
        rcases hk with rfl | rfl
        · refine (G1.out _ HB3.out).mono ?_
          rintro e4 w4 ⟨AX, cX, rfl, hX, hb4⟩
          have HB4 := Lib.hid (HB3.out.trans (hb4.mono HB3.out.size))
          have HX := Lib.hid hX; clear hX hb4 HB3
          go_wp2_with fail
          refine (G2.out _ AX cX HX.out).mono ?_
          rintro e5 w5 ⟨AY, cY, rfl, hY, hb5⟩
          have HB5 := Lib.hid (HB4.out.trans (hb5.mono HB4.out.size))
          have HX := Lib.hid (HX.out.below hb5)
          have HY := Lib.hid hY; clear hY hb5 HB4
          go_wp2_with fail
          refine (G3.out _ HB5.out).mono ?_
          rintro e6 w6 ⟨AZ, cZ, rfl, hZ, hb6⟩
          have HB6 := Lib.hid (HB5.out.trans (hb6.mono HB5.out.size))
          have HY := Lib.hid (HY.out.below hb6)
          have HZ := Lib.hid hZ; clear hZ hb6 HB5
          go_wp2_with fail
          refine (vsame_rin AY cY AZ cZ Y Z _ HY.out HZ.out).mono ?_
          rw [decide_eq_true EYZ.out]
          rintro e9 w9 ⟨rfl, hb9⟩
          have HB9 := Lib.hid (HB6.out.trans (hb9.mono HB6.out.size)); clear hb9 HB6
          go_wp2_with fail
          refine (S1.out _ HB9.out).mono ?_
          rintro e10 w10 ⟨AU, cU, rfl, hU, hb10⟩
          have HB10 := Lib.hid (HB9.out.trans (hb10.mono HB9.out.size))
          have HU := Lib.hid hU; clear hU hb10 HB9
          go_wp2_with fail
          refine (S2.out _ AU cU HU.out).mono ?_
          rintro e11 w11 ⟨AV, cV, rfl, hV, hb11⟩
          have HB11 := Lib.hid (HB10.out.trans (hb11.mono HB10.out.size))
          have HU := Lib.hid (HU.out.below hb11)
          have HV := Lib.hid hV; clear hV hb11 HB10
          go_wp2_with fail
          refine (S3.out _ HB11.out).mono ?_
          rintro e12 w12 ⟨AW, cW, rfl, hW, hb12⟩
          have HB12 := Lib.hid (HB11.out.trans (hb12.mono HB11.out.size))
          have HV := Lib.hid (HV.out.below hb12)
          have HW := Lib.hid hW; clear hW hb12 HB11
          go_wp2_with fail
          go_ret
          exact ⟨rfl, HB12.out⟩
        · refine (G1.out _ HB3.out).mono ?_
          rintro e4 w4 ⟨AX, cX, rfl, hX, hb4⟩
          have HB4 := Lib.hid (HB3.out.trans (hb4.mono HB3.out.size))
          have HX := Lib.hid hX; clear hX hb4 HB3
          go_wp2_with fail
          refine (G2.out _ AX cX HX.out).mono ?_
          rintro e5 w5 ⟨AY, cY, rfl, hY, hb5⟩
          have HB5 := Lib.hid (HB4.out.trans (hb5.mono HB4.out.size))
          have HX := Lib.hid (HX.out.below hb5)
          have HY := Lib.hid hY; clear hY hb5 HB4
          go_wp2_with fail
          refine (G3.out _ HB5.out).mono ?_
          rintro e6 w6 ⟨AZ, cZ, rfl, hZ, hb6⟩
          have HB6 := Lib.hid (HB5.out.trans (hb6.mono HB5.out.size))
          have HY := Lib.hid (HY.out.below hb6)
          have HZ := Lib.hid hZ; clear hZ hb6 HB5
          go_wp2_with fail
          refine (vsame_rin AY cY AZ cZ Y Z _ HY.out HZ.out).mono ?_
          rw [decide_eq_true EYZ.out]
          rintro e9 w9 ⟨rfl, hb9⟩
          have HB9 := Lib.hid (HB6.out.trans (hb9.mono HB6.out.size)); clear hb9 HB6
          go_wp2_with fail
          refine (S1.out _ HB9.out).mono ?_
          rintro e10 w10 ⟨AU, cU, rfl, hU, hb10⟩
          have HB10 := Lib.hid (HB9.out.trans (hb10.mono HB9.out.size))
          have HU := Lib.hid hU; clear hU hb10 HB9
          go_wp2_with fail
          refine (S2.out _ AU cU HU.out).mono ?_
          rintro e11 w11 ⟨AV, cV, rfl, hV, hb11⟩
          have HB11 := Lib.hid (HB10.out.trans (hb11.mono HB10.out.size))
          have HU := Lib.hid (HU.out.below hb11)
          have HV := Lib.hid hV; clear hV hb11 HB10
          go_wp2_with fail
          refine (S3.out _ HB11.out).mono ?_
          rintro e12 w12 ⟨AW, cW, rfl, hW, hb12⟩
          have HB12 := Lib.hid (HB11.out.trans (hb12.mono HB11.out.size))
          have HV := Lib.hid (HV.out.below hb12)
          have HW := Lib.hid hW; clear hW hb12 HB11
          go_wp2_with fail
          go_ret
          exact ⟨rfl, HB12.out⟩
    · rcases hh with rfl | rfl
      · have EVW : Hid (V = W) := Lib.hid (HV.out rfl).2
        obtain rfl : i = k := (HV.out rfl).1
        clear HV
        rcases hk with rfl | rfl
        · refine (G1.out _ HB3.out).mono ?_
          rintro e4 w4 ⟨AX, cX, rfl, hX, hb4⟩
          have HB4 := Lib.hid (HB3.out.trans (hb4.mono HB3.out.size))
          have HX := Lib.hid hX; clear hX hb4 HB3
          go_wp2_with fail
          refine (G2.out _ AX cX HX.out).mono ?_
          rintro e5 w5 ⟨AY, cY, rfl, hY, hb5⟩
          have HB5 := Lib.hid (HB4.out.trans (hb5.mono HB4.out.size))
          have HX := Lib.hid (HX.out.below hb5)
          have HY := Lib.hid hY; clear hY hb5 HB4
          go_wp2_with fail
          refine (G3.out _ HB5.out).mono ?_
          rintro e6 w6 ⟨AZ, cZ, rfl, hZ, hb6⟩
          have HB6 := Lib.hid (HB5.out.trans (hb6.mono HB5.out.size))
          have HY := Lib.hid (HY.out.below hb6)
          have HZ := Lib.hid hZ; clear hZ hb6 HB5
          go_wp2_with fail
          have HB9 := HB6; clear HB6
          refine (S1.out _ HB9.out).mono ?_
          rintro e10 w10 ⟨AU, cU, rfl, hU, hb10⟩
          have HB10 := Lib.hid (HB9.out.trans (hb10.mono HB9.out.size))
          have HU := Lib.hid hU; clear hU hb10 HB9
          go_wp2_with fail
          refine (S2.out _ AU cU HU.out).mono ?_
          rintro e11 w11 ⟨AV, cV, rfl, hV, hb11⟩
          have HB11 := Lib.hid (HB10.out.trans (hb11.mono HB10.out.size))
          have HU := Lib.hid (HU.out.below hb11)
          have HV := Lib.hid hV; clear hV hb11 HB10
          go_wp2_with fail
          refine (S3.out _ HB11.out).mono ?_
          rintro e12 w12 ⟨AW, cW, rfl, hW, hb12⟩
          have HB12 := Lib.hid (HB11.out.trans (hb12.mono HB11.out.size))
          have HV := Lib.hid (HV.out.below hb12)
          have HW := Lib.hid hW; clear hW hb12 HB11
          go_wp2_with fail
          refine (vsame_rin AV cV AW cW V W _ HV.out HW.out).mono ?_
          rw [decide_eq_true EVW.out]
          rintro e13 w13 ⟨rfl, hb13⟩
          have HB13 := Lib.hid (HB12.out.trans (hb13.mono HB12.out.size)); clear hb13 HB12
          go_wp2_with fail
          go_ret
          exact ⟨rfl, HB13.out⟩
        · refine (G1.out _ HB3.out).mono ?_
          rintro e4 w4 ⟨AX, cX, rfl, hX, hb4⟩
          have HB4 := Lib.hid (HB3.out.trans (hb4.mono HB3.out.size))
          have HX := Lib.hid hX; clear hX hb4 HB3
          go_wp2_with fail
          refine (G2.out _ AX cX HX.out).mono ?_
          rintro e5 w5 ⟨AY, cY, rfl, hY, hb5⟩
          have HB5 := Lib.hid (HB4.out.trans (hb5.mono HB4.out.size))
          have HX := Lib.hid (HX.out.below hb5)
          have HY := Lib.hid hY; clear hY hb5 HB4
          go_wp2_with fail
          refine (G3.out _ HB5.out).mono ?_
          rintro e6 w6 ⟨AZ, cZ, rfl, hZ, hb6⟩
          have HB6 := Lib.hid (HB5.out.trans (hb6.mono HB5.out.size))
          have HY := Lib.hid (HY.out.below hb6)
          have HZ := Lib.hid hZ; clear hZ hb6 HB5
          go_wp2_with fail
          have HB9 := HB6; clear HB6
          refine (S1.out _ HB9.out).mono ?_
          rintro e10 w10 ⟨AU, cU, rfl, hU, hb10⟩
          have HB10 := Lib.hid (HB9.out.trans (hb10.mono HB9.out.size))
          have HU := Lib.hid hU; clear hU hb10 HB9
          go_wp2_with fail
          refine (S2.out _ AU cU HU.out).mono ?_
          rintro e11 w11 ⟨AV, cV, rfl, hV, hb11⟩
          have HB11 := Lib.hid (HB10.out.trans (hb11.mono HB10.out.size))
          have HU := Lib.hid (HU.out.below hb11)
          have HV := Lib.hid hV; clear hV hb11 HB10
          go_wp2_with fail
          refine (S3.out _ HB11.out).mono ?_
          rintro e12 w12 ⟨AW, cW, rfl, hW, hb12⟩
          have HB12 := Lib.hid (HB11.out.trans (hb12.mono HB11.out.size))
          have HV := Lib.hid (HV.out.below hb12)
          have HW := Lib.hid hW; clear hW hb12 HB11
          go_wp2_with fail
          go_ret
          exact ⟨rfl, HB12.out⟩
      · clear HV
        rcases hk with rfl | rfl
        · refine (G1.out _ HB3.out).mono ?_
          rintro e4 w4 ⟨AX, cX, rfl, hX, hb4⟩
          have HB4 := Lib.hid (HB3.out.trans (hb4.mono HB3.out.size))
          have HX := Lib.hid hX; clear hX hb4 HB3
          go_wp2_with fail
          refine (G2.out _ AX cX HX.out).mono ?_
          rintro e5 w5 ⟨AY, cY, rfl, hY, hb5⟩
          have HB5 := Lib.hid (HB4.out.trans (hb5.mono HB4.out.size))
          have HX := Lib.hid (HX.out.below hb5)
          have HY := Lib.hid hY; clear hY hb5 HB4
          go_wp2_with fail
          refine (G3.out _ HB5.out).mono ?_
          rintro e6 w6 ⟨AZ, cZ, rfl, hZ, hb6⟩
          have HB6 := Lib.hid (HB5.out.trans (hb6.mono HB5.out.size))
          have HY := Lib.hid (HY.out.below hb6)
          have HZ := Lib.hid hZ; clear hZ hb6 HB5
          go_wp2_with fail
          have HB9 := HB6; clear HB6
          refine (S1.out _ HB9.out).mono ?_
          rintro e10 w10 ⟨AU, cU, rfl, hU, hb10⟩
          have HB10 := Lib.hid (HB9.out.trans (hb10.mono HB9.out.size))
          have HU := Lib.hid hU; clear hU hb10 HB9
          go_wp2_with fail
          refine (S2.out _ AU cU HU.out).mono ?_
          rintro e11 w11 ⟨AV, cV, rfl, hV, hb11⟩
          have HB11 := Lib.hid (HB10.out.trans (hb11.mono HB10.out.size))
          have HU := Lib.hid (HU.out.below hb11)
          have HV := Lib.hid hV; clear hV hb11 HB10
          go_wp2_with fail
          refine (S3.out _ HB11.out).mono ?_
          rintro e12 w12 ⟨AW, cW, rfl, hW, hb12⟩
          have HB12 := Lib.hid (HB11.out.trans (hb12.mono HB11.out.size))
          have HV := Lib.hid (HV.out.below hb12)
          have HW := Lib.hid hW; clear hW hb12 HB11
          go_wp2_with fail
          go_ret
          exact ⟨rfl, HB12.out⟩
        · refine (G1.out _ HB3.out).mono ?_
          rintro e4 w4 ⟨AX, cX, rfl, hX, hb4⟩
          have HB4 := Lib.hid (HB3.out.trans (hb4.mono HB3.out.size))
          have HX := Lib.hid hX; clear hX hb4 HB3
          go_wp2_with fail
          refine (G2.out _ AX cX HX.out).mono ?_
          rintro e5 w5 ⟨AY, cY, rfl, hY, hb5⟩
          have HB5 := Lib.hid (HB4.out.trans (hb5.mono HB4.out.size))
          have HX := Lib.hid (HX.out.below hb5)
          have HY := Lib.hid hY; clear hY hb5 HB4
          go_wp2_with fail
          refine (G3.out _ HB5.out).mono ?_
          rintro e6 w6 ⟨AZ, cZ, rfl, hZ, hb6⟩
          have HB6 := Lib.hid (HB5.out.trans (hb6.mono HB5.out.size))
          have HY := Lib.hid (HY.out.below hb6)
          have HZ := Lib.hid hZ; clear hZ hb6 HB5
          go_wp2_with fail
          have HB9 := HB6; clear HB6
          refine (S1.out _ HB9.out).mono ?_
          rintro e10 w10 ⟨AU, cU, rfl, hU, hb10⟩
          have HB10 := Lib.hid (HB9.out.trans (hb10.mono HB9.out.size))
          have HU := Lib.hid hU; clear hU hb10 HB9
          go_wp2_with fail
          refine (S2.out _ AU cU HU.out).mono ?_
          rintro e11 w11 ⟨AV, cV, rfl, hV, hb11⟩
          have HB11 := Lib.hid (HB10.out.trans (hb11.mono HB10.out.size))
          have HU := Lib.hid (HU.out.below hb11)
          have HV := Lib.hid hV; clear hV hb11 HB10
          go_wp2_with fail
          refine (S3.out _ HB11.out).mono ?_
          rintro e12 w12 ⟨AW, cW, rfl, hW, hb12⟩
          have HB12 := Lib.hid (HB11.out.trans (hb12.mono HB11.out.size))
          have HV := Lib.hid (HV.out.below hb12)
          have HW := Lib.hid hW; clear hW hb12 HB11
          go_wp2_with fail
          go_ret
          exact ⟨rfl, HB12.out⟩
  · clear HY
    rcases hg with rfl | rfl
    · rcases hh with rfl | rfl
      · have EVW : Hid (V = W) := Lib.hid (HV.out rfl).2
        obtain rfl : i = k := (HV.out rfl).1
        clear HV
        rcases hk with rfl | rfl
        · refine (G1.out _ HB3.out).mono ?_
          rintro e4 w4 ⟨AX, cX, rfl, hX, hb4⟩
          have HB4 := Lib.hid (HB3.out.trans (hb4.mono HB3.out.size))
          have HX := Lib.hid hX; clear hX hb4 HB3
          go_wp2_with fail
          refine (G2.out _ AX cX HX.out).mono ?_
          rintro e5 w5 ⟨AY, cY, rfl, hY, hb5⟩
          have HB5 := Lib.hid (HB4.out.trans (hb5.mono HB4.out.size))
          have HX := Lib.hid (HX.out.below hb5)
          have HY := Lib.hid hY; clear hY hb5 HB4
          go_wp2_with fail
          refine (G3.out _ HB5.out).mono ?_
          rintro e6 w6 ⟨AZ, cZ, rfl, hZ, hb6⟩
          have HB6 := Lib.hid (HB5.out.trans (hb6.mono HB5.out.size))
          have HY := Lib.hid (HY.out.below hb6)
          have HZ := Lib.hid hZ; clear hZ hb6 HB5
          go_wp2_with fail
          have HB9 := HB6; clear HB6
          refine (S1.out _ HB9.out).mono ?_
          rintro e10 w10 ⟨AU, cU, rfl, hU, hb10⟩
          have HB10 := Lib.hid (HB9.out.trans (hb10.mono HB9.out.size))
          have HU := Lib.hid hU; clear hU hb10 HB9
          go_wp2_with fail
          refine (S2.out _ AU cU HU.out).mono ?_
          rintro e11 w11 ⟨AV, cV, rfl, hV, hb11⟩
          have HB11 := Lib.hid (HB10.out.trans (hb11.mono HB10.out.size))
          have HU := Lib.hid (HU.out.below hb11)
          have HV := Lib.hid hV; clear hV hb11 HB10
          go_wp2_with fail
          refine (S3.out _ HB11.out).mono ?_
          rintro e12 w12 ⟨AW, cW, rfl, hW, hb12⟩
          have HB12 := Lib.hid (HB11.out.trans (hb12.mono HB11.out.size))
          have HV := Lib.hid (HV.out.below hb12)
          have HW := Lib.hid hW; clear hW hb12 HB11
          go_wp2_with fail
          refine (vsame_rin AV cV AW cW V W _ HV.out HW.out).mono ?_
          rw [decide_eq_true EVW.out]
          rintro e13 w13 ⟨rfl, hb13⟩
          have HB13 := Lib.hid (HB12.out.trans (hb13.mono HB12.out.size)); clear hb13 HB12
          go_wp2_with fail
          go_ret
          exact ⟨rfl, HB13.out⟩
        · refine (G1.out _ HB3.out).mono ?_
          rintro e4 w4 ⟨AX, cX, rfl, hX, hb4⟩
          have HB4 := Lib.hid (HB3.out.trans (hb4.mono HB3.out.size))
          have HX := Lib.hid hX; clear hX hb4 HB3
          go_wp2_with fail
          refine (G2.out _ AX cX HX.out).mono ?_
          rintro e5 w5 ⟨AY, cY, rfl, hY, hb5⟩
          have HB5 := Lib.hid (HB4.out.trans (hb5.mono HB4.out.size))
          have HX := Lib.hid (HX.out.below hb5)
          have HY := Lib.hid hY; clear hY hb5 HB4
          go_wp2_with fail
          refine (G3.out _ HB5.out).mono ?_
          rintro e6 w6 ⟨AZ, cZ, rfl, hZ, hb6⟩
          have HB6 := Lib.hid (HB5.out.trans (hb6.mono HB5.out.size))
          have HY := Lib.hid (HY.out.below hb6)
          have HZ := Lib.hid hZ; clear hZ hb6 HB5
          go_wp2_with fail
          have HB9 := HB6; clear HB6
          refine (S1.out _ HB9.out).mono ?_
          rintro e10 w10 ⟨AU, cU, rfl, hU, hb10⟩
          have HB10 := Lib.hid (HB9.out.trans (hb10.mono HB9.out.size))
          have HU := Lib.hid hU; clear hU hb10 HB9
          go_wp2_with fail
          refine (S2.out _ AU cU HU.out).mono ?_
          rintro e11 w11 ⟨AV, cV, rfl, hV, hb11⟩
          have HB11 := Lib.hid (HB10.out.trans (hb11.mono HB10.out.size))
          have HU := Lib.hid (HU.out.below hb11)
          have HV := Lib.hid hV; clear hV hb11 HB10
          go_wp2_with fail
          refine (S3.out _ HB11.out).mono ?_
          rintro e12 w12 ⟨AW, cW, rfl, hW, hb12⟩
          have HB12 := Lib.hid (HB11.out.trans (hb12.mono HB11.out.size))
          have HV := Lib.hid (HV.out.below hb12)
          have HW := Lib.hid hW; clear hW hb12 HB11
          go_wp2_with fail
          go_ret
          exact ⟨rfl, HB12.out⟩
      · clear HV
        rcases hk with rfl | rfl
        · refine (G1.out _ HB3.out).mono ?_
          rintro e4 w4 ⟨AX, cX, rfl, hX, hb4⟩
          have HB4 := Lib.hid (HB3.out.trans (hb4.mono HB3.out.size))
          have HX := Lib.hid hX; clear hX hb4 HB3
          go_wp2_with fail
          refine (G2.out _ AX cX HX.out).mono ?_
          rintro e5 w5 ⟨AY, cY, rfl, hY, hb5⟩
          have HB5 := Lib.hid (HB4.out.trans (hb5.mono HB4.out.size))
          have HX := Lib.hid (HX.out.below hb5)
          have HY := Lib.hid hY; clear hY hb5 HB4
          go_wp2_with fail
          refine (G3.out _ HB5.out).mono ?_
          rintro e6 w6 ⟨AZ, cZ, rfl, hZ, hb6⟩
          have HB6 := Lib.hid (HB5.out.trans (hb6.mono HB5.out.size))
          have HY := Lib.hid (HY.out.below hb6)
          have HZ := Lib.hid hZ; clear hZ hb6 HB5
          go_wp2_with fail
          have HB9 := HB6; clear HB6
          refine (S1.out _ HB9.out).mono ?_
          rintro e10 w10 ⟨AU, cU, rfl, hU, hb10⟩
          have HB10 := Lib.hid (HB9.out.trans (hb10.mono HB9.out.size))
          have HU := Lib.hid hU; clear hU hb10 HB9
          go_wp2_with fail
          refine (S2.out _ AU cU HU.out).mono ?_
          rintro e11 w11 ⟨AV, cV, rfl, hV, hb11⟩
          have HB11 := Lib.hid (HB10.out.trans (hb11.mono HB10.out.size))
          have HU := Lib.hid (HU.out.below hb11)
          have HV := Lib.hid hV; clear hV hb11 HB10
          go_wp2_with fail
          refine (S3.out _ HB11.out).mono ?_
          rintro e12 w12 ⟨AW, cW, rfl, hW, hb12⟩
          have HB12 := Lib.hid (HB11.out.trans (hb12.mono HB11.out.size))
          have HV := Lib.hid (HV.out.below hb12)
          have HW := Lib.hid hW; clear hW hb12 HB11
          go_wp2_with fail
          go_ret
          exact ⟨rfl, HB12.out⟩
        · refine (G1.out _ HB3.out).mono ?_
          rintro e4 w4 ⟨AX, cX, rfl, hX, hb4⟩
          have HB4 := Lib.hid (HB3.out.trans (hb4.mono HB3.out.size))
          have HX := Lib.hid hX; clear hX hb4 HB3
          go_wp2_with fail
          refine (G2.out _ AX cX HX.out).mono ?_
          rintro e5 w5 ⟨AY, cY, rfl, hY, hb5⟩
          have HB5 := Lib.hid (HB4.out.trans (hb5.mono HB4.out.size))
          have HX := Lib.hid (HX.out.below hb5)
          have HY := Lib.hid hY; clear hY hb5 HB4
          go_wp2_with fail
          refine (G3.out _ HB5.out).mono ?_
          rintro e6 w6 ⟨AZ, cZ, rfl, hZ, hb6⟩
          have HB6 := Lib.hid (HB5.out.trans (hb6.mono HB5.out.size))
          have HY := Lib.hid (HY.out.below hb6)
          have HZ := Lib.hid hZ; clear hZ hb6 HB5
          go_wp2_with fail
          have HB9 := HB6; clear HB6
          refine (S1.out _ HB9.out).mono ?_
          rintro e10 w10 ⟨AU, cU, rfl, hU, hb10⟩
          have HB10 := Lib.hid (HB9.out.trans (hb10.mono HB9.out.size))
          have HU := Lib.hid hU; clear hU hb10 HB9
          go_wp2_with fail
          refine (S2.out _ AU cU HU.out).mono ?_
          rintro e11 w11 ⟨AV, cV, rfl, hV, hb11⟩
          have HB11 := Lib.hid (HB10.out.trans (hb11.mono HB10.out.size))
          have HU := Lib.hid (HU.out.below hb11)
          have HV := Lib.hid hV; clear hV hb11 HB10
          go_wp2_with fail
          refine (S3.out _ HB11.out).mono ?_
          rintro e12 w12 ⟨AW, cW, rfl, hW, hb12⟩
          have HB12 := Lib.hid (HB11.out.trans (hb12.mono HB11.out.size))
          have HV := Lib.hid (HV.out.below hb12)
          have HW := Lib.hid hW; clear hW hb12 HB11
          go_wp2_with fail
          go_ret
          exact ⟨rfl, HB12.out⟩
    · rcases hh with rfl | rfl
      · have EVW : Hid (V = W) := Lib.hid (HV.out rfl).2
        obtain rfl : i = k := (HV.out rfl).1
        clear HV
        rcases hk with rfl | rfl
        · refine (G1.out _ HB3.out).mono ?_
          rintro e4 w4 ⟨AX, cX, rfl, hX, hb4⟩
          have HB4 := Lib.hid (HB3.out.trans (hb4.mono HB3.out.size))
          have HX := Lib.hid hX; clear hX hb4 HB3
          go_wp2_with fail
          refine (G2.out _ AX cX HX.out).mono ?_
          rintro e5 w5 ⟨AY, cY, rfl, hY, hb5⟩
          have HB5 := Lib.hid (HB4.out.trans (hb5.mono HB4.out.size))
          have HX := Lib.hid (HX.out.below hb5)
          have HY := Lib.hid hY; clear hY hb5 HB4
          go_wp2_with fail
          refine (G3.out _ HB5.out).mono ?_
          rintro e6 w6 ⟨AZ, cZ, rfl, hZ, hb6⟩
          have HB6 := Lib.hid (HB5.out.trans (hb6.mono HB5.out.size))
          have HY := Lib.hid (HY.out.below hb6)
          have HZ := Lib.hid hZ; clear hZ hb6 HB5
          go_wp2_with fail
          have HB9 := HB6; clear HB6
          refine (S1.out _ HB9.out).mono ?_
          rintro e10 w10 ⟨AU, cU, rfl, hU, hb10⟩
          have HB10 := Lib.hid (HB9.out.trans (hb10.mono HB9.out.size))
          have HU := Lib.hid hU; clear hU hb10 HB9
          go_wp2_with fail
          refine (S2.out _ AU cU HU.out).mono ?_
          rintro e11 w11 ⟨AV, cV, rfl, hV, hb11⟩
          have HB11 := Lib.hid (HB10.out.trans (hb11.mono HB10.out.size))
          have HU := Lib.hid (HU.out.below hb11)
          have HV := Lib.hid hV; clear hV hb11 HB10
          go_wp2_with fail
          refine (S3.out _ HB11.out).mono ?_
          rintro e12 w12 ⟨AW, cW, rfl, hW, hb12⟩
          have HB12 := Lib.hid (HB11.out.trans (hb12.mono HB11.out.size))
          have HV := Lib.hid (HV.out.below hb12)
          have HW := Lib.hid hW; clear hW hb12 HB11
          go_wp2_with fail
          refine (vsame_rin AV cV AW cW V W _ HV.out HW.out).mono ?_
          rw [decide_eq_true EVW.out]
          rintro e13 w13 ⟨rfl, hb13⟩
          have HB13 := Lib.hid (HB12.out.trans (hb13.mono HB12.out.size)); clear hb13 HB12
          go_wp2_with fail
          go_ret
          exact ⟨rfl, HB13.out⟩
        · refine (G1.out _ HB3.out).mono ?_
          rintro e4 w4 ⟨AX, cX, rfl, hX, hb4⟩
          have HB4 := Lib.hid (HB3.out.trans (hb4.mono HB3.out.size))
          have HX := Lib.hid hX; clear hX hb4 HB3
          go_wp2_with fail
          refine (G2.out _ AX cX HX.out).mono ?_
          rintro e5 w5 ⟨AY, cY, rfl, hY, hb5⟩
          have HB5 := Lib.hid (HB4.out.trans (hb5.mono HB4.out.size))
          have HX := Lib.hid (HX.out.below hb5)
          have HY := Lib.hid hY; clear hY hb5 HB4
          go_wp2_with fail
          refine (G3.out _ HB5.out).mono ?_
          rintro e6 w6 ⟨AZ, cZ, rfl, hZ, hb6⟩
          have HB6 := Lib.hid (HB5.out.trans (hb6.mono HB5.out.size))
          have HY := Lib.hid (HY.out.below hb6)
          have HZ := Lib.hid hZ; clear hZ hb6 HB5
          go_wp2_with fail
          have HB9 := HB6; clear HB6
          refine (S1.out _ HB9.out).mono ?_
          rintro e10 w10 ⟨AU, cU, rfl, hU, hb10⟩
          have HB10 := Lib.hid (HB9.out.trans (hb10.mono HB9.out.size))
          have HU := Lib.hid hU; clear hU hb10 HB9
          go_wp2_with fail
          refine (S2.out _ AU cU HU.out).mono ?_
          rintro e11 w11 ⟨AV, cV, rfl, hV, hb11⟩
          have HB11 := Lib.hid (HB10.out.trans (hb11.mono HB10.out.size))
          have HU := Lib.hid (HU.out.below hb11)
          have HV := Lib.hid hV; clear hV hb11 HB10
          go_wp2_with fail
          refine (S3.out _ HB11.out).mono ?_
          rintro e12 w12 ⟨AW, cW, rfl, hW, hb12⟩
          have HB12 := Lib.hid (HB11.out.trans (hb12.mono HB11.out.size))
          have HV := Lib.hid (HV.out.below hb12)
          have HW := Lib.hid hW; clear hW hb12 HB11
          go_wp2_with fail
          go_ret
          exact ⟨rfl, HB12.out⟩
      · clear HV
        rcases hk with rfl | rfl
        · refine (G1.out _ HB3.out).mono ?_
          rintro e4 w4 ⟨AX, cX, rfl, hX, hb4⟩
          have HB4 := Lib.hid (HB3.out.trans (hb4.mono HB3.out.size))
          have HX := Lib.hid hX; clear hX hb4 HB3
          go_wp2_with fail
          refine (G2.out _ AX cX HX.out).mono ?_
          rintro e5 w5 ⟨AY, cY, rfl, hY, hb5⟩
          have HB5 := Lib.hid (HB4.out.trans (hb5.mono HB4.out.size))
          have HX := Lib.hid (HX.out.below hb5)
          have HY := Lib.hid hY; clear hY hb5 HB4
          go_wp2_with fail
          refine (G3.out _ HB5.out).mono ?_
          rintro e6 w6 ⟨AZ, cZ, rfl, hZ, hb6⟩
          have HB6 := Lib.hid (HB5.out.trans (hb6.mono HB5.out.size))
          have HY := Lib.hid (HY.out.below hb6)
          have HZ := Lib.hid hZ; clear hZ hb6 HB5
          go_wp2_with fail
          have HB9 := HB6; clear HB6
          refine (S1.out _ HB9.out).mono ?_
          rintro e10 w10 ⟨AU, cU, rfl, hU, hb10⟩
          have HB10 := Lib.hid (HB9.out.trans (hb10.mono HB9.out.size))
          have HU := Lib.hid hU; clear hU hb10 HB9
          go_wp2_with fail
          refine (S2.out _ AU cU HU.out).mono ?_
          rintro e11 w11 ⟨AV, cV, rfl, hV, hb11⟩
          have HB11 := Lib.hid (HB10.out.trans (hb11.mono HB10.out.size))
          have HU := Lib.hid (HU.out.below hb11)
          have HV := Lib.hid hV; clear hV hb11 HB10
          go_wp2_with fail
          refine (S3.out _ HB11.out).mono ?_
          rintro e12 w12 ⟨AW, cW, rfl, hW, hb12⟩
          have HB12 := Lib.hid (HB11.out.trans (hb12.mono HB11.out.size))
          have HV := Lib.hid (HV.out.below hb12)
          have HW := Lib.hid hW; clear hW hb12 HB11
          go_wp2_with fail
          go_ret
          exact ⟨rfl, HB12.out⟩
        · refine (G1.out _ HB3.out).mono ?_
          rintro e4 w4 ⟨AX, cX, rfl, hX, hb4⟩
          have HB4 := Lib.hid (HB3.out.trans (hb4.mono HB3.out.size))
          have HX := Lib.hid hX; clear hX hb4 HB3
          go_wp2_with fail
          refine (G2.out _ AX cX HX.out).mono ?_
          rintro e5 w5 ⟨AY, cY, rfl, hY, hb5⟩
          have HB5 := Lib.hid (HB4.out.trans (hb5.mono HB4.out.size))
          have HX := Lib.hid (HX.out.below hb5)
          have HY := Lib.hid hY; clear hY hb5 HB4
          go_wp2_with fail
          refine (G3.out _ HB5.out).mono ?_
          rintro e6 w6 ⟨AZ, cZ, rfl, hZ, hb6⟩
          have HB6 := Lib.hid (HB5.out.trans (hb6.mono HB5.out.size))
          have HY := Lib.hid (HY.out.below hb6)
          have HZ := Lib.hid hZ; clear hZ hb6 HB5
          go_wp2_with fail
          have HB9 := HB6; clear HB6
          refine (S1.out _ HB9.out).mono ?_
          rintro e10 w10 ⟨AU, cU, rfl, hU, hb10⟩
          have HB10 := Lib.hid (HB9.out.trans (hb10.mono HB9.out.size))
          have HU := Lib.hid hU; clear hU hb10 HB9
          go_wp2_with fail
          refine (S2.out _ AU cU HU.out).mono ?_
          rintro e11 w11 ⟨AV, cV, rfl, hV, hb11⟩
          have HB11 := Lib.hid (HB10.out.trans (hb11.mono HB10.out.size))
          have HU := Lib.hid (HU.out.below hb11)
          have HV := Lib.hid hV; clear hV hb11 HB10
          go_wp2_with fail
          refine (S3.out _ HB11.out).mono ?_
          rintro e12 w12 ⟨AW, cW, rfl, hW, hb12⟩
          have HB12 := Lib.hid (HB11.out.trans (hb12.mono HB11.out.size))
          have HV := Lib.hid (HV.out.below hb12)
          have HW := Lib.hid hW; clear hW hb12 HB11
          go_wp2_with fail
          go_ret
          exact ⟨rfl, HB12.out⟩
end Go.Proofs.Ytcnojedijimheaa
namespace Go.Proofs.Ytcnojedijimheaa
open Go.RowKit

set_option maxHeartbeats 40000000 in
theorem zadds_any (A : Option Addr) (c : Nat) (a : List Rc) (d n : Int) (w : World) (hra : RRow w A a) (hca : a.length ≤ c) (hcb : c ≤ 9223372036854775807) (hd : -9223372036854775808 ≤ d ∧ d ≤ 9223372036854775807) (hn : -9223372036854775808 ≤ n ∧ n ≤ 9223372036854775807) :
    Calls Try.prog 6 #[.slice A a.length c, .int .i64 d, .int .i64 n] w (BlIs true w) := by
  by_cases h24 : a.length ≤ 24
  · have hA : RIn w A c a := ⟨hra, by omega, hca, hcb⟩
    by_cases hr : RegP a
    · by_cases hok : 0 ≤ d ∧ 0 ≤ n ∧ d + n ≤ 1048576
      · obtain ⟨h0, h1, h2⟩ := hok
        refine zadds_core A c a (growM a d).1 (growM (growM a d).1 n).1 (growM a (d + n)).1 (shrinkM a d).1 (shrinkM (shrinkM a d).1 n).1 (shrinkM a (d + n)).1 d n (growM a d).2 (growM (growM a d).1 n).2 (growM a (d + n)).2 (shrinkM a d).2 (shrinkM (shrinkM a d).1 n).2 (shrinkM a (d + n)).2 w hA h24 hr h0 h1 h2
          (fun w' hb => ygrow_rg A c a d w' (hA.below hb)) (fun w' A1 c1 h => ygrow_rg A1 c1 _ n w' h) (fun w' hb => ygrow_rg A c a (d + n) w' (hA.below hb))
          (fun w' hb => yshrink_rg A c a d w' (hA.below hb)) (fun w' A1 c1 h => yshrink_rg A1 c1 _ n w' h) (fun w' hb => yshrink_rg A c a (d + n) w' (hA.below hb))
          ?_ ?_ ?_ ?_ (fun he => ?_) (fun he => ?_)
        · rw [growM_yes hr h0 (by omega)]; exact capR_err _
        · rw [growM_yes hr (by omega) h2]; exact capR_err _
        · rw [shrinkM_yes hr h0 (by omega)]; exact capR_err _
        · rw [shrinkM_yes hr (by omega) h2]; exact capR_err _
        · rw [adds_gro hr h0 h1 h2 he]; exact ⟨rfl, rfl⟩
        · rw [adds_ero hr h0 h1 h2 he]; exact ⟨rfl, rfl⟩
      · have HR := Lib.hid (fun w' (hb : Below w.heap.size w w') => vRight_rin (hA.below hb) hr)
        have HF : Hid (decide (a.length ≤ 24) = true) := Lib.hid (decide_eq_true h24)
        clear hA h24 hr hra hca hcb
        by_cases c0 : d < 0
        · clear hok
          go_enter Try.func6, Try.ntmps6
          go_wp2_with fail
          refine (zsmall_any _).mono ?_
          rintro e1 w1 ⟨rfl, hb1⟩
          have HB1 := Lib.hid hb1; clear hb1
          go_wp2_with fail
          refine (zfew_any A c a _).mono ?_
          rw [HF.out]
          rintro e2 w2 ⟨rfl, hb2⟩
          have HB2 := Lib.hid (HB1.out.trans (hb2.mono HB1.out.size)); clear hb2 HB1
          go_wp2_with fail
          refine (HR.out _ HB2.out).mono ?_
          rintro e3 w3 ⟨rfl, hb3⟩
          have HB3 := Lib.hid (HB2.out.trans (hb3.mono HB2.out.size)); clear hb3 HB2 HR
          go_wp2_with fail
          go_ret
          exact ⟨rfl, HB3.out⟩
        · by_cases c1 : n < 0
          · clear hok
            go_enter Try.func6, Try.ntmps6
            go_wp2_with fail
            refine (zsmall_any _).mono ?_
            rintro e1 w1 ⟨rfl, hb1⟩
            have HB1 := Lib.hid hb1; clear hb1
            go_wp2_with fail
            refine (zfew_any A c a _).mono ?_
            rw [HF.out]
            rintro e2 w2 ⟨rfl, hb2⟩
            have HB2 := Lib.hid (HB1.out.trans (hb2.mono HB1.out.size)); clear hb2 HB1
            go_wp2_with fail
            refine (HR.out _ HB2.out).mono ?_
            rintro e3 w3 ⟨rfl, hb3⟩
            have HB3 := Lib.hid (HB2.out.trans (hb3.mono HB2.out.size)); clear hb3 HB2 HR
            go_wp2_with fail
            go_ret
            exact ⟨rfl, HB3.out⟩
          · by_cases c2 : 1048576 < d
            · clear hok
              go_enter Try.func6, Try.ntmps6
              go_wp2_with fail
              refine (zsmall_any _).mono ?_
              rintro e1 w1 ⟨rfl, hb1⟩
              have HB1 := Lib.hid hb1; clear hb1
              go_wp2_with fail
              refine (zfew_any A c a _).mono ?_
              rw [HF.out]
              rintro e2 w2 ⟨rfl, hb2⟩
              have HB2 := Lib.hid (HB1.out.trans (hb2.mono HB1.out.size)); clear hb2 HB1
              go_wp2_with fail
              refine (HR.out _ HB2.out).mono ?_
              rintro e3 w3 ⟨rfl, hb3⟩
              have HB3 := Lib.hid (HB2.out.trans (hb3.mono HB2.out.size)); clear hb3 HB2 HR
              go_wp2_with fail
              go_ret
              exact ⟨rfl, HB3.out⟩
            · have c3 : 1048576 - d < n := by omega
              have q3 : IntKind.i64.wrap (1048576 - d) = 1048576 - d := IntWalk.i64_in _ (by omega)
              clear hok
              go_enter Try.func6, Try.ntmps6
              go_wp2_with fail
              refine (zsmall_any _).mono ?_
              rintro e1 w1 ⟨rfl, hb1⟩
              have HB1 := Lib.hid hb1; clear hb1
              go_wp2_with fail
              refine (zfew_any A c a _).mono ?_
              rw [HF.out]
              rintro e2 w2 ⟨rfl, hb2⟩
              have HB2 := Lib.hid (HB1.out.trans (hb2.mono HB1.out.size)); clear hb2 HB1
              go_wp2_with fail
              refine (HR.out _ HB2.out).mono ?_
              rintro e3 w3 ⟨rfl, hb3⟩
              have HB3 := Lib.hid (HB2.out.trans (hb3.mono HB2.out.size)); clear hb3 HB2 HR
              go_wp2_with fail
              go_ret
              exact ⟨rfl, HB3.out⟩
    · have HR := Lib.hid (fun w' (hb : Below w.heap.size w w') => vRight_rin_no (hA.below hb) hr)
      have HF : Hid (decide (a.length ≤ 24) = true) := Lib.hid (decide_eq_true h24)
      clear hA h24 hr hra hca hcb
      go_enter Try.func6, Try.ntmps6
      go_wp2_with fail
      refine (zsmall_any _).mono ?_
      rintro e1 w1 ⟨rfl, hb1⟩
      have HB1 := Lib.hid hb1; clear hb1
      go_wp2_with fail
      refine (zfew_any A c a _).mono ?_
      rw [HF.out]
      rintro e2 w2 ⟨rfl, hb2⟩
      have HB2 := Lib.hid (HB1.out.trans (hb2.mono HB1.out.size)); clear hb2 HB1
      go_wp2_with fail
      refine (HR.out _ HB2.out).mono ?_
      rintro e3 w3 ⟨rfl, hb3⟩
      have HB3 := Lib.hid (HB2.out.trans (hb3.mono HB2.out.size)); clear hb3 HB2 HR
      go_wp2_with fail
      go_ret
      exact ⟨rfl, HB3.out⟩
  · have HF : Hid (decide (a.length ≤ 24) = false) := Lib.hid (decide_eq_false h24)
    clear h24 hra hca hcb
    go_enter Try.func6, Try.ntmps6
    go_wp2_with fail
    refine (zsmall_any _).mono ?_
    rintro e1 w1 ⟨rfl, hb1⟩
    have HB1 := Lib.hid hb1; clear hb1
    go_wp2_with fail
    refine (zfew_any A c a _).mono ?_
    rw [HF.out]
    rintro e2 w2 ⟨rfl, hb2⟩
    have HB2 := Lib.hid (HB1.out.trans (hb2.mono HB1.out.size)); clear hb2 HB1
    go_wp2_with fail
    go_ret
    exact ⟨rfl, HB2.out⟩
end Go.Proofs.Ytcnojedijimheaa
