/-
  The laws of layer 9: same; the walks of SolidTells and SolidOf.
-/
import Derived.Test.YtdnoadngfkiabaaGreatS941
import Derived.Test.YtdnoadngfkiabaaGreatS943
import Derived.Test.YtdnoadngfkiabaaGreatS919
import Derived.Test.YtdnoadngfkiabaaGreatS944
import Derived.Test.YtdnoadngfkiabaaGreatS948
import Derived.Test.YtdnoadngfkiabaaGreatS949
import Derived.Test.YtdnoadngfkiabaaGreatS942
import Derived.Test.YtdnoadngfkiabaaGreatS946
set_option linter.unusedVariables false
set_option maxRecDepth 100000
namespace Go.Proofs.YtdnoadngfkiabaaGreat
open Go.RowKit

def RSb (S : List Sl) (n : Nat) (er : Int) (w : World) (e : Ending) (w' : World) : Prop := ∃ A c, e = .returned (.tuple #[.slice A n c, .int .i64 er]) ∧ SIn w' A c S ∧ Below w.heap.size w w'
theorem rsb {S : List Sl} {n : Nat} {er : Int} {x : List Sl × Int} {w : World} {f : Nat} {args : Array Value} (h : Calls Tryz.prog f args w (SolRes x w)) (hx : x = (S, er)) (hn : n = S.length) : Calls Tryz.prog f args w (RSb S n er w) := by
  subst hx; subst hn; exact h
/-- rectangles that a call gave. -/
def RRb (F : List Rc) (n : Nat) (w : World) (e : Ending) (w' : World) : Prop := ∃ A c, e = .returned (.slice A n c) ∧ RRow w' A F ∧ Below w.heap.size w w'
theorem rrb {F : List Rc} {n : Nat} {w : World} {f : Nat} {args : Array Value} (h : Calls Tryz.prog f args w (RcRes F w)) (hn : n = F.length) : Calls Tryz.prog f args w (RRb F n w) := by
  subst hn
  refine h.mono fun e w' hk => ?_
  obtain ⟨v, rfl, ho, hb⟩ := hk
  obtain ⟨A, c, rfl, hr, _⟩ := own_rects ho
  exact ⟨A, c, rfl, hr, hb⟩
/-- boxes that a call gave. -/
def BBb (F : List Bx) (n : Nat) (w : World) (e : Ending) (w' : World) : Prop := ∃ A c, e = .returned (.slice A n c) ∧ BxRow w' A F ∧ Below w.heap.size w w'
theorem bbb {F : List Bx} {n : Nat} {w : World} {f : Nat} {args : Array Value} (h : Calls Tryz.prog f args w (BxRes F w)) (hn : n = F.length) : Calls Tryz.prog f args w (BBb F n w) := by
  subst hn
  refine h.mono fun e w' hk => ?_
  obtain ⟨v, rfl, ho, hb⟩ := hk
  obtain ⟨A, c, rfl, hr, _⟩ := own_boxes ho
  exact ⟨A, c, rfl, hr, hb⟩
theorem sameS_true {S : List Sl} {w : World} {f : Nat} {args : Array Value} (h : Calls Tryz.prog f args w (SameIs S S w)) : Calls Tryz.prog f args w (BlIs true w) := by
  refine h.mono fun e w' hk => ?_
  obtain ⟨b, hb, hk⟩ := hk
  obtain rfl : b = true := hb.2 rfl
  exact hk
theorem same_dec {S T : List Sl} {w : World} {f : Nat} {args : Array Value} (h : Calls Tryz.prog f args w (SameIs S T w)) : Calls Tryz.prog f args w (BlIs (@decide (S = T) (Classical.propDecidable _)) w) := by
  refine h.mono fun e w' hk => ?_
  obtain ⟨b, hb, hk⟩ := hk
  have : b = @decide (S = T) (Classical.propDecidable _) := by
    by_cases e : S = T
    · rw [@decide_eq_true _ (Classical.propDecidable _) e]; exact hb.2 e
    · rw [@decide_eq_false _ (Classical.propDecidable _) e]
      cases b
      · rfl
      · exact absurd (hb.1 rfl) e
  rw [← this]; exact hk

/-- what the functions of a list of slabs give, the same on both sides. -/
structure Fn9 (Sa Sb : List Sl) (x y z : Int) (R : Bool) (V Tp : Int) (H E : Bool) (SC : List Rc) (BX : List Bx) : Prop where
  r1 : ∀ w A c, SIn w A c Sa → Calls Tryz.prog 19 #[.slice A Sa.length c] w (BlIs R w)
  r2 : ∀ w A c, SIn w A c Sa → Calls Tryz.prog 26 #[.slice A Sa.length c] w (BlIs R w)
  v1 : ∀ w A c, SIn w A c Sa → Calls Tryz.prog 14 #[.slice A Sa.length c] w (InIs V w)
  v2 : ∀ w A c, SIn w A c Sa → Calls Tryz.prog 27 #[.slice A Sa.length c] w (InIs V w)
  t1 : ∀ w A c, SIn w A c Sa → Calls Tryz.prog 15 #[.slice A Sa.length c, .int .i64 x, .int .i64 y] w (InIs Tp w)
  t2 : ∀ w A c, SIn w A c Sa → Calls Tryz.prog 28 #[.slice A Sa.length c, .int .i64 x, .int .i64 y] w (InIs Tp w)
  h1 : ∀ w A c, SIn w A c Sa → Calls Tryz.prog 18 #[.slice A Sa.length c, .int .i64 x, .int .i64 y, .int .i64 z] w (BlIs H w)
  h2 : ∀ w A c, SIn w A c Sa → Calls Tryz.prog 29 #[.slice A Sa.length c, .int .i64 x, .int .i64 y, .int .i64 z] w (BlIs H w)
  s1 : ∀ w A c, SIn w A c Sa → Calls Tryz.prog 16 #[.slice A Sa.length c, .int .i64 z] w (RRb SC SC.length w)
  s2 : ∀ w A c, SIn w A c Sa → Calls Tryz.prog 25 #[.slice A Sa.length c, .int .i64 z] w (RRb SC SC.length w)
  x1 : ∀ w A c, SIn w A c Sa → Calls Tryz.prog 17 #[.slice A Sa.length c] w (BBb BX BX.length w)
  x2 : ∀ w A c, SIn w A c Sa → Calls Tryz.prog 32 #[.slice A Sa.length c] w (BBb BX BX.length w)
  e1 : ∀ w A c A' c', SIn w A c Sa → SIn w A' c' Sb → Calls Tryz.prog 13 #[.slice A Sa.length c, .slice A' Sb.length c'] w (BlIs E w)
  e2 : ∀ w A c A' c', SIn w A c Sa → SIn w A' c' Sb → Calls Tryz.prog 10 #[.slice A Sa.length c, .slice A' Sb.length c'] w (BlIs E w)
  sl : SC.length ≤ 1099511627776
  bl : BX.length ≤ 1099511627776
theorem fn9 (Sa Sb : List Sl) (x y z : Int) : ∃ R V Tp H E SC BX, Fn9 Sa Sb x y z R V Tp H E SC BX := by
  have E1 := fun w A c A' c' (h : SIn w A c Sa) (k : SIn w A' c' Sb) => same_dec (bsame_any A c A' c' Sa Sb w h k)
  have E2 := fun w A c A' c' (h : SIn w A c Sa) (k : SIn w A' c' Sb) => same_dec (dsame_any A c A' c' Sa Sb w h k)
  by_cases hs : SolP Sa
  · have h1 := secS_len hs z
    have h2 := boxesS_len hs.rects
    have h3 := hs.len
    exact ⟨true, _, _, _, _, _, _, ⟨fun w A c h => bright_yes h hs, fun w A c h => dright_yes h hs, fun w A c h => bvolume_yes h hs, fun w A c h => dvolume_yes h hs, fun w A c h => btop_yes h hs x y, fun w A c h => dtop_yes h hs x y, fun w A c h => bhas_any A c Sa x y z w h, fun w A c h => dhas_any A c Sa x y z w h, fun w A c h => rrb (bsection_yes h hs z) rfl, fun w A c h => rrb (dsection_yes h hs z) rfl, fun w A c h => bbb (bboxes_yes h hs) rfl, fun w A c h => bbb (dboxes_yes h hs) rfl, E1, E2, by omega, by omega⟩⟩
  · exact ⟨false, _, _, _, _, _, _, ⟨fun w A c h => bright_no h hs, fun w A c h => dright_no h hs, fun w A c h => bvolume_no h hs, fun w A c h => dvolume_no h hs, fun w A c h => btop_no h hs x y, fun w A c h => dtop_no h hs x y, fun w A c h => bhas_any A c Sa x y z w h, fun w A c h => dhas_any A c Sa x y z w h, fun w A c h => rrb (bsection_no h hs z) rfl, fun w A c h => rrb (dsection_no h hs z) rfl, fun w A c h => bbb (bboxes_no h hs) rfl, fun w A c h => bbb (dboxes_no h hs) rfl, E1, E2, by simp, by simp⟩⟩
set_option maxHeartbeats 40000000 in
theorem csame_any (Aa : Option Addr) (ca : Nat) (Sa : List Sl) (Ab : Option Addr) (cb : Nat) (Sb : List Sl) (x y z : Int) (w : World) (ha : SIn w Aa ca Sa) (hb0 : SIn w Ab cb Sb) :
    Calls Tryz.prog 7 #[.slice Aa Sa.length ca, .slice Ab Sb.length cb, .int .i64 x, .int .i64 y, .int .i64 z] w (BlIs true w) := by
  obtain ⟨R, V, Tp, H, E, SC, BX, HF⟩ := fn9 Sa Sb x y z
  obtain ⟨U1, r1, hU⟩ : ∃ U r, opS or Sa Sb = (U, r) := ⟨_, _, rfl⟩
  obtain ⟨U2, r2, hC⟩ : ∃ U r, opS and Sa Sb = (U, r) := ⟨_, _, rfl⟩
  obtain ⟨U3, r3, hM⟩ : ∃ U r, opS andnot Sa Sb = (U, r) := ⟨_, _, rfl⟩
  obtain ⟨n1, hn1⟩ : ∃ n, n = U1.length := ⟨_, rfl⟩
  obtain ⟨n2, hn2⟩ : ∃ n, n = U2.length := ⟨_, rfl⟩
  obtain ⟨n3, hn3⟩ : ∃ n, n = U3.length := ⟨_, rfl⟩
  have F1 := Lib.hid (fun w' (h : SIn w' Aa ca Sa) (k : SIn w' Ab cb Sb) => rsb (bunion_any Aa ca Ab cb Sa Sb w' h k) hU hn1)
  have F2 := Lib.hid (fun w' (h : SIn w' Aa ca Sa) (k : SIn w' Ab cb Sb) => rsb (dunion_any Aa ca Sa Ab cb Sb w' h k) hU hn1)
  have F3 := Lib.hid (fun w' (h : SIn w' Aa ca Sa) (k : SIn w' Ab cb Sb) => rsb (bcommon_any Aa ca Ab cb Sa Sb w' h k) hC hn2)
  have F4 := Lib.hid (fun w' (h : SIn w' Aa ca Sa) (k : SIn w' Ab cb Sb) => rsb (dcommon_any Aa ca Sa Ab cb Sb w' h k) hC hn2)
  have F5 := Lib.hid (fun w' (h : SIn w' Aa ca Sa) (k : SIn w' Ab cb Sb) => rsb (bminus_any Aa ca Ab cb Sa Sb w' h k) hM hn3)
  have F6 := Lib.hid (fun w' (h : SIn w' Aa ca Sa) (k : SIn w' Ab cb Sb) => rsb (dminus_any Aa ca Sa Ab cb Sb w' h k) hM hn3)
  have F7 : Hid (∀ w' A c A' c', SIn w' A c U1 → SIn w' A' c' U1 → Calls Tryz.prog 10 #[.slice A n1 c, .slice A' n1 c'] w' (BlIs true w')) := Lib.hid (fun w' A c A' c' h k => by rw [hn1]; exact sameS_true (dsame_any A c A' c' U1 U1 w' h k))
  have F8 : Hid (∀ w' A c A' c', SIn w' A c U2 → SIn w' A' c' U2 → Calls Tryz.prog 10 #[.slice A n2 c, .slice A' n2 c'] w' (BlIs true w')) := Lib.hid (fun w' A c A' c' h k => by rw [hn2]; exact sameS_true (dsame_any A c A' c' U2 U2 w' h k))
  have F9 : Hid (∀ w' A c A' c', SIn w' A c U3 → SIn w' A' c' U3 → Calls Tryz.prog 10 #[.slice A n3 c, .slice A' n3 c'] w' (BlIs true w')) := Lib.hid (fun w' A c A' c' h k => by rw [hn3]; exact sameS_true (dsame_any A c A' c' U3 U3 w' h k))
  obtain ⟨ns, hns⟩ : ∃ n, n = SC.length := ⟨_, rfl⟩
  obtain ⟨nx, hnx⟩ : ∃ n, n = BX.length := ⟨_, rfl⟩
  obtain ⟨G1, G2, G3, G4, G5, G6, G7, G8, G9, G10, G11, G12, G13, G14, hsl, hbl⟩ := HF
  rw [← hns] at G9 G10
  rw [← hnx] at G11 G12
  have G15 : Hid (∀ w' A c A' c', RRow w' A SC → RRow w' A' SC → Calls Tryz.prog 30 #[.slice A ns c, .slice A' ns c'] w' (BlIs true w')) := Lib.hid (fun w' A c A' c' h k => by
    have := crects_any A c A' c' SC SC w' h k hsl hsl
    rw [decide_eq_true rfl] at this
    rw [hns]; exact this)
  have G16 : Hid (∀ w' A c A' c', BxRow w' A BX → BxRow w' A' BX → Calls Tryz.prog 31 #[.slice A nx c, .slice A' nx c'] w' (BlIs true w')) := Lib.hid (fun w' A c A' c' h k => by
    have := dsb_any A c A' c' BX BX w' h k hbl hbl
    rw [decide_eq_true rfl] at this
    rw [hnx]; exact this)
  have K1 := Lib.hid G1; have K2 := Lib.hid G2; have K3 := Lib.hid G3; have K4 := Lib.hid G4; have K5 := Lib.hid G5; have K6 := Lib.hid G6; have K7 := Lib.hid G7; have K8 := Lib.hid G8
  have K9 := Lib.hid G9; have K10 := Lib.hid G10; have K11 := Lib.hid G11; have K12 := Lib.hid G12; have K13 := Lib.hid G13; have K14 := Lib.hid G14
  clear G1 G2 G3 G4 G5 G6 G7 G8 G9 G10 G11 G12 G13 G14 hsl hbl hns hnx hU hC hM hn1 hn2 hn3
  have e0 : (R == R) = true := by simp
  have e1 : (V == V) = true := by simp
  have e2 : (Tp == Tp) = true := by simp
  have e3 : (H == H) = true := by simp
  have e4 : (E == E) = true := by simp
  have e5 : (r1 == r1) = true := by simp
  have e6 : (r2 == r2) = true := by simp
  have e7 : (r3 == r3) = true := by simp
  have La := Lib.hid ha; have Lb := Lib.hid hb0
  have HB := Lib.hid (Below.refl w.heap.size w)
  clear ha hb0
  go_enter Tryz.func7, Tryz.ntmps7
  go_wp2_with fail
  with_reducible refine Calls.mono (F1.out _ La.out Lb.out) ?_
  rintro e w1 ⟨A1, c1, rfl, hs, hb⟩
  replace La := Lib.hid (La.out.below hb)
  replace Lb := Lib.hid (Lb.out.below hb)
  replace HB := Lib.hid (HB.out.trans (hb.mono HB.out.size))
  have L1 := Lib.hid hs
  clear hb hs F1
  go_wp2_with fail
  with_reducible refine Calls.mono (F2.out _ La.out Lb.out) ?_
  rintro e w2 ⟨A2, c2, rfl, hs, hb⟩
  replace La := Lib.hid (La.out.below hb)
  replace Lb := Lib.hid (Lb.out.below hb)
  replace L1 := Lib.hid (L1.out.below hb)
  replace HB := Lib.hid (HB.out.trans (hb.mono HB.out.size))
  have L2 := Lib.hid hs
  clear hb hs F2
  go_wp2_with fail
  with_reducible refine Calls.mono (F3.out _ La.out Lb.out) ?_
  rintro e w3 ⟨A3, c3, rfl, hs, hb⟩
  replace La := Lib.hid (La.out.below hb)
  replace Lb := Lib.hid (Lb.out.below hb)
  replace L1 := Lib.hid (L1.out.below hb)
  replace L2 := Lib.hid (L2.out.below hb)
  replace HB := Lib.hid (HB.out.trans (hb.mono HB.out.size))
  have L3 := Lib.hid hs
  clear hb hs F3
  go_wp2_with fail
  with_reducible refine Calls.mono (F4.out _ La.out Lb.out) ?_
  rintro e w4 ⟨A4, c4, rfl, hs, hb⟩
  replace La := Lib.hid (La.out.below hb)
  replace Lb := Lib.hid (Lb.out.below hb)
  replace L1 := Lib.hid (L1.out.below hb)
  replace L2 := Lib.hid (L2.out.below hb)
  replace L3 := Lib.hid (L3.out.below hb)
  replace HB := Lib.hid (HB.out.trans (hb.mono HB.out.size))
  have L4 := Lib.hid hs
  clear hb hs F4
  go_wp2_with fail
  with_reducible refine Calls.mono (F5.out _ La.out Lb.out) ?_
  rintro e w5 ⟨A5, c5, rfl, hs, hb⟩
  replace La := Lib.hid (La.out.below hb)
  replace Lb := Lib.hid (Lb.out.below hb)
  replace L1 := Lib.hid (L1.out.below hb)
  replace L2 := Lib.hid (L2.out.below hb)
  replace L3 := Lib.hid (L3.out.below hb)
  replace L4 := Lib.hid (L4.out.below hb)
  replace HB := Lib.hid (HB.out.trans (hb.mono HB.out.size))
  have L5 := Lib.hid hs
  clear hb hs F5
  go_wp2_with fail
  with_reducible refine Calls.mono (F6.out _ La.out Lb.out) ?_
  rintro e w6 ⟨A6, c6, rfl, hs, hb⟩
  replace La := Lib.hid (La.out.below hb)
  replace Lb := Lib.hid (Lb.out.below hb)
  replace L1 := Lib.hid (L1.out.below hb)
  replace L2 := Lib.hid (L2.out.below hb)
  replace L3 := Lib.hid (L3.out.below hb)
  replace L4 := Lib.hid (L4.out.below hb)
  replace L5 := Lib.hid (L5.out.below hb)
  replace HB := Lib.hid (HB.out.trans (hb.mono HB.out.size))
  have L6 := Lib.hid hs
  clear hb hs F6
  go_wp2_with fail
  with_reducible refine Calls.mono (F7.out _ _ _ _ _ L1.out L2.out) ?_
  rintro e w7 ⟨rfl, hb⟩
  replace La := Lib.hid (La.out.below hb)
  replace Lb := Lib.hid (Lb.out.below hb)
  replace L1 := Lib.hid (L1.out.below hb)
  replace L2 := Lib.hid (L2.out.below hb)
  replace L3 := Lib.hid (L3.out.below hb)
  replace L4 := Lib.hid (L4.out.below hb)
  replace L5 := Lib.hid (L5.out.below hb)
  replace L6 := Lib.hid (L6.out.below hb)
  replace HB := Lib.hid (HB.out.trans (hb.mono HB.out.size))
  clear hb F7
  go_wp2_with fail
  with_reducible refine Calls.mono (F8.out _ _ _ _ _ L3.out L4.out) ?_
  rintro e w8 ⟨rfl, hb⟩
  replace La := Lib.hid (La.out.below hb)
  replace Lb := Lib.hid (Lb.out.below hb)
  replace L3 := Lib.hid (L3.out.below hb)
  replace L4 := Lib.hid (L4.out.below hb)
  replace L5 := Lib.hid (L5.out.below hb)
  replace L6 := Lib.hid (L6.out.below hb)
  replace HB := Lib.hid (HB.out.trans (hb.mono HB.out.size))
  clear hb F8
  go_wp2_with fail
  with_reducible refine Calls.mono (F9.out _ _ _ _ _ L5.out L6.out) ?_
  rintro e w9 ⟨rfl, hb⟩
  replace La := Lib.hid (La.out.below hb)
  replace Lb := Lib.hid (Lb.out.below hb)
  replace L5 := Lib.hid (L5.out.below hb)
  replace L6 := Lib.hid (L6.out.below hb)
  replace HB := Lib.hid (HB.out.trans (hb.mono HB.out.size))
  clear hb F9
  clear L1 L2 L3 L4 L5 L6
  go_wp2_with fail
  with_reducible refine Calls.mono (K9.out _ _ _ La.out) ?_
  rintro e w10 ⟨As, cs, rfl, hs, hb⟩
  replace La := Lib.hid (La.out.below hb)
  replace Lb := Lib.hid (Lb.out.below hb)
  replace HB := Lib.hid (HB.out.trans (hb.mono HB.out.size))
  have Ls1 := Lib.hid hs
  clear hb hs K9
  go_wp2_with fail
  with_reducible refine Calls.mono (K10.out _ _ _ La.out) ?_
  rintro e w11 ⟨At, ct, rfl, hs, hb⟩
  replace La := Lib.hid (La.out.below hb)
  replace Lb := Lib.hid (Lb.out.below hb)
  replace Ls1 := Lib.hid (Ls1.out.below hb)
  replace HB := Lib.hid (HB.out.trans (hb.mono HB.out.size))
  have Ls2 := Lib.hid hs
  clear hb hs K10
  go_wp2_with fail
  with_reducible refine Calls.mono (K1.out _ _ _ La.out) ?_
  rintro e w12 ⟨rfl, hb⟩
  replace La := Lib.hid (La.out.below hb)
  replace Lb := Lib.hid (Lb.out.below hb)
  replace Ls1 := Lib.hid (Ls1.out.below hb)
  replace Ls2 := Lib.hid (Ls2.out.below hb)
  replace HB := Lib.hid (HB.out.trans (hb.mono HB.out.size))
  clear hb K1
  go_wp2_with fail
  with_reducible refine Calls.mono (K2.out _ _ _ La.out) ?_
  rintro e w13 ⟨rfl, hb⟩
  replace La := Lib.hid (La.out.below hb)
  replace Lb := Lib.hid (Lb.out.below hb)
  replace Ls1 := Lib.hid (Ls1.out.below hb)
  replace Ls2 := Lib.hid (Ls2.out.below hb)
  replace HB := Lib.hid (HB.out.trans (hb.mono HB.out.size))
  clear hb K2
  go_wp2_with fail
  with_reducible refine Calls.mono (K3.out _ _ _ La.out) ?_
  rintro e w14 ⟨rfl, hb⟩
  replace La := Lib.hid (La.out.below hb)
  replace Lb := Lib.hid (Lb.out.below hb)
  replace Ls1 := Lib.hid (Ls1.out.below hb)
  replace Ls2 := Lib.hid (Ls2.out.below hb)
  replace HB := Lib.hid (HB.out.trans (hb.mono HB.out.size))
  clear hb K3
  go_wp2_with fail
  with_reducible refine Calls.mono (K4.out _ _ _ La.out) ?_
  rintro e w15 ⟨rfl, hb⟩
  replace La := Lib.hid (La.out.below hb)
  replace Lb := Lib.hid (Lb.out.below hb)
  replace Ls1 := Lib.hid (Ls1.out.below hb)
  replace Ls2 := Lib.hid (Ls2.out.below hb)
  replace HB := Lib.hid (HB.out.trans (hb.mono HB.out.size))
  clear hb K4
  go_wp2_with fail
  with_reducible refine Calls.mono (K5.out _ _ _ La.out) ?_
  rintro e w16 ⟨rfl, hb⟩
  replace La := Lib.hid (La.out.below hb)
  replace Lb := Lib.hid (Lb.out.below hb)
  replace Ls1 := Lib.hid (Ls1.out.below hb)
  replace Ls2 := Lib.hid (Ls2.out.below hb)
  replace HB := Lib.hid (HB.out.trans (hb.mono HB.out.size))
  clear hb K5
  go_wp2_with fail
  with_reducible refine Calls.mono (K6.out _ _ _ La.out) ?_
  rintro e w17 ⟨rfl, hb⟩
  replace La := Lib.hid (La.out.below hb)
  replace Lb := Lib.hid (Lb.out.below hb)
  replace Ls1 := Lib.hid (Ls1.out.below hb)
  replace Ls2 := Lib.hid (Ls2.out.below hb)
  replace HB := Lib.hid (HB.out.trans (hb.mono HB.out.size))
  clear hb K6
  go_wp2_with fail
  with_reducible refine Calls.mono (K7.out _ _ _ La.out) ?_
  rintro e w18 ⟨rfl, hb⟩
  replace La := Lib.hid (La.out.below hb)
  replace Lb := Lib.hid (Lb.out.below hb)
  replace Ls1 := Lib.hid (Ls1.out.below hb)
  replace Ls2 := Lib.hid (Ls2.out.below hb)
  replace HB := Lib.hid (HB.out.trans (hb.mono HB.out.size))
  clear hb K7
  go_wp2_with fail
  with_reducible refine Calls.mono (K8.out _ _ _ La.out) ?_
  rintro e w19 ⟨rfl, hb⟩
  replace La := Lib.hid (La.out.below hb)
  replace Lb := Lib.hid (Lb.out.below hb)
  replace Ls1 := Lib.hid (Ls1.out.below hb)
  replace Ls2 := Lib.hid (Ls2.out.below hb)
  replace HB := Lib.hid (HB.out.trans (hb.mono HB.out.size))
  clear hb K8
  go_wp2_with fail
  with_reducible refine Calls.mono (G15.out _ _ _ _ _ Ls1.out Ls2.out) ?_
  rintro e w20 ⟨rfl, hb⟩
  replace La := Lib.hid (La.out.below hb)
  replace Lb := Lib.hid (Lb.out.below hb)
  replace Ls1 := Lib.hid (Ls1.out.below hb)
  replace Ls2 := Lib.hid (Ls2.out.below hb)
  replace HB := Lib.hid (HB.out.trans (hb.mono HB.out.size))
  clear hb G15
  clear Ls1 Ls2
  go_wp2_with fail
  with_reducible refine Calls.mono (K11.out _ _ _ La.out) ?_
  rintro e w21 ⟨Ax, cx, rfl, hs, hb⟩
  replace La := Lib.hid (La.out.below hb)
  replace Lb := Lib.hid (Lb.out.below hb)
  replace HB := Lib.hid (HB.out.trans (hb.mono HB.out.size))
  have Lx1 := Lib.hid hs
  clear hb hs K11
  go_wp2_with fail
  with_reducible refine Calls.mono (K12.out _ _ _ La.out) ?_
  rintro e w22 ⟨Ay, cy, rfl, hs, hb⟩
  replace La := Lib.hid (La.out.below hb)
  replace Lb := Lib.hid (Lb.out.below hb)
  replace Lx1 := Lib.hid (Lx1.out.below hb)
  replace HB := Lib.hid (HB.out.trans (hb.mono HB.out.size))
  have Lx2 := Lib.hid hs
  clear hb hs K12
  go_wp2_with fail
  with_reducible refine Calls.mono (G16.out _ _ _ _ _ Lx1.out Lx2.out) ?_
  rintro e w23 ⟨rfl, hb⟩
  replace La := Lib.hid (La.out.below hb)
  replace Lb := Lib.hid (Lb.out.below hb)
  replace Lx1 := Lib.hid (Lx1.out.below hb)
  replace Lx2 := Lib.hid (Lx2.out.below hb)
  replace HB := Lib.hid (HB.out.trans (hb.mono HB.out.size))
  clear hb G16
  clear Lx1 Lx2
  go_wp2_with fail
  with_reducible refine Calls.mono (K13.out _ _ _ _ _ La.out Lb.out) ?_
  rintro e w24 ⟨rfl, hb⟩
  replace La := Lib.hid (La.out.below hb)
  replace Lb := Lib.hid (Lb.out.below hb)
  replace HB := Lib.hid (HB.out.trans (hb.mono HB.out.size))
  clear hb K13
  go_wp2_with fail
  with_reducible refine Calls.mono (K14.out _ _ _ _ _ La.out Lb.out) ?_
  rintro e w25 ⟨rfl, hb⟩
  replace La := Lib.hid (La.out.below hb)
  replace Lb := Lib.hid (Lb.out.below hb)
  replace HB := Lib.hid (HB.out.trans (hb.mono HB.out.size))
  clear hb K14
  go_wp2_with fail
  go_ret
  exact ⟨rfl, HB.out⟩

set_option maxHeartbeats 16000000 in
theorem tells9_walk (A : Option Addr) (cap : Nat) (S : List Sl) (B : Option Addr) (cb : Nat) (T : List Sl) (x y z : Int) (w : World) (h1 : SlRow0 w A S) (hc1 : S.length ≤ cap) (hs1 : cap ≤ 9223372036854775807) (h2 : SlRow0 w B T) (hc2 : T.length ≤ cb) (hs2 : cb ≤ 9223372036854775807) :
    Calls Tryz.prog 3 #[.slice A S.length cap, .slice B T.length cb, .int .i64 x, .int .i64 y, .int .i64 z] w (BlIs true w) := by
  have HSM := Lib.hid (fun w' => csmall_any w')
  have HF1 := Lib.hid (fun w' (hb : Below w.heap.size w w') => cfew_any A cap S w' (h1.below hb) (by omega))
  have HF2 := Lib.hid (fun w' (hb : Below w.heap.size w w') => cfew_any B cb T w' (h2.below hb) (by omega))
  have HI1 := Lib.hid (fun hf => few9_in h1 hc1 hs1 hf)
  have HI2 := Lib.hid (fun hf => few9_in h2 hc2 hs2 hf)
  clear h1 h2 hc1 hs1 hc2 hs2
  have HB0 := Lib.hid (Below.refl w.heap.size w)
  go_enter Tryz.func3, Tryz.ntmps3
  go_wp2_with fail
  with_reducible refine Calls.mono (HSM.out _) ?_
  rintro e w1 ⟨rfl, hb⟩
  have HB1 := Lib.hid (HB0.out.trans (hb.mono HB0.out.size))
  clear hb HB0 HSM
  by_cases hf1 : Few9 S
  case neg =>
    rw [show few9 S = false from by rw [← Bool.not_eq_true, few9_iff]; exact hf1] at HF1
    clear HF2 HI1 HI2 hf1
    go_wp2_with fail
    with_reducible refine Calls.mono (HF1.out _ HB1.out) ?_
    rintro e w2 ⟨rfl, hb⟩
    have HB2 := Lib.hid (HB1.out.trans (hb.mono HB1.out.size))
    clear hb HB1 HF1
    go_wp2_with fail
    go_ret
    exact ⟨rfl, HB2.out⟩
  case pos =>
    rw [show few9 S = true from (few9_iff S).2 hf1] at HF1
    have HS := Lib.hid (HI1.out hf1)
    clear HI1 hf1
    go_wp2_with fail
    with_reducible refine Calls.mono (HF1.out _ HB1.out) ?_
    rintro e w2 ⟨rfl, hb⟩
    have HB2 := Lib.hid (HB1.out.trans (hb.mono HB1.out.size))
    clear hb HB1 HF1
    by_cases hf2 : Few9 T
    case neg =>
      rw [show few9 T = false from by rw [← Bool.not_eq_true, few9_iff]; exact hf2] at HF2
      clear HI2 hf2 HS
      go_wp2_with fail
      with_reducible refine Calls.mono (HF2.out _ HB2.out) ?_
      rintro e w3 ⟨rfl, hb⟩
      have HB3 := Lib.hid (HB2.out.trans (hb.mono HB2.out.size))
      clear hb HB2 HF2
      go_wp2_with fail
      go_ret
      exact ⟨rfl, HB3.out⟩
    case pos =>
      rw [show few9 T = true from (few9_iff T).2 hf2] at HF2
      have HT := Lib.hid (HI2.out hf2)
      clear HI2 hf2
      go_wp2_with fail
      with_reducible refine Calls.mono (HF2.out _ HB2.out) ?_
      rintro e w3 ⟨rfl, hb⟩
      have HB3 := Lib.hid (HB2.out.trans (hb.mono HB2.out.size))
      clear hb HB2 HF2
      have HSA := Lib.hid (csame_any A cap S B cb T x y z w3 (HS.out.below HB3.out) (HT.out.below HB3.out))
      clear HS HT
      go_wp2_with fail
      with_reducible refine Calls.mono HSA.out ?_
      rintro e w4 ⟨rfl, hb⟩
      have HB4 := Lib.hid (HB3.out.trans (hb.mono HB3.out.size))
      clear hb HB3 HSA
      go_wp2_with fail
      go_ret
      exact ⟨rfl, HB4.out⟩
set_option maxHeartbeats 16000000 in
theorem of9_walk (A : Option Addr) (cap : Nat) (a : List Bx) (B : Option Addr) (cb : Nat) (b : List Bx) (x y z : Int) (w : World) (ha : BIn w A cap a) (hb0 : BIn w B cb b) :
    Calls Tryz.prog 4 #[.slice A a.length cap, .slice B b.length cb, .int .i64 x, .int .i64 y, .int .i64 z] w (BlIs true w) := by
  have HSM := Lib.hid (fun w' => csmall_any w')
  have HA := Lib.hid ha.row
  have HBR := Lib.hid hb0.row
  have a1 := ha.len
  have b1 := hb0.len
  clear ha hb0
  have HB0 := Lib.hid (Below.refl w.heap.size w)
  go_enter Tryz.func4, Tryz.ntmps4
  go_wp2_with fail
  with_reducible refine Calls.mono (HSM.out _) ?_
  rintro e w1 ⟨rfl, hb⟩
  have HB1 := Lib.hid (HB0.out.trans (hb.mono HB0.out.size))
  clear hb HB0 HSM
  by_cases c0 : 12 < (a.length : Int)
  case pos =>
    clear HA HBR
    go_wp2_with fail
    go_ret
    exact ⟨rfl, HB1.out⟩
  case neg =>
  by_cases c1 : 12 < (b.length : Int)
  case pos =>
    clear HA HBR
    go_wp2_with fail
    go_ret
    exact ⟨rfl, HB1.out⟩
  case neg =>
  obtain ⟨U1, r1, hU⟩ : ∃ U r, ofS a = (U, r) := ⟨_, _, rfl⟩
  obtain ⟨U2, r2, hV⟩ : ∃ U r, ofS b = (U, r) := ⟨_, _, rfl⟩
  obtain ⟨n1, hn1⟩ : ∃ n, n = U1.length := ⟨_, rfl⟩
  obtain ⟨n2, hn2⟩ : ∃ n, n = U2.length := ⟨_, rfl⟩
  have F1 := Lib.hid (fun w' (hb : Below w.heap.size w w') => rsb (bof_any A cap a w' (HA.out.below hb) (by omega)) hU hn1)
  have F2 := Lib.hid (fun w' (hb : Below w.heap.size w w') => rsb (dof_any A cap a w' (HA.out.below hb) (by omega)) hU hn1)
  have F3 := Lib.hid (fun w' (hb : Below w.heap.size w w') => rsb (dof_any B cb b w' (HBR.out.below hb) (by omega)) hV hn2)
  have F7 : Hid (∀ w' A c A' c', SIn w' A c U1 → SIn w' A' c' U1 → Calls Tryz.prog 10 #[.slice A n1 c, .slice A' n1 c'] w' (BlIs true w')) := Lib.hid (fun w' A c A' c' h k => by rw [hn1]; exact sameS_true (dsame_any A c A' c' U1 U1 w' h k))
  have F8 : Hid (∀ w' A c A' c', SIn w' A c U1 → SIn w' A' c' U2 → Calls Tryz.prog 7 #[.slice A n1 c, .slice A' n2 c', .int .i64 x, .int .i64 y, .int .i64 z] w' (BlIs true w')) := Lib.hid (fun w' A c A' c' h k => by rw [hn1, hn2]; exact csame_any A c U1 A' c' U2 x y z w' h k)
  have e5 : (r1 == r1) = true := by simp
  clear hU hV hn1 hn2 HA HBR
  go_wp2_with fail
  with_reducible refine Calls.mono (F1.out _ HB1.out) ?_
  rintro e w2 ⟨A1, q1, rfl, hs, hb⟩
  have HB2 := Lib.hid (HB1.out.trans (hb.mono HB1.out.size))
  have L1 := Lib.hid hs
  clear hb hs HB1 F1
  go_wp2_with fail
  with_reducible refine Calls.mono (F2.out _ HB2.out) ?_
  rintro e w3 ⟨A2, q2, rfl, hs, hb⟩
  have HB3 := Lib.hid (HB2.out.trans (hb.mono HB2.out.size))
  replace L1 := Lib.hid (L1.out.below hb)
  have L2 := Lib.hid hs
  clear hb hs HB2 F2
  go_wp2_with fail
  with_reducible refine Calls.mono (F3.out _ HB3.out) ?_
  rintro e w4 ⟨A3, q3, rfl, hs, hb⟩
  have HB4 := Lib.hid (HB3.out.trans (hb.mono HB3.out.size))
  replace L1 := Lib.hid (L1.out.below hb)
  replace L2 := Lib.hid (L2.out.below hb)
  have L3 := Lib.hid hs
  clear hb hs HB3 F3
  go_wp2_with fail
  with_reducible refine Calls.mono (F7.out _ _ _ _ _ L1.out L2.out) ?_
  rintro e w5 ⟨rfl, hb⟩
  have HB5 := Lib.hid (HB4.out.trans (hb.mono HB4.out.size))
  replace L2 := Lib.hid (L2.out.below hb)
  replace L3 := Lib.hid (L3.out.below hb)
  clear hb HB4 F7 L1
  go_wp2_with fail
  with_reducible refine Calls.mono (F8.out _ _ _ _ _ L2.out L3.out) ?_
  rintro e w6 ⟨rfl, hb⟩
  have HB6 := Lib.hid (HB5.out.trans (hb.mono HB5.out.size))
  clear hb HB5 F8 L2 L3
  go_wp2_with fail
  go_ret
  exact ⟨rfl, HB6.out⟩

end Go.Proofs.YtdnoadngfkiabaaGreat
