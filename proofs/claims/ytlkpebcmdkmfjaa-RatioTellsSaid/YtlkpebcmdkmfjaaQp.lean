/-
  The walk of RatioTells.
-/
import Derived.Test.YtlkpebcmdkmfjaaQk
set_option linter.unusedVariables false
set_option maxRecDepth 100000
namespace Go.Proofs.Ytlkpebcmdkmfjaa
open Go.RowKit

theorem two_boxes (a b : Fr) (w : World) : Keep [(w.heap.size + 1, b), (w.heap.size, a)] w ((w.alloc (.cells #[.int .i64 a.N, .int .i64 a.D] 23)).alloc (.cells #[.int .i64 b.N, .int .i64 b.D] 23)) :=
  ((Keep.nil w).new' a _ rfl).new' b _ (by simp)
/-- what the last region reads. -/
def Bx (p : Nat) (an ad bn bd : Int) (w0 w : World) : Prop :=
  w.cell? ⟨p, 0, none⟩ = some (.int .i64 an) ∧ w.cell? ⟨p, 1, none⟩ = some (.int .i64 ad) ∧ w.cell? ⟨p + 1, 0, none⟩ = some (.int .i64 bn) ∧ w.cell? ⟨p + 1, 1, none⟩ = some (.int .i64 bd) ∧ p < w.heap.size ∧ p + 1 < w.heap.size ∧ Hid (Below w0.heap.size w0 w)
theorem Bx.go {p : Nat} {an ad bn bd : Int} {w0 w w' : World} (h : Bx p an ad bn bd w0 w) (hb : Below w.heap.size w w') : Bx p an ad bn bd w0 w' := by
  obtain ⟨h1, h2, h3, h4, a, b, h7⟩ := h
  have hs := hb.size
  exact ⟨(hb.cell (p := ⟨p, 0, none⟩) a).trans h1, (hb.cell (p := ⟨p, 1, none⟩) a).trans h2, (hb.cell (p := ⟨p + 1, 0, none⟩) b).trans h3, (hb.cell (p := ⟨p + 1, 1, none⟩) b).trans h4, by omega, by omega, Lib.hid (h7.out.trans (hb.mono h7.out.size))⟩
theorem Bx.drewN {p : Nat} {an ad bn bd : Int} {w0 w : World} (h : Bx p an ad bn bd w0 w) (n : Nat) : Bx p an ad bn bd w0 (w.drewN n) := h.go (below_drewN (Below.refl _ _) n)

set_option maxHeartbeats 40000000 in
theorem tells_core (n d an ad bn bd xn xd xe sn sd se un ud ue c mn md gn gd fl ce : Int) (ok : Bool) (w : World)
    (Hx : Hid (∀ w, Calls Try.prog 10 #[.int .i64 n, .int .i64 d] w (FrIs (⟨xn, xd⟩, xe) w))) (Hy : Hid (∀ w, Calls Try.prog 11 #[.int .i64 n, .int .i64 d] w (FrIs (⟨xn, xd⟩, xe) w)))
    (Hs : Hid (∀ w, Calls Try.prog 12 #[.agg #[.int .i64 an, .int .i64 ad], .agg #[.int .i64 bn, .int .i64 bd]] w (FrIs (⟨sn, sd⟩, se) w))) (Ht : Hid (∀ w, Calls Try.prog 13 #[.agg #[.int .i64 an, .int .i64 ad], .agg #[.int .i64 bn, .int .i64 bd]] w (FrIs (⟨sn, sd⟩, se) w)))
    (Hu : Hid (∀ w, Calls Try.prog 14 #[.agg #[.int .i64 an, .int .i64 ad], .agg #[.int .i64 bn, .int .i64 bd]] w (FrIs (⟨un, ud⟩, ue) w))) (Hv : Hid (∀ w, Calls Try.prog 15 #[.agg #[.int .i64 an, .int .i64 ad], .agg #[.int .i64 bn, .int .i64 bd]] w (FrIs (⟨un, ud⟩, ue) w)))
    (Hr1 : Hid (∀ w, Calls Try.prog 16 #[.agg #[.int .i64 an, .int .i64 ad]] w (BlIs ok w))) (Hr2 : Hid (∀ w, Calls Try.prog 17 #[.agg #[.int .i64 an, .int .i64 ad]] w (BlIs ok w)))
    (Hc1 : Hid (∀ w, Calls Try.prog 18 #[.agg #[.int .i64 an, .int .i64 ad], .agg #[.int .i64 bn, .int .i64 bd]] w (InIs c w))) (Hc2 : Hid (∀ w, Calls Try.prog 19 #[.agg #[.int .i64 an, .int .i64 ad], .agg #[.int .i64 bn, .int .i64 bd]] w (InIs c w)))
    (Hm1 : Hid (∀ w, Calls Try.prog 20 #[.agg #[.int .i64 an, .int .i64 ad], .agg #[.int .i64 bn, .int .i64 bd]] w (FIs ⟨mn, md⟩ w))) (Hm2 : Hid (∀ w, Calls Try.prog 21 #[.agg #[.int .i64 an, .int .i64 ad], .agg #[.int .i64 bn, .int .i64 bd]] w (FIs ⟨mn, md⟩ w)))
    (Hg1 : Hid (∀ w, Calls Try.prog 22 #[.agg #[.int .i64 an, .int .i64 ad], .agg #[.int .i64 bn, .int .i64 bd]] w (FIs ⟨gn, gd⟩ w))) (Hg2 : Hid (∀ w, Calls Try.prog 23 #[.agg #[.int .i64 an, .int .i64 ad], .agg #[.int .i64 bn, .int .i64 bd]] w (FIs ⟨gn, gd⟩ w)))
    (Hf1 : Hid (∀ w, Calls Try.prog 24 #[.agg #[.int .i64 an, .int .i64 ad]] w (InIs fl w))) (Hf2 : Hid (∀ w, Calls Try.prog 25 #[.agg #[.int .i64 an, .int .i64 ad]] w (InIs fl w)))
    (He1 : Hid (∀ w, Calls Try.prog 26 #[.agg #[.int .i64 an, .int .i64 ad]] w (InIs ce w))) (He2 : Hid (∀ w, Calls Try.prog 27 #[.agg #[.int .i64 an, .int .i64 ad]] w (InIs ce w))) :
    Calls Try.prog 3 #[.int .i64 n, .int .i64 d, .agg #[.int .i64 an, .int .i64 ad], .agg #[.int .i64 bn, .int .i64 bd]] w (BlIs true w) := by
  have K0 := Lib.hid (two_boxes ⟨an, ad⟩ ⟨bn, bd⟩ w)
  go_enter Try.func3, Try.ntmps3
  go_wp2_with fail
  refine (small_any _).mono ?_
  rintro e1 w1 ⟨rfl, hb⟩
  have K1 := Lib.hid (K0.out.go hb); clear hb K0
  go_wp2_with fail
  refine (Hx.out _).mono ?_
  rintro e1 w2 ⟨rfl, hb⟩
  have K2 := Lib.hid ((K1.out.go hb).new ⟨xn, xd⟩); clear hb K1 
  go_wp2_with fail
  refine (Hy.out _).mono ?_
  rintro e1 w3 ⟨rfl, hb⟩
  have K3 := Lib.hid ((K2.out.go hb).new ⟨xn, xd⟩); clear hb K2 
  have c0a := K3.out.2.2.2.1.c0; have c0b := K3.out.2.2.2.1.c1; have c0l := K3.out.2.2.2.1.lt; have c1a := K3.out.2.2.1.c0; have c1b := K3.out.2.2.1.c1; have c1l := K3.out.2.2.1.lt
  go_wp2_with fail
  refine (Hs.out _).mono ?_
  rintro e1 w4 ⟨rfl, hb⟩
  have K4 := Lib.hid ((K3.out.go hb).new ⟨sn, sd⟩); clear hb K3 c0a c0b c0l c1a c1b c1l
  have c0a := K4.out.2.2.2.2.1.c0; have c0b := K4.out.2.2.2.2.1.c1; have c0l := K4.out.2.2.2.2.1.lt; have c1a := K4.out.2.2.2.1.c0; have c1b := K4.out.2.2.2.1.c1; have c1l := K4.out.2.2.2.1.lt
  go_wp2_with fail
  refine (Ht.out _).mono ?_
  rintro e1 w5 ⟨rfl, hb⟩
  have K5 := Lib.hid ((K4.out.go hb).new ⟨sn, sd⟩); clear hb K4 c0a c0b c0l c1a c1b c1l
  have c0a := K5.out.2.2.2.2.2.1.c0; have c0b := K5.out.2.2.2.2.2.1.c1; have c0l := K5.out.2.2.2.2.2.1.lt; have c1a := K5.out.2.2.2.2.1.c0; have c1b := K5.out.2.2.2.2.1.c1; have c1l := K5.out.2.2.2.2.1.lt
  go_wp2_with fail
  refine (Hu.out _).mono ?_
  rintro e1 w6 ⟨rfl, hb⟩
  have K6 := Lib.hid ((K5.out.go hb).new ⟨un, ud⟩); clear hb K5 c0a c0b c0l c1a c1b c1l
  have c0a := K6.out.2.2.2.2.2.2.1.c0; have c0b := K6.out.2.2.2.2.2.2.1.c1; have c0l := K6.out.2.2.2.2.2.2.1.lt; have c1a := K6.out.2.2.2.2.2.1.c0; have c1b := K6.out.2.2.2.2.2.1.c1; have c1l := K6.out.2.2.2.2.2.1.lt
  go_wp2_with fail
  refine (Hv.out _).mono ?_
  rintro e1 w7 ⟨rfl, hb⟩
  have K7 := Lib.hid ((K6.out.go hb).new ⟨un, ud⟩); clear hb K6 c0a c0b c0l c1a c1b c1l
  have c0a := K7.out.2.2.2.2.2.1.c0; have c0b := K7.out.2.2.2.2.2.1.c1; have c0l := K7.out.2.2.2.2.2.1.lt; have c1a := K7.out.2.2.2.2.1.c0; have c1b := K7.out.2.2.2.2.1.c1; have c1l := K7.out.2.2.2.2.1.lt; have c2a := K7.out.2.2.2.1.c0; have c2b := K7.out.2.2.2.1.c1; have c2l := K7.out.2.2.2.1.lt; have c3a := K7.out.2.2.1.c0; have c3b := K7.out.2.2.1.c1; have c3l := K7.out.2.2.1.lt; have c4a := K7.out.2.1.c0; have c4b := K7.out.2.1.c1; have c4l := K7.out.2.1.lt; have c5a := K7.out.1.c0; have c5b := K7.out.1.c1; have c5l := K7.out.1.lt
  go_wp2_with fail
  clear c0a c0b c0l c1a c1b c1l c2a c2b c2l c3a c3b c3l c4a c4b c4l c5a c5b c5l
  have KB : Bx w.heap.size an ad bn bd w _ := ⟨K7.out.2.2.2.2.2.2.2.1.c0, K7.out.2.2.2.2.2.2.2.1.c1, K7.out.2.2.2.2.2.2.1.c0, K7.out.2.2.2.2.2.2.1.c1, K7.out.2.2.2.2.2.2.2.1.lt, K7.out.2.2.2.2.2.2.1.lt, Lib.hid K7.out.below⟩
  have K := Lib.hid KB; clear KB K7
  generalize World.alloc w7 _ = wz at *
  generalize hp : w.heap.size = p at *
  have HP := Lib.hid hp; clear hp
  go_region_held3 (fun w' => w'.cell? ⟨p, 0, none⟩ = some (.int .i64 an) ∧ w'.cell? ⟨p, 1, none⟩ = some (.int .i64 ad) ∧ w'.cell? ⟨p + 1, 0, none⟩ = some (.int .i64 bn) ∧ w'.cell? ⟨p + 1, 1, none⟩ = some (.int .i64 bd) ∧ p < w'.heap.size ∧ p + 1 < w'.heap.size ∧ Hid (Below w.heap.size w w'))
    (first | exact K.out | exact Bx.drewN K.out 1 | exact Bx.go ‹_› ‹_›)
    (first
      | (go_at_call 16; refine (Hr1.out _).mono ?_; rintro e w' ⟨rfl, hb⟩)
      | (go_at_call 17; refine (Hr2.out _).mono ?_; rintro e w' ⟨rfl, hb⟩)
      | (go_at_call 18; refine (Hc1.out _).mono ?_; rintro e w' ⟨rfl, hb⟩)
      | (go_at_call 19; refine (Hc2.out _).mono ?_; rintro e w' ⟨rfl, hb⟩)
      | (go_at_call 20; refine (Hm1.out _).mono ?_; rintro e w' ⟨rfl, hb⟩)
      | (go_at_call 21; refine (Hm2.out _).mono ?_; rintro e w' ⟨rfl, hb⟩)
      | (go_at_call 22; refine (Hg1.out _).mono ?_; rintro e w' ⟨rfl, hb⟩)
      | (go_at_call 23; refine (Hg2.out _).mono ?_; rintro e w' ⟨rfl, hb⟩)
      | (go_at_call 24; refine (Hf1.out _).mono ?_; rintro e w' ⟨rfl, hb⟩)
      | (go_at_call 25; refine (Hf2.out _).mono ?_; rintro e w' ⟨rfl, hb⟩)
      | (go_at_call 26; refine (He1.out _).mono ?_; rintro e w' ⟨rfl, hb⟩)
      | (go_at_call 27; refine (He2.out _).mono ?_; rintro e w' ⟨rfl, hb⟩))
  go_wp2
  have K9 : Bx p an ad bn bd w w' := by assumption
  go_ret
  exact ⟨rfl, K9.2.2.2.2.2.2.out⟩

theorem tells_walk (n d : Int) (a b : Fr) (hn : In64 n) (hd : In64 d) (ia : InF a) (ib : InF b) (w : World) :
    Calls Try.prog 3 #[.int .i64 n, .int .i64 d, .agg #[.int .i64 a.N, .int .i64 a.D], .agg #[.int .i64 b.N, .int .i64 b.D]] w (BlIs true w) :=
  tells_core n d a.N a.D b.N b.D _ _ _ _ _ _ _ _ _ _ _ _ _ _ _ _ _ w
    (Lib.hid fun w => make_any n d hn hd w) (Lib.hid fun w => rmake_any n d hn hd w) (Lib.hid fun w => add_any a b ia ib w) (Lib.hid fun w => radd_any a b ia ib w)
    (Lib.hid fun w => mul_any a b ia ib w) (Lib.hid fun w => rmul_any a b ia ib w) (Lib.hid fun w => right_nd _ _ ia.1 ia.2 w) (Lib.hid fun w => rright_nd _ _ ia.1 ia.2 w)
    (Lib.hid fun w => compare_any a b ia ib w) (Lib.hid fun w => rcompare_any a b ia ib w) (Lib.hid fun w => min_any a b ia ib w) (Lib.hid fun w => rmin_any a b ia ib w)
    (Lib.hid fun w => max_any a b ia ib w) (Lib.hid fun w => rmax_any a b ia ib w) (Lib.hid fun w => floor_any a ia w) (Lib.hid fun w => rfloor_any a ia w)
    (Lib.hid fun w => ceil_any a ia w) (Lib.hid fun w => rceil_any a ia w)
end Go.Proofs.Ytlkpebcmdkmfjaa
