/-
  The walk of RatioLaws.
-/
import Derived.Test.YtlkpebcmdkmfjaaQk
import Derived.Deep.DeepCutAuto
set_option linter.unusedVariables false
set_option maxRecDepth 100000
namespace Go.Proofs.Ytlkpebcmdkmfjaa
open Go.RowKit

theorem three' (a b c : Fr) (w : World) : Keep [(w.heap.size + 1 + 1, c), (w.heap.size + 1, b), (w.heap.size, a)] w (((w.alloc (.cells #[.int .i64 a.N, .int .i64 a.D] 23)).alloc (.cells #[.int .i64 b.N, .int .i64 b.D] 23)).alloc (.cells #[.int .i64 c.N, .int .i64 c.D] 23)) :=
  (((Keep.nil w).new' a _ rfl).new' b _ (by simp)).new' c _ (by simp)

set_option maxHeartbeats 40000000 in
theorem laws_core (an ad bn bd cn cd abn abd e pn pd g mn md m ln ld n rn rd o acn acd r bon bod s whn whd t xn xd u dn dd v yn yd z : Int) (w : World) (ba1 : -1073741824 ≤ an) (ba2 : an ≤ 1073741824)
    (oa : okB ⟨an, ad⟩ = true) (ob : okB ⟨bn, bd⟩ = true) (oc : okB ⟨cn, cd⟩ = true) (na : In64 an) (da : In64 ad) (nb : In64 bn) (db : In64 bd) (nc : In64 cn) (dc : In64 cd)
    (Hab : Hid (∀ w, Calls Try.prog 12 #[.agg #[.int .i64 an, .int .i64 ad], .agg #[.int .i64 bn, .int .i64 bd]] w (FrIs (⟨abn, abd⟩, e) w)))
    (Hba : Hid (∀ w, Calls Try.prog 12 #[.agg #[.int .i64 bn, .int .i64 bd], .agg #[.int .i64 an, .int .i64 ad]] w (FrIs (⟨abn, abd⟩, e) w)))
    (Hp : Hid (∀ w, Calls Try.prog 14 #[.agg #[.int .i64 an, .int .i64 ad], .agg #[.int .i64 bn, .int .i64 bd]] w (FrIs (⟨pn, pd⟩, g) w)))
    (Hq : Hid (∀ w, Calls Try.prog 14 #[.agg #[.int .i64 bn, .int .i64 bd], .agg #[.int .i64 an, .int .i64 ad]] w (FrIs (⟨pn, pd⟩, g) w)))
    (Hzero : Hid (∀ w, Calls Try.prog 12 #[.agg #[.int .i64 an, .int .i64 ad], .agg #[.int .i64 0, .int .i64 1]] w (FrIs (⟨an, ad⟩, 0) w)))
    (Hone : Hid (∀ w, Calls Try.prog 14 #[.agg #[.int .i64 an, .int .i64 ad], .agg #[.int .i64 1, .int .i64 1]] w (FrIs (⟨an, ad⟩, 0) w)))
    (Hnone : Hid (∀ w, Calls Try.prog 12 #[.agg #[.int .i64 an, .int .i64 ad], .agg #[.int .i64 (-an), .int .i64 ad]] w (FrIs (⟨0, 1⟩, 0) w)))
    (Hbc : Hid (∀ w, Calls Try.prog 12 #[.agg #[.int .i64 bn, .int .i64 bd], .agg #[.int .i64 cn, .int .i64 cd]] w (FrIs (⟨mn, md⟩, m) w)))
    (Hl : Hid (∀ w, Calls Try.prog 12 #[.agg #[.int .i64 abn, .int .i64 abd], .agg #[.int .i64 cn, .int .i64 cd]] w (FrIs (⟨ln, ld⟩, n) w)))
    (Hr : Hid (∀ w, Calls Try.prog 12 #[.agg #[.int .i64 an, .int .i64 ad], .agg #[.int .i64 mn, .int .i64 md]] w (FrIs (⟨rn, rd⟩, o) w)))
    (Hac : Hid (∀ w, Calls Try.prog 14 #[.agg #[.int .i64 an, .int .i64 ad], .agg #[.int .i64 cn, .int .i64 cd]] w (FrIs (⟨acn, acd⟩, r) w)))
    (Hbo : Hid (∀ w, Calls Try.prog 12 #[.agg #[.int .i64 pn, .int .i64 pd], .agg #[.int .i64 acn, .int .i64 acd]] w (FrIs (⟨bon, bod⟩, s) w)))
    (Hwh : Hid (∀ w, Calls Try.prog 14 #[.agg #[.int .i64 an, .int .i64 ad], .agg #[.int .i64 mn, .int .i64 md]] w (FrIs (⟨whn, whd⟩, t) w)))
    (Hx : Hid (∀ w, Calls Try.prog 14 #[.agg #[.int .i64 pn, .int .i64 pd], .agg #[.int .i64 cn, .int .i64 cd]] w (FrIs (⟨xn, xd⟩, u) w)))
    (Hd : Hid (∀ w, Calls Try.prog 14 #[.agg #[.int .i64 bn, .int .i64 bd], .agg #[.int .i64 cn, .int .i64 cd]] w (FrIs (⟨dn, dd⟩, v) w)))
    (Hy : Hid (∀ w, Calls Try.prog 14 #[.agg #[.int .i64 an, .int .i64 ad], .agg #[.int .i64 dn, .int .i64 dd]] w (FrIs (⟨yn, yd⟩, z) w)))
    (hT16 : e = 0 → m = 0 → n = 0 → o = 0 → ln = rn ∧ ld = rd) (hT21 : g = 0 → m = 0 → r = 0 → s = 0 → t = 0 → bon = whn ∧ bod = whd) (hT26 : g = 0 → u = 0 → v = 0 → z = 0 → xn = yn ∧ xd = yd) :
    Calls Try.prog 6 #[.agg #[.int .i64 an, .int .i64 ad], .agg #[.int .i64 bn, .int .i64 bd], .agg #[.int .i64 cn, .int .i64 cd]] w (BlIs true w) := by
  have K0 := Lib.hid (three' ⟨an, ad⟩ ⟨bn, bd⟩ ⟨cn, cd⟩ w)
  have T16 := Lib.hid hT16; have T21 := Lib.hid hT21; have T26 := Lib.hid hT26; clear hT16 hT21 hT26
  go_enter Try.func6, Try.ntmps6
  go_wp2_with fail
  refine (small_any _).mono ?_
  rintro e1 w1 ⟨rfl, hb⟩
  have K1 := Lib.hid (K0.out.go hb); clear hb K0
  have c0a := K1.out.2.2.1.c0; have c0b := K1.out.2.2.1.c1; have c0l := K1.out.2.2.1.lt
  go_wp2_with fail
  refine (rright_nd _ _ na da _).mono ?_
  rintro e1 w2 ⟨rfl, hb⟩
  have K2 := Lib.hid (K1.out.go hb); clear hb K1 c0a c0b c0l
  have c0a := K2.out.2.1.c0; have c0b := K2.out.2.1.c1; have c0l := K2.out.2.1.lt
  go_wp2_with fail
  refine (rright_nd _ _ nb db _).mono ?_
  rintro e1 w3 ⟨rfl, hb⟩
  have K3 := Lib.hid (K2.out.go hb); clear hb K2 c0a c0b c0l
  have c0a := K3.out.1.c0; have c0b := K3.out.1.c1; have c0l := K3.out.1.lt
  go_wp2_with fail
  refine (rright_nd _ _ nc dc _).mono ?_
  rintro e1 w4 ⟨rfl, hb⟩
  have K4 := Lib.hid (K3.out.go hb); clear hb K3 c0a c0b c0l
  have c0a := K4.out.2.2.1.c0; have c0b := K4.out.2.2.1.c1; have c0l := K4.out.2.2.1.lt; have c1a := K4.out.2.1.c0; have c1b := K4.out.2.1.c1; have c1l := K4.out.2.1.lt
  go_wp2_with fail
  refine (Hab.out _).mono ?_
  rintro e1 w5 ⟨rfl, hb⟩
  have K5 := Lib.hid ((K4.out.go hb).new ⟨abn, abd⟩); clear hb K4 c0a c0b c0l c1a c1b c1l
  as_aux_lemma =>
    have c0a := K5.out.2.2.1.c0; have c0b := K5.out.2.2.1.c1; have c0l := K5.out.2.2.1.lt; have c1a := K5.out.2.2.2.1.c0; have c1b := K5.out.2.2.2.1.c1; have c1l := K5.out.2.2.2.1.lt
    go_wp2_with fail
    refine (Hba.out _).mono ?_
    rintro e1 w6 ⟨rfl, hb⟩
    have K6 := Lib.hid ((K5.out.go hb).new ⟨abn, abd⟩); clear hb K5 c0a c0b c0l c1a c1b c1l
    have c0a := K6.out.2.2.2.2.1.c0; have c0b := K6.out.2.2.2.2.1.c1; have c0l := K6.out.2.2.2.2.1.lt; have c1a := K6.out.2.2.2.1.c0; have c1b := K6.out.2.2.2.1.c1; have c1l := K6.out.2.2.2.1.lt
    go_wp2_with fail
    refine (Hp.out _).mono ?_
    rintro e1 w7 ⟨rfl, hb⟩
    have K7 := Lib.hid ((K6.out.go hb).new ⟨pn, pd⟩); clear hb K6 c0a c0b c0l c1a c1b c1l
    have c0a := K7.out.2.2.2.2.1.c0; have c0b := K7.out.2.2.2.2.1.c1; have c0l := K7.out.2.2.2.2.1.lt; have c1a := K7.out.2.2.2.2.2.1.c0; have c1b := K7.out.2.2.2.2.2.1.c1; have c1l := K7.out.2.2.2.2.2.1.lt
    go_wp2_with fail
    refine (Hq.out _).mono ?_
    rintro e1 w8 ⟨rfl, hb⟩
    have K8 := Lib.hid ((K7.out.go hb).new ⟨pn, pd⟩); clear hb K7 c0a c0b c0l c1a c1b c1l
    as_aux_lemma =>
      have c0a := K8.out.2.2.2.2.2.2.1.c0; have c0b := K8.out.2.2.2.2.2.2.1.c1; have c0l := K8.out.2.2.2.2.2.2.1.lt
      go_wp2_with fail
      refine (Hzero.out _).mono ?_
      rintro e1 w9 ⟨rfl, hb⟩
      have K9 := Lib.hid ((K8.out.go hb).new ⟨an, ad⟩); clear hb K8 c0a c0b c0l
      have c0a := K9.out.2.2.2.2.2.2.2.1.c0; have c0b := K9.out.2.2.2.2.2.2.2.1.c1; have c0l := K9.out.2.2.2.2.2.2.2.1.lt
      go_wp2_with fail
      refine (Hone.out _).mono ?_
      rintro e1 w10 ⟨rfl, hb⟩
      have K10 := Lib.hid ((K9.out.go hb).new ⟨an, ad⟩); clear hb K9 c0a c0b c0l
      have c0a := K10.out.2.2.2.2.2.2.2.2.1.c0; have c0b := K10.out.2.2.2.2.2.2.2.2.1.c1; have c0l := K10.out.2.2.2.2.2.2.2.2.1.lt
      go_wp2_with fail
      refine (Hnone.out _).mono ?_
      rintro e1 w11 ⟨rfl, hb⟩
      have K11 := Lib.hid ((K10.out.go hb).new ⟨0, 1⟩); clear hb K10 c0a c0b c0l
      as_aux_lemma =>
        have c0a := K11.out.2.2.2.2.2.2.1.c0; have c0b := K11.out.2.2.2.2.2.2.1.c1; have c0l := K11.out.2.2.2.2.2.2.1.lt; have c1a := K11.out.2.2.2.2.2.1.c0; have c1b := K11.out.2.2.2.2.2.1.c1; have c1l := K11.out.2.2.2.2.2.1.lt; have c2a := K11.out.2.2.2.2.1.c0; have c2b := K11.out.2.2.2.2.1.c1; have c2l := K11.out.2.2.2.2.1.lt; have c3a := K11.out.2.2.2.1.c0; have c3b := K11.out.2.2.2.1.c1; have c3l := K11.out.2.2.2.1.lt; have c4a := K11.out.2.2.1.c0; have c4b := K11.out.2.2.1.c1; have c4l := K11.out.2.2.1.lt; have c5a := K11.out.2.1.c0; have c5b := K11.out.2.1.c1; have c5l := K11.out.2.1.lt; have c6a := K11.out.1.c0; have c6b := K11.out.1.c1; have c6l := K11.out.1.lt; have c7a := K11.out.2.2.2.2.2.2.2.2.2.1.c0; have c7b := K11.out.2.2.2.2.2.2.2.2.2.1.c1; have c7l := K11.out.2.2.2.2.2.2.2.2.2.1.lt; have c8a := K11.out.2.2.2.2.2.2.2.2.1.c0; have c8b := K11.out.2.2.2.2.2.2.2.2.1.c1; have c8l := K11.out.2.2.2.2.2.2.2.2.1.lt; have c9a := K11.out.2.2.2.2.2.2.2.1.c0; have c9b := K11.out.2.2.2.2.2.2.2.1.c1; have c9l := K11.out.2.2.2.2.2.2.2.1.lt
        go_wp2_with fail
        refine (Hbc.out _).mono ?_
        rintro e1 w12 ⟨rfl, hb⟩
        have K12 := Lib.hid ((K11.out.go hb).new ⟨mn, md⟩); clear hb K11 c0a c0b c0l c1a c1b c1l c2a c2b c2l c3a c3b c3l c4a c4b c4l c5a c5b c5l c6a c6b c6l c7a c7b c7l c8a c8b c8l c9a c9b c9l
        have c0a := K12.out.2.2.2.2.2.2.2.1.c0; have c0b := K12.out.2.2.2.2.2.2.2.1.c1; have c0l := K12.out.2.2.2.2.2.2.2.1.lt; have c1a := K12.out.2.2.2.2.2.2.2.2.1.c0; have c1b := K12.out.2.2.2.2.2.2.2.2.1.c1; have c1l := K12.out.2.2.2.2.2.2.2.2.1.lt
        go_wp2_with fail
        refine (Hl.out _).mono ?_
        rintro e1 w13 ⟨rfl, hb⟩
        have K13 := Lib.hid ((K12.out.go hb).new ⟨ln, ld⟩); clear hb K12 c0a c0b c0l c1a c1b c1l
        have c0a := K13.out.2.2.2.2.2.2.2.2.2.2.2.1.c0; have c0b := K13.out.2.2.2.2.2.2.2.2.2.2.2.1.c1; have c0l := K13.out.2.2.2.2.2.2.2.2.2.2.2.1.lt; have c1a := K13.out.2.1.c0; have c1b := K13.out.2.1.c1; have c1l := K13.out.2.1.lt
        go_wp2_with fail
        refine (Hr.out _).mono ?_
        rintro e1 w14 ⟨rfl, hb⟩
        have K14 := Lib.hid ((K13.out.go hb).new ⟨rn, rd⟩); clear hb K13 c0a c0b c0l c1a c1b c1l
        have c0a := K14.out.2.1.c0; have c0b := K14.out.2.1.c1; have c0l := K14.out.2.1.lt; have c1a := K14.out.1.c0; have c1b := K14.out.1.c1; have c1l := K14.out.1.lt
        go_upto_region 16 with fail
        go_cut [183] (fun sl wx => sl = .bool false ∧ Hid (Keep [(w14.heap.size, ⟨rn, rd⟩), (w13.heap.size, ⟨ln, ld⟩), (w12.heap.size, ⟨mn, md⟩), (w11.heap.size, ⟨0, 1⟩), (w10.heap.size, ⟨an, ad⟩), (w9.heap.size, ⟨an, ad⟩), (w8.heap.size, ⟨pn, pd⟩), (w7.heap.size, ⟨pn, pd⟩), (w6.heap.size, ⟨abn, abd⟩), (w5.heap.size, ⟨abn, abd⟩), (w.heap.size + 1 + 1, ⟨cn, cd⟩), (w.heap.size + 1, ⟨bn, bd⟩), (w.heap.size, ⟨an, ad⟩)] w wx))
        case first => as_aux_lemma =>
          by_cases z0 : e = 0
          · have k0 : (e == 0) = true := by simp [z0]
            have m0 : (e != 0) = false := by simp [z0]
            by_cases z1 : m = 0
            · have k1 : (m == 0) = true := by simp [z1]
              have m1 : (m != 0) = false := by simp [z1]
              by_cases z2 : n = 0
              · have k2 : (n == 0) = true := by simp [z2]
                have m2 : (n != 0) = false := by simp [z2]
                by_cases z3 : o = 0
                · have k3 : (o == 0) = true := by simp [z3]
                  have m3 : (o != 0) = false := by simp [z3]
                  obtain ⟨q1, q2⟩ := T16.out z0 z1 z2 z3
                  clear z0 z1 z2 z3
                  go_wp2_with fail
                  go_meet
                  exact ⟨rfl, K14⟩
                · have k3 : (o == 0) = false := by simp [z3]
                  have m3 : (o != 0) = true := by simp [z3]
                  clear z3 z0 z1 z2
                  go_wp2_with fail
                  go_meet
                  exact ⟨rfl, K14⟩
              · have k2 : (n == 0) = false := by simp [z2]
                have m2 : (n != 0) = true := by simp [z2]
                clear z2 z0 z1
                go_wp2_with fail
                go_meet
                exact ⟨rfl, K14⟩
            · have k1 : (m == 0) = false := by simp [z1]
              have m1 : (m != 0) = true := by simp [z1]
              clear z1 z0
              go_wp2_with fail
              go_meet
              exact ⟨rfl, K14⟩
          · have k0 : (e == 0) = false := by simp [z0]
            have m0 : (e != 0) = true := by simp [z0]
            clear z0 
            go_wp2_with fail
            go_meet
            exact ⟨rfl, K14⟩
        obtain ⟨rfl, hK⟩ := hcut
        have K15 := hK; clear hK K14 c0a c0b c0l c1a c1b c1l
        as_aux_lemma =>
          have c0a := K15.out.2.2.2.2.2.2.2.2.2.2.2.2.1.c0; have c0b := K15.out.2.2.2.2.2.2.2.2.2.2.2.2.1.c1; have c0l := K15.out.2.2.2.2.2.2.2.2.2.2.2.2.1.lt; have c1a := K15.out.2.2.2.2.2.2.2.2.2.2.1.c0; have c1b := K15.out.2.2.2.2.2.2.2.2.2.2.1.c1; have c1l := K15.out.2.2.2.2.2.2.2.2.2.2.1.lt
          go_wp2_with fail
          refine (Hac.out _).mono ?_
          rintro e1 w16 ⟨rfl, hb⟩
          have K16 := Lib.hid ((K15.out.go hb).new ⟨acn, acd⟩); clear hb K15 c0a c0b c0l c1a c1b c1l
          have c0a := K16.out.2.2.2.2.2.2.2.2.1.c0; have c0b := K16.out.2.2.2.2.2.2.2.2.1.c1; have c0l := K16.out.2.2.2.2.2.2.2.2.1.lt; have c1a := K16.out.1.c0; have c1b := K16.out.1.c1; have c1l := K16.out.1.lt
          go_wp2_with fail
          refine (Hbo.out _).mono ?_
          rintro e1 w17 ⟨rfl, hb⟩
          have K17 := Lib.hid ((K16.out.go hb).new ⟨bon, bod⟩); clear hb K16 c0a c0b c0l c1a c1b c1l
          have c0a := K17.out.2.2.2.2.2.2.2.2.2.2.2.2.2.2.1.c0; have c0b := K17.out.2.2.2.2.2.2.2.2.2.2.2.2.2.2.1.c1; have c0l := K17.out.2.2.2.2.2.2.2.2.2.2.2.2.2.2.1.lt; have c1a := K17.out.2.2.2.2.1.c0; have c1b := K17.out.2.2.2.2.1.c1; have c1l := K17.out.2.2.2.2.1.lt
          go_wp2_with fail
          refine (Hwh.out _).mono ?_
          rintro e1 w18 ⟨rfl, hb⟩
          have K18 := Lib.hid ((K17.out.go hb).new ⟨whn, whd⟩); clear hb K17 c0a c0b c0l c1a c1b c1l
          have c0a := K18.out.2.1.c0; have c0b := K18.out.2.1.c1; have c0l := K18.out.2.1.lt; have c1a := K18.out.1.c0; have c1b := K18.out.1.c1; have c1l := K18.out.1.lt
          go_upto_region 21 with fail
          go_cut [224] (fun sl wx => sl = .bool false ∧ Hid (Keep [(w18.heap.size, ⟨whn, whd⟩), (w17.heap.size, ⟨bon, bod⟩), (w16.heap.size, ⟨acn, acd⟩), (w14.heap.size, ⟨rn, rd⟩), (w13.heap.size, ⟨ln, ld⟩), (w12.heap.size, ⟨mn, md⟩), (w11.heap.size, ⟨0, 1⟩), (w10.heap.size, ⟨an, ad⟩), (w9.heap.size, ⟨an, ad⟩), (w8.heap.size, ⟨pn, pd⟩), (w7.heap.size, ⟨pn, pd⟩), (w6.heap.size, ⟨abn, abd⟩), (w5.heap.size, ⟨abn, abd⟩), (w.heap.size + 1 + 1, ⟨cn, cd⟩), (w.heap.size + 1, ⟨bn, bd⟩), (w.heap.size, ⟨an, ad⟩)] w wx))
          case first => as_aux_lemma =>
            by_cases z0 : g = 0
            · have k0 : (g == 0) = true := by simp [z0]
              have m0 : (g != 0) = false := by simp [z0]
              by_cases z1 : m = 0
              · have k1 : (m == 0) = true := by simp [z1]
                have m1 : (m != 0) = false := by simp [z1]
                by_cases z2 : r = 0
                · have k2 : (r == 0) = true := by simp [z2]
                  have m2 : (r != 0) = false := by simp [z2]
                  by_cases z3 : s = 0
                  · have k3 : (s == 0) = true := by simp [z3]
                    have m3 : (s != 0) = false := by simp [z3]
                    by_cases z4 : t = 0
                    · have k4 : (t == 0) = true := by simp [z4]
                      have m4 : (t != 0) = false := by simp [z4]
                      obtain ⟨q1, q2⟩ := T21.out z0 z1 z2 z3 z4
                      clear z0 z1 z2 z3 z4
                      go_wp2_with fail
                      go_meet
                      exact ⟨rfl, K18⟩
                    · have k4 : (t == 0) = false := by simp [z4]
                      have m4 : (t != 0) = true := by simp [z4]
                      clear z4 z0 z1 z2 z3
                      go_wp2_with fail
                      go_meet
                      exact ⟨rfl, K18⟩
                  · have k3 : (s == 0) = false := by simp [z3]
                    have m3 : (s != 0) = true := by simp [z3]
                    clear z3 z0 z1 z2
                    go_wp2_with fail
                    go_meet
                    exact ⟨rfl, K18⟩
                · have k2 : (r == 0) = false := by simp [z2]
                  have m2 : (r != 0) = true := by simp [z2]
                  clear z2 z0 z1
                  go_wp2_with fail
                  go_meet
                  exact ⟨rfl, K18⟩
              · have k1 : (m == 0) = false := by simp [z1]
                have m1 : (m != 0) = true := by simp [z1]
                clear z1 z0
                go_wp2_with fail
                go_meet
                exact ⟨rfl, K18⟩
            · have k0 : (g == 0) = false := by simp [z0]
              have m0 : (g != 0) = true := by simp [z0]
              clear z0 
              go_wp2_with fail
              go_meet
              exact ⟨rfl, K18⟩
          obtain ⟨rfl, hK⟩ := hcut
          have K19 := hK; clear hK K18 c0a c0b c0l c1a c1b c1l
          as_aux_lemma =>
            have c0a := K19.out.2.2.2.2.2.2.2.2.2.2.1.c0; have c0b := K19.out.2.2.2.2.2.2.2.2.2.2.1.c1; have c0l := K19.out.2.2.2.2.2.2.2.2.2.2.1.lt; have c1a := K19.out.2.2.2.2.2.2.2.2.2.2.2.2.2.1.c0; have c1b := K19.out.2.2.2.2.2.2.2.2.2.2.2.2.2.1.c1; have c1l := K19.out.2.2.2.2.2.2.2.2.2.2.2.2.2.1.lt
            go_wp2_with fail
            refine (Hx.out _).mono ?_
            rintro e1 w20 ⟨rfl, hb⟩
            have K20 := Lib.hid ((K19.out.go hb).new ⟨xn, xd⟩); clear hb K19 c0a c0b c0l c1a c1b c1l
            have c0a := K20.out.2.2.2.2.2.2.2.2.2.2.2.2.2.2.2.1.c0; have c0b := K20.out.2.2.2.2.2.2.2.2.2.2.2.2.2.2.2.1.c1; have c0l := K20.out.2.2.2.2.2.2.2.2.2.2.2.2.2.2.2.1.lt; have c1a := K20.out.2.2.2.2.2.2.2.2.2.2.2.2.2.2.1.c0; have c1b := K20.out.2.2.2.2.2.2.2.2.2.2.2.2.2.2.1.c1; have c1l := K20.out.2.2.2.2.2.2.2.2.2.2.2.2.2.2.1.lt
            go_wp2_with fail
            refine (Hd.out _).mono ?_
            rintro e1 w21 ⟨rfl, hb⟩
            have K21 := Lib.hid ((K20.out.go hb).new ⟨dn, dd⟩); clear hb K20 c0a c0b c0l c1a c1b c1l
            have c0a := K21.out.2.2.2.2.2.2.2.2.2.2.2.2.2.2.2.2.2.1.c0; have c0b := K21.out.2.2.2.2.2.2.2.2.2.2.2.2.2.2.2.2.2.1.c1; have c0l := K21.out.2.2.2.2.2.2.2.2.2.2.2.2.2.2.2.2.2.1.lt; have c1a := K21.out.1.c0; have c1b := K21.out.1.c1; have c1l := K21.out.1.lt
            go_wp2_with fail
            refine (Hy.out _).mono ?_
            rintro e1 w22 ⟨rfl, hb⟩
            have K22 := Lib.hid ((K21.out.go hb).new ⟨yn, yd⟩); clear hb K21 c0a c0b c0l c1a c1b c1l
            have c0a := K22.out.2.2.1.c0; have c0b := K22.out.2.2.1.c1; have c0l := K22.out.2.2.1.lt; have c1a := K22.out.1.c0; have c1b := K22.out.1.c1; have c1l := K22.out.1.lt
            by_cases z0 : g = 0
            · have k0 : (g == 0) = true := by simp [z0]
              have m0 : (g != 0) = false := by simp [z0]
              by_cases z1 : u = 0
              · have k1 : (u == 0) = true := by simp [z1]
                have m1 : (u != 0) = false := by simp [z1]
                by_cases z2 : v = 0
                · have k2 : (v == 0) = true := by simp [z2]
                  have m2 : (v != 0) = false := by simp [z2]
                  by_cases z3 : z = 0
                  · have k3 : (z == 0) = true := by simp [z3]
                    have m3 : (z != 0) = false := by simp [z3]
                    obtain ⟨q1, q2⟩ := T26.out z0 z1 z2 z3
                    clear z0 z1 z2 z3
                    go_wp2_with fail
                    go_ret
                    exact ⟨rfl, K22.out.below⟩
                  · have k3 : (z == 0) = false := by simp [z3]
                    have m3 : (z != 0) = true := by simp [z3]
                    clear z3 z0 z1 z2
                    go_wp2_with fail
                    go_ret
                    exact ⟨rfl, K22.out.below⟩
                · have k2 : (v == 0) = false := by simp [z2]
                  have m2 : (v != 0) = true := by simp [z2]
                  clear z2 z0 z1
                  go_wp2_with fail
                  go_ret
                  exact ⟨rfl, K22.out.below⟩
              · have k1 : (u == 0) = false := by simp [z1]
                have m1 : (u != 0) = true := by simp [z1]
                clear z1 z0
                go_wp2_with fail
                go_ret
                exact ⟨rfl, K22.out.below⟩
            · have k0 : (g == 0) = false := by simp [z0]
              have m0 : (g != 0) = true := by simp [z0]
              clear z0 
              go_wp2_with fail
              go_ret
              exact ⟨rfl, K22.out.below⟩
end Go.Proofs.Ytlkpebcmdkmfjaa
