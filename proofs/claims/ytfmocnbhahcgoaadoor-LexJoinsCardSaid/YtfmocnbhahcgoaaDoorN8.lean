/-
  Layer 14: the law LexJoins: the tokens of two texts with a blank between them.
-/
import Derived.Test.YtfmocnbhahcgoaaDoorN6
set_option linter.unusedVariables false
set_option maxRecDepth 100000
namespace Go.Proofs.YtfmocnbhahcgoaaDoor
open Go.RowKit

theorem joins_first {x : List UInt8} {c : UInt8} (hc : blk c = true) (y : List UInt8) (h : (lexG 0 x).e ≠ 0) : lexG 0 (x ++ c :: y) = lexG 0 x := by
  rw [lex_app hc, if_neg h]
theorem joins_mv (x : List UInt8) (y : List UInt8) : lexG (0 + x.length + 1) y = mvR (x.length + 1) (lexG 0 y) := by
  rw [show 0 + x.length + 1 = 0 + (x.length + 1) by omega, lex_mv]
theorem joins_second {x : List UInt8} {c : UInt8} (hc : blk c = true) (y : List UInt8) (h : (lexG 0 x).e = 0) (h2 : (lexG 0 y).e ≠ 0) : lexG 0 (x ++ c :: y) = ⟨(lexG 0 y).e, (lexG 0 y).a + ((x.length + 1 : Nat) : Int), []⟩ := by
  have hl := ((lex_ok y 0).2 h2).1
  rw [lex_app hc, if_pos h, joins_mv]
  have e : mvR (x.length + 1) (lexG 0 y) = ⟨(lexG 0 y).e, (lexG 0 y).a + ((x.length + 1 : Nat) : Int), []⟩ := by
    unfold mvR; rw [if_neg h2, hl]; rfl
  rw [e]; exact pre_no h2
theorem joins_both {x : List UInt8} {c : UInt8} (hc : blk c = true) (y : List UInt8) (h : (lexG 0 x).e = 0) (h2 : (lexG 0 y).e = 0) : lexG 0 (x ++ c :: y) = ⟨0, 0, (lexG 0 x).l.dropLast ++ (lexG 0 y).l.map (mvT (x.length + 1))⟩ := by
  have ha := ((lex_ok y 0).1 h2).1
  rw [lex_app hc, if_pos h, joins_mv]
  have e : mvR (x.length + 1) (lexG 0 y) = ⟨0, 0, (lexG 0 y).l.map (mvT (x.length + 1))⟩ := by
    unfold mvR; rw [if_pos h2, ha]
  rw [e, pre_yes rfl]
theorem lex_pos : ∀ (l : List UInt8) (a : Nat), ∀ x ∈ (lexG a l).l, (a : Int) ≤ x.p ∧ x.p ≤ (a : Int) + (l.length : Int) := by
  refine lex_ind ?_ ?_ ?_ ?_
  · intro a x hx
    rw [lexG_nil] at hx
    simp only [List.mem_cons, List.mem_nil_iff, or_false] at hx
    subst hx
    simp [endT]
  · intro b l hb ih a x hx
    rw [lexG_blk hb] at hx
    have := ih _ x hx
    simp only [List.length_cons]
    push_cast at this ⊢
    omega
  · intro b l hb he a x hx
    rw [lexG_tok hb, if_neg he] at hx
    cases hx
  · intro b l hb he ih a x hx
    rw [lexG_tok hb, if_pos he] at hx
    have hle : (firstT (b :: l)).t.length ≤ (b :: l).length := by
      obtain ⟨q, hq⟩ := (first_ok he).pre
      have := congrArg List.length hq
      simp only [List.length_append] at this
      omega
    have key : x = (firstT (b :: l)).tk a ∨ x ∈ (lexG (a + (firstT (b :: l)).t.length) ((b :: l).drop (firstT (b :: l)).t.length)).l := by
      unfold pre at hx
      split at hx
      · rcases List.mem_append.1 hx with h | h
        · left; simpa using h
        · exact .inr h
      · exact .inr hx
    rcases key with rfl | h
    · simp [T1.tk]; omega
    · have := ih _ x h
      rw [List.length_drop] at this
      push_cast at this
      omega
/-- the tokens of both, one by one. -/
theorem joins_at {a b : List Tk} {n : Nat} (k : Nat) : (k < a.length - 1 → ∃ u, (a.dropLast ++ b.map (mvT n))[k]? = some u ∧ a[k]? = some u) ∧ (∀ d, k = a.length - 1 + d → k < (a.dropLast ++ b.map (mvT n)).length → ∃ u, b[d]? = some u ∧ (a.dropLast ++ b.map (mvT n))[k]? = some (mvT n u)) := by
  refine ⟨fun h => ⟨a[k]'(by omega), ?_, List.getElem?_eq_getElem _⟩, fun d hd h => ?_⟩
  · rw [List.getElem?_append_left (by rw [List.length_dropLast]; exact h), List.getElem?_dropLast, if_pos h]
    exact List.getElem?_eq_getElem _
  · rw [List.length_append, List.length_dropLast, List.length_map] at h
    refine ⟨b[d]'(by omega), List.getElem?_eq_getElem _, ?_⟩
    rw [List.getElem?_append_right (by rw [List.length_dropLast]; omega), List.length_dropLast, show k - (a.length - 1) = d by omega, List.getElem?_map, List.getElem?_eq_getElem (by omega)]
    rfl
theorem TkRow.at_ {w : World} {A : Option Addr} {L : List Tk} (h : TkRow w A L) {k : Nat} {u : Tk} (hu : L[k]? = some u) : ∃ b off, A = some ⟨b, off, none⟩ ∧ b < w.heap.size ∧ TkC w b (off + k * 4) u := by
  obtain ⟨hk, e⟩ := List.getElem?_eq_some_iff.1 hu
  obtain ⟨b, off, hA, hb, hc⟩ := h (by omega)
  exact ⟨b, off, hA, hb, e ▸ hc k hk⟩
set_option maxHeartbeats 40000000 in
theorem ljoins_any (s t : ByteArray) (q : Int) (w : World) (hs : s.size ≤ 9223372036854775807) (ht : t.size ≤ 9223372036854775807) (hq : 0 ≤ q ∧ q ≤ 255) (hg : Glb w) : Calls Tryd.prog 6 #[.string s, .string t, .int .u8 q] w (BlIs true w) := by
  have H1 := Lib.hid small_any
  have H2 := Lib.hid (fun w' => cut_any s w' hs); clear hs
  have H2t := Lib.hid (fun w' => cut_any t w' ht); clear ht
  have H3 := Lib.hid lex_any
  have HG := Lib.hid hg; clear hg
  go_enter Tryd.func6, Tryd.ntmps6
  go_wp2_with fail
  refine (H1.out w HG.out).mono ?_
  rintro e w1 ⟨rfl, hb1⟩
  have HB1 := Lib.hid hb1; clear hb1
  go_wp2_with fail
  refine (H2.out w1).mono ?_
  rintro e w2 ⟨⟨x, rfl, hx, _⟩, rfl⟩
  have hxl : x.size ≤ 3000 := by rw [← size_list x, hx]; exact cut_len _
  clear hx
  go_wp2_with fail
  refine (H2t.out w2).mono ?_
  rintro e w3 ⟨⟨y, rfl, hy, _⟩, rfl⟩
  have hyl : y.size ≤ 3000 := by rw [← size_list y, hy]; exact cut_len _
  clear hy
  obtain ⟨q0, q1⟩ := hq
  have hq3 : q % 3 = 0 ∨ q % 3 = 1 ∨ q % 3 = 2 := by omega
  rcases hq3 with h3 | h3 | h3
  · have hr : Int.tmod q 3 = q % 3 := Int.tmod_eq_emod_of_nonneg q0
    rw [h3] at hr
    go_wp2_with fail
    have hsp : ((⟨#[9, 10, 32]⟩ : ByteArray).extract 0 1).data.toList = [9] := by rfl
    have HBC : Hid (blk (9 : UInt8) = true) := Lib.hid rfl
    generalize (⟨#[9, 10, 32]⟩ : ByteArray).extract 0 1 = sep at *
    generalize (9 : UInt8) = c at *
    clear hr h3
    have hsz : sep.size = 1 := by rw [size_of hsp]; rfl
    have HXS := Lib.hid (size_list x)
    have HYS := Lib.hid (size_list y)
    have HPX := Lib.hid (lexP_small (t := x.data.toList) (by rw [HXS.out]; omega))
    have HPY := Lib.hid (lexP_small (t := y.data.toList) (by rw [HYS.out]; omega))
    have HDZ : Hid ((x ++ sep ++ y).data.toList = x.data.toList ++ c :: y.data.toList) := Lib.hid (by
      rw [app_list, app_list, hsp, List.append_assoc]; rfl)
    have HZS : Hid ((x ++ sep ++ y).size ≤ 1099511627776) := Lib.hid (by rw [app_size, app_size, hsz]; omega)
    have HPZ := Lib.hid (lexP_small (t := x.data.toList ++ c :: y.data.toList) (by rw [List.length_append, List.length_cons, HXS.out, HYS.out]; omega))
    have HJ1 := Lib.hid (joins_first (x := x.data.toList) HBC.out y.data.toList)
    have HJ2 := Lib.hid (joins_second (x := x.data.toList) HBC.out y.data.toList)
    have HJ3 := Lib.hid (joins_both (x := x.data.toList) HBC.out y.data.toList)
    have HOX := Lib.hid (lex_ok x.data.toList 0)
    have HOY := Lib.hid (lex_ok y.data.toList 0)
    have HPO : Hid (∀ u ∈ (lexG 0 y.data.toList).l, 0 ≤ u.p ∧ u.p ≤ 3000) := Lib.hid (fun u hu => by have := lex_pos y.data.toList 0 u hu; rw [HYS.out] at this; simp only [Int.ofNat_zero] at this; omega)
    have HEY : Hid ((lexG 0 y.data.toList).e ≠ 0 → ∃ m : Nat, (lexG 0 y.data.toList).a = (m : Int) ∧ m ≤ 3000) := Lib.hid (fun h => by
      obtain ⟨p, q, h1, h2, _⟩ := lex_err y.data.toList 0 h
      have h3 := congrArg List.length h1
      rw [List.length_append, HYS.out] at h3
      exact ⟨0 + p.length, h2, by omega⟩)
    clear hsp HBC
    refine (H3.out x w3 (by omega) (HG.out.below HB1.out)).mono ?_
    rintro e w4 ⟨va, rfl, hoa⟩
    rw [HPX.out] at hoa ⊢
    have HB4 := Lib.hid (HB1.out.trans (hoa.bel.mono HB1.out.size))
    obtain ⟨A1, c1, rfl, hra⟩ := own_tk hoa.own
    have HRA := Lib.hid hra
    clear hoa hra HPX
    generalize lexG 0 x.data.toList = X at *
    generalize hna : X.l.length = na at *
    go_wp2_with fail
    refine (H3.out y w4 (by omega) (HG.out.below HB4.out)).mono ?_
    rintro e w5 ⟨vb, rfl, hob⟩
    rw [HPY.out] at hob ⊢
    have HB5 := Lib.hid (HB4.out.trans (hob.bel.mono HB4.out.size))
    have HRA5 := Lib.hid (HRA.out.below hob.bel)
    obtain ⟨A2, c2, rfl, hrb⟩ := own_tk hob.own
    have HRB := Lib.hid hrb
    clear hob hrb HPY HRA
    generalize lexG 0 y.data.toList = Y at *
    generalize hnb : Y.l.length = nb at *
    have z1 : x.size + sep.size ≤ 1099511627776 := by omega
    have z2 : (x ++ sep).size + y.size ≤ 1099511627776 := by rw [app_size]; omega
    go_wp2_with fail
    have HX9 := Lib.hid (H3.out _ w5 HZS.out (HG.out.below HB5.out))
    rw [HDZ.out, HPZ.out] at HX9
    refine HX9.out.mono ?_
    rintro e w6 ⟨vc, rfl, hoc⟩
    clear HX9 HZS HDZ z1 z2
    generalize x ++ sep ++ y = zz at *
    generalize x ++ sep = xs at *
    have HB6 := Lib.hid (HB5.out.trans (hoc.bel.mono HB5.out.size))
    have HRA6 := Lib.hid (HRA5.out.below hoc.bel)
    have HRB6 := Lib.hid (HRB.out.below hoc.bel)
    obtain ⟨A3, c3, rfl, hrc⟩ := own_tk hoc.own
    have HRC := Lib.hid hrc
    clear hoc hrc HPZ HRA5 HRB
    by_cases he : X.e = 0
    · have hee : (X.e == 0) = true := by rw [beq_iff_eq]; exact he
      have hek : (X.e != 0) = false := by rw [bne_eq_false_iff_eq]; exact he
      by_cases hf : Y.e = 0
      · have hfe : (Y.e == 0) = true := by rw [beq_iff_eq]; exact hf
        have hfk : (Y.e != 0) = false := by rw [bne_eq_false_iff_eq]; exact hf
        have hz := HJ3.out he hf
        generalize lexG 0 (x.data.toList ++ c :: y.data.toList) = Z at *
        clear HJ1 HJ2 HJ3
        obtain ⟨LA, hLA⟩ := (HOX.out.1 he).2
        obtain ⟨LB, hLB⟩ := (HOY.out.1 hf).2
        have hna1 : 1 ≤ na ∧ na ≤ 3001 := by
          have h := hLA.2.1
          rw [← hna, hLA.1, List.length_append]; simp only [List.length_cons, List.length_nil]; rw [HXS.out] at h; omega
        have hnb1 : nb ≤ 3001 := by
          have h := hLB.2.1
          rw [← hnb, hLB.1, List.length_append]; simp only [List.length_cons, List.length_nil]; rw [HYS.out] at h; omega
        clear hLA hLB LA LB HOX HOY
        obtain ⟨nc, hnc⟩ : ∃ nc, nc = Z.l.length := ⟨_, rfl⟩
        have hnc2 : nc = na - 1 + nb := by
          rw [hnc, hz, List.length_append, List.length_dropLast, List.length_map, hna, hnb]
        have HAT : Hid (∀ k, (k < na - 1 → ∃ u, Z.l[k]? = some u ∧ X.l[k]? = some u) ∧ (∀ d, k = na - 1 + d → k < nc → ∃ u, Y.l[d]? = some u ∧ Z.l[k]? = some (mvT (x.size + 1) u))) := Lib.hid (fun k => by
          rw [hnc, ← hna, hz, ← HXS.out]
          exact joins_at k)
        have hze : Z.e = 0 := by rw [hz]
        rw [← hnc, hze]
        have hcn : ((nc : Int) != (na : Int) - 1 + (nb : Int)) = false := by rw [bne_eq_false_iff_eq]; omega
        have HNC := Lib.hid hnc2
        obtain ⟨hna0, hna2⟩ := hna1
        clear hz hnc hnc2 hze hna hnb
        go_wp2_with fail
        go_loopw [21] (fun i wr => ∃ (k : Nat), k ≤ nc ∧ i = .int .i64 k ∧ Hid (Below w6.heap.size w6 wr)) (fun i _ => nc - (intOf i).toNat)
        case atStart => exact ⟨0, Nat.zero_le _, rfl, Lib.hid (Below.refl _ _)⟩
        case round =>
          obtain ⟨k, hk, rfl, HK⟩ := hrel
          by_cases hlt : k < nc
          · have hkn := HNC.out
            have hws := HK.out.size
            have n0 : (0 : Int) ≤ (k : Int) := by omega
            have n1 : (k : Int) < (nc : Int) := by omega
            by_cases hka : k < na - 1
            · obtain ⟨u, hu1, hu2⟩ := (HAT.out k).1 hka
              obtain ⟨b3, o3, rfl, hb3, hc3⟩ := HRC.out.at_ hu1
              obtain ⟨b1, o1, rfl, hb1, hc1⟩ := HRA6.out.at_ hu2
              obtain ⟨y0, y1, y2, y3⟩ := hc3.below hb3 HK.out
              obtain ⟨x0, x1, x2, x3⟩ := hc1.below hb1 HK.out
              have n2 : (k : Int) < (na : Int) - 1 := by omega
              have n3 : (k : Int) < (na : Int) := by omega
              have l1 : b1 < wr.heap.size := by omega
              have l3 : b3 < wr.heap.size := by omega
              have HBF : Hid (∀ w', Below wr.heap.size wr w' → Below w6.heap.size w6 w') := Lib.hid (fun w' hb => HK.out.trans (hb.mono hws))
              clear hc3 hc1 hu1 hu2 hb3 hb1 hkn HK HAT hcn
              go_wp2_with fail
              go_quiet (fail)
              go_wp2_with fail
              go_roundw
              case rel => exact ⟨k + 1, by omega, by go_num, Lib.hid (HBF.out _ (by repeat' first | assumption | exact Below.refl _ _ | (apply below_drewN) | refine Below.setCell ?_ (by simp only; omega) _ | refine Below.alloc ?_ (by (try simp); (try omega)) _))⟩
              case measure => simp [intOf]; omega
            · obtain ⟨d, hd⟩ : ∃ d, k = na - 1 + d := ⟨k - (na - 1), by omega⟩
              obtain ⟨u, hu2, hu1⟩ := (HAT.out k).2 d hd hlt
              have HD := Lib.hid hd
              obtain ⟨b3, o3, rfl, hb3, hc3⟩ := HRC.out.at_ hu1
              obtain ⟨b1, o1, rfl, hb1, hc1⟩ := HRB6.out.at_ hu2
              obtain ⟨y0, y1, y2, y3⟩ := hc3.below hb3 HK.out
              obtain ⟨x0, x1, x2, x3⟩ := hc1.below hb1 HK.out
              have n2 : ¬ (k : Int) < (na : Int) - 1 := by omega
              have hup := HPO.out u (List.mem_of_getElem? hu2)
              simp only [mvT] at y0 y1 y2 y3
              have n7 : (0 : Int) ≤ u.p + (x.size : Int) ∧ u.p + (x.size : Int) ≤ 10000 := by omega
              have n8 : u.p + (((x.size + 1 : Nat)) : Int) = u.p + (x.size : Int) + 1 := by push_cast; omega
              rw [n8] at y3
              clear n8
              obtain ⟨n7, n9⟩ := n7
              have n3 : (k : Int) - (na : Int) + 1 < (nb : Int) := by omega
              have n4 : (k : Int) ≤ 10000 := by omega
              have n5 : (0 : Int) ≤ (k : Int) - (na : Int) + 1 := by omega
              have n6 : ((k : Int) - (na : Int) + 1).toNat = d := by omega
              have l1 : b1 < wr.heap.size := by omega
              have l3 : b3 < wr.heap.size := by omega
              have HBF : Hid (∀ w', Below wr.heap.size wr w' → Below w6.heap.size w6 w') := Lib.hid (fun w' hb => HK.out.trans (hb.mono hws))
              clear hc3 hc1 hu1 hu2 hb3 hb1 hkn HK HAT hcn hd
              go_wp2_with fail
              go_quiet (fail)
              go_wp2_with fail
              go_roundw
              case rel => exact ⟨k + 1, by omega, by go_num, Lib.hid (HBF.out _ (by repeat' first | assumption | exact Below.refl _ _ | (apply below_drewN) | refine Below.setCell ?_ (by simp only; omega) _ | refine Below.alloc ?_ (by (try simp); (try omega)) _))⟩
              case measure => simp [intOf]; omega
          · obtain rfl : k = nc := by omega
            have HB9 := Lib.hid (HB6.out.trans (HK.out.mono HB6.out.size))
            clear HK HAT
            go_wp2_with fail
            go_ret
            exact ⟨rfl, HB9.out⟩
      · have hfe : (Y.e == 0) = false := by rw [beq_eq_false_iff_ne]; exact hf
        have hfk : (Y.e != 0) = true := by rw [bne_iff_ne]; exact hf
        have hz := HJ2.out he hf
        obtain ⟨m, hm, hm3⟩ := HEY.out hf
        have hz2 : lexG 0 (x.data.toList ++ c :: y.data.toList) = ⟨Y.e, (x.size : Int) + 1 + (m : Int), []⟩ := by rw [hz, hm, HXS.out]; congr 1; push_cast; omega
        rw [hz2, hm]
        have k0 : (Y.e == Y.e) = true := by simp
        have k1 : ((x.size : Int) + 1 + (m : Int) == (x.size : Int) + 1 + (m : Int)) = true := by simp
        clear HJ1 HJ2 HJ3 HOX HOY hz hz2 hm
        simp only [List.length_nil]
        go_wp2_with fail
        go_ret
        exact ⟨rfl, HB6.out⟩
    · have hee : (X.e == 0) = false := by rw [beq_eq_false_iff_ne]; exact he
      have hek : (X.e != 0) = true := by rw [bne_iff_ne]; exact he
      have hz := HJ1.out he
      have hl0 : na = 0 := by rw [← hna, (HOX.out.2 he).1]; rfl
      rw [hz, hna, hl0]
      have k0 : (X.e == X.e) = true := by simp
      have k1 : (X.a == X.a) = true := by simp
      clear HJ1 HJ2 HJ3 HOX HOY hz
      go_wp2_with fail
      go_ret
      exact ⟨rfl, HB6.out⟩
  · have hr : Int.tmod q 3 = q % 3 := Int.tmod_eq_emod_of_nonneg q0
    rw [h3] at hr
    go_wp2_with fail
    have hsp : ((⟨#[9, 10, 32]⟩ : ByteArray).extract 1 2).data.toList = [10] := by rfl
    have HBC : Hid (blk (10 : UInt8) = true) := Lib.hid rfl
    generalize (⟨#[9, 10, 32]⟩ : ByteArray).extract 1 2 = sep at *
    generalize (10 : UInt8) = c at *
    clear hr h3
    have hsz : sep.size = 1 := by rw [size_of hsp]; rfl
    have HXS := Lib.hid (size_list x)
    have HYS := Lib.hid (size_list y)
    have HPX := Lib.hid (lexP_small (t := x.data.toList) (by rw [HXS.out]; omega))
    have HPY := Lib.hid (lexP_small (t := y.data.toList) (by rw [HYS.out]; omega))
    have HDZ : Hid ((x ++ sep ++ y).data.toList = x.data.toList ++ c :: y.data.toList) := Lib.hid (by
      rw [app_list, app_list, hsp, List.append_assoc]; rfl)
    have HZS : Hid ((x ++ sep ++ y).size ≤ 1099511627776) := Lib.hid (by rw [app_size, app_size, hsz]; omega)
    have HPZ := Lib.hid (lexP_small (t := x.data.toList ++ c :: y.data.toList) (by rw [List.length_append, List.length_cons, HXS.out, HYS.out]; omega))
    have HJ1 := Lib.hid (joins_first (x := x.data.toList) HBC.out y.data.toList)
    have HJ2 := Lib.hid (joins_second (x := x.data.toList) HBC.out y.data.toList)
    have HJ3 := Lib.hid (joins_both (x := x.data.toList) HBC.out y.data.toList)
    have HOX := Lib.hid (lex_ok x.data.toList 0)
    have HOY := Lib.hid (lex_ok y.data.toList 0)
    have HPO : Hid (∀ u ∈ (lexG 0 y.data.toList).l, 0 ≤ u.p ∧ u.p ≤ 3000) := Lib.hid (fun u hu => by have := lex_pos y.data.toList 0 u hu; rw [HYS.out] at this; simp only [Int.ofNat_zero] at this; omega)
    have HEY : Hid ((lexG 0 y.data.toList).e ≠ 0 → ∃ m : Nat, (lexG 0 y.data.toList).a = (m : Int) ∧ m ≤ 3000) := Lib.hid (fun h => by
      obtain ⟨p, q, h1, h2, _⟩ := lex_err y.data.toList 0 h
      have h3 := congrArg List.length h1
      rw [List.length_append, HYS.out] at h3
      exact ⟨0 + p.length, h2, by omega⟩)
    clear hsp HBC
    refine (H3.out x w3 (by omega) (HG.out.below HB1.out)).mono ?_
    rintro e w4 ⟨va, rfl, hoa⟩
    rw [HPX.out] at hoa ⊢
    have HB4 := Lib.hid (HB1.out.trans (hoa.bel.mono HB1.out.size))
    obtain ⟨A1, c1, rfl, hra⟩ := own_tk hoa.own
    have HRA := Lib.hid hra
    clear hoa hra HPX
    generalize lexG 0 x.data.toList = X at *
    generalize hna : X.l.length = na at *
    go_wp2_with fail
    refine (H3.out y w4 (by omega) (HG.out.below HB4.out)).mono ?_
    rintro e w5 ⟨vb, rfl, hob⟩
    rw [HPY.out] at hob ⊢
    have HB5 := Lib.hid (HB4.out.trans (hob.bel.mono HB4.out.size))
    have HRA5 := Lib.hid (HRA.out.below hob.bel)
    obtain ⟨A2, c2, rfl, hrb⟩ := own_tk hob.own
    have HRB := Lib.hid hrb
    clear hob hrb HPY HRA
    generalize lexG 0 y.data.toList = Y at *
    generalize hnb : Y.l.length = nb at *
    have z1 : x.size + sep.size ≤ 1099511627776 := by omega
    have z2 : (x ++ sep).size + y.size ≤ 1099511627776 := by rw [app_size]; omega
    go_wp2_with fail
    have HX9 := Lib.hid (H3.out _ w5 HZS.out (HG.out.below HB5.out))
    rw [HDZ.out, HPZ.out] at HX9
    refine HX9.out.mono ?_
    rintro e w6 ⟨vc, rfl, hoc⟩
    clear HX9 HZS HDZ z1 z2
    generalize x ++ sep ++ y = zz at *
    generalize x ++ sep = xs at *
    have HB6 := Lib.hid (HB5.out.trans (hoc.bel.mono HB5.out.size))
    have HRA6 := Lib.hid (HRA5.out.below hoc.bel)
    have HRB6 := Lib.hid (HRB.out.below hoc.bel)
    obtain ⟨A3, c3, rfl, hrc⟩ := own_tk hoc.own
    have HRC := Lib.hid hrc
    clear hoc hrc HPZ HRA5 HRB
    by_cases he : X.e = 0
    · have hee : (X.e == 0) = true := by rw [beq_iff_eq]; exact he
      have hek : (X.e != 0) = false := by rw [bne_eq_false_iff_eq]; exact he
      by_cases hf : Y.e = 0
      · have hfe : (Y.e == 0) = true := by rw [beq_iff_eq]; exact hf
        have hfk : (Y.e != 0) = false := by rw [bne_eq_false_iff_eq]; exact hf
        have hz := HJ3.out he hf
        generalize lexG 0 (x.data.toList ++ c :: y.data.toList) = Z at *
        clear HJ1 HJ2 HJ3
        obtain ⟨LA, hLA⟩ := (HOX.out.1 he).2
        obtain ⟨LB, hLB⟩ := (HOY.out.1 hf).2
        have hna1 : 1 ≤ na ∧ na ≤ 3001 := by
          have h := hLA.2.1
          rw [← hna, hLA.1, List.length_append]; simp only [List.length_cons, List.length_nil]; rw [HXS.out] at h; omega
        have hnb1 : nb ≤ 3001 := by
          have h := hLB.2.1
          rw [← hnb, hLB.1, List.length_append]; simp only [List.length_cons, List.length_nil]; rw [HYS.out] at h; omega
        clear hLA hLB LA LB HOX HOY
        obtain ⟨nc, hnc⟩ : ∃ nc, nc = Z.l.length := ⟨_, rfl⟩
        have hnc2 : nc = na - 1 + nb := by
          rw [hnc, hz, List.length_append, List.length_dropLast, List.length_map, hna, hnb]
        have HAT : Hid (∀ k, (k < na - 1 → ∃ u, Z.l[k]? = some u ∧ X.l[k]? = some u) ∧ (∀ d, k = na - 1 + d → k < nc → ∃ u, Y.l[d]? = some u ∧ Z.l[k]? = some (mvT (x.size + 1) u))) := Lib.hid (fun k => by
          rw [hnc, ← hna, hz, ← HXS.out]
          exact joins_at k)
        have hze : Z.e = 0 := by rw [hz]
        rw [← hnc, hze]
        have hcn : ((nc : Int) != (na : Int) - 1 + (nb : Int)) = false := by rw [bne_eq_false_iff_eq]; omega
        have HNC := Lib.hid hnc2
        obtain ⟨hna0, hna2⟩ := hna1
        clear hz hnc hnc2 hze hna hnb
        go_wp2_with fail
        go_loopw [21] (fun i wr => ∃ (k : Nat), k ≤ nc ∧ i = .int .i64 k ∧ Hid (Below w6.heap.size w6 wr)) (fun i _ => nc - (intOf i).toNat)
        case atStart => exact ⟨0, Nat.zero_le _, rfl, Lib.hid (Below.refl _ _)⟩
        case round =>
          obtain ⟨k, hk, rfl, HK⟩ := hrel
          by_cases hlt : k < nc
          · have hkn := HNC.out
            have hws := HK.out.size
            have n0 : (0 : Int) ≤ (k : Int) := by omega
            have n1 : (k : Int) < (nc : Int) := by omega
            by_cases hka : k < na - 1
            · obtain ⟨u, hu1, hu2⟩ := (HAT.out k).1 hka
              obtain ⟨b3, o3, rfl, hb3, hc3⟩ := HRC.out.at_ hu1
              obtain ⟨b1, o1, rfl, hb1, hc1⟩ := HRA6.out.at_ hu2
              obtain ⟨y0, y1, y2, y3⟩ := hc3.below hb3 HK.out
              obtain ⟨x0, x1, x2, x3⟩ := hc1.below hb1 HK.out
              have n2 : (k : Int) < (na : Int) - 1 := by omega
              have n3 : (k : Int) < (na : Int) := by omega
              have l1 : b1 < wr.heap.size := by omega
              have l3 : b3 < wr.heap.size := by omega
              have HBF : Hid (∀ w', Below wr.heap.size wr w' → Below w6.heap.size w6 w') := Lib.hid (fun w' hb => HK.out.trans (hb.mono hws))
              clear hc3 hc1 hu1 hu2 hb3 hb1 hkn HK HAT hcn
              go_wp2_with fail
              go_quiet (fail)
              go_wp2_with fail
              go_roundw
              case rel => exact ⟨k + 1, by omega, by go_num, Lib.hid (HBF.out _ (by repeat' first | assumption | exact Below.refl _ _ | (apply below_drewN) | refine Below.setCell ?_ (by simp only; omega) _ | refine Below.alloc ?_ (by (try simp); (try omega)) _))⟩
              case measure => simp [intOf]; omega
            · obtain ⟨d, hd⟩ : ∃ d, k = na - 1 + d := ⟨k - (na - 1), by omega⟩
              obtain ⟨u, hu2, hu1⟩ := (HAT.out k).2 d hd hlt
              have HD := Lib.hid hd
              obtain ⟨b3, o3, rfl, hb3, hc3⟩ := HRC.out.at_ hu1
              obtain ⟨b1, o1, rfl, hb1, hc1⟩ := HRB6.out.at_ hu2
              obtain ⟨y0, y1, y2, y3⟩ := hc3.below hb3 HK.out
              obtain ⟨x0, x1, x2, x3⟩ := hc1.below hb1 HK.out
              have n2 : ¬ (k : Int) < (na : Int) - 1 := by omega
              have hup := HPO.out u (List.mem_of_getElem? hu2)
              simp only [mvT] at y0 y1 y2 y3
              have n7 : (0 : Int) ≤ u.p + (x.size : Int) ∧ u.p + (x.size : Int) ≤ 10000 := by omega
              have n8 : u.p + (((x.size + 1 : Nat)) : Int) = u.p + (x.size : Int) + 1 := by push_cast; omega
              rw [n8] at y3
              clear n8
              obtain ⟨n7, n9⟩ := n7
              have n3 : (k : Int) - (na : Int) + 1 < (nb : Int) := by omega
              have n4 : (k : Int) ≤ 10000 := by omega
              have n5 : (0 : Int) ≤ (k : Int) - (na : Int) + 1 := by omega
              have n6 : ((k : Int) - (na : Int) + 1).toNat = d := by omega
              have l1 : b1 < wr.heap.size := by omega
              have l3 : b3 < wr.heap.size := by omega
              have HBF : Hid (∀ w', Below wr.heap.size wr w' → Below w6.heap.size w6 w') := Lib.hid (fun w' hb => HK.out.trans (hb.mono hws))
              clear hc3 hc1 hu1 hu2 hb3 hb1 hkn HK HAT hcn hd
              go_wp2_with fail
              go_quiet (fail)
              go_wp2_with fail
              go_roundw
              case rel => exact ⟨k + 1, by omega, by go_num, Lib.hid (HBF.out _ (by repeat' first | assumption | exact Below.refl _ _ | (apply below_drewN) | refine Below.setCell ?_ (by simp only; omega) _ | refine Below.alloc ?_ (by (try simp); (try omega)) _))⟩
              case measure => simp [intOf]; omega
          · obtain rfl : k = nc := by omega
            have HB9 := Lib.hid (HB6.out.trans (HK.out.mono HB6.out.size))
            clear HK HAT
            go_wp2_with fail
            go_ret
            exact ⟨rfl, HB9.out⟩
      · have hfe : (Y.e == 0) = false := by rw [beq_eq_false_iff_ne]; exact hf
        have hfk : (Y.e != 0) = true := by rw [bne_iff_ne]; exact hf
        have hz := HJ2.out he hf
        obtain ⟨m, hm, hm3⟩ := HEY.out hf
        have hz2 : lexG 0 (x.data.toList ++ c :: y.data.toList) = ⟨Y.e, (x.size : Int) + 1 + (m : Int), []⟩ := by rw [hz, hm, HXS.out]; congr 1; push_cast; omega
        rw [hz2, hm]
        have k0 : (Y.e == Y.e) = true := by simp
        have k1 : ((x.size : Int) + 1 + (m : Int) == (x.size : Int) + 1 + (m : Int)) = true := by simp
        clear HJ1 HJ2 HJ3 HOX HOY hz hz2 hm
        simp only [List.length_nil]
        go_wp2_with fail
        go_ret
        exact ⟨rfl, HB6.out⟩
    · have hee : (X.e == 0) = false := by rw [beq_eq_false_iff_ne]; exact he
      have hek : (X.e != 0) = true := by rw [bne_iff_ne]; exact he
      have hz := HJ1.out he
      have hl0 : na = 0 := by rw [← hna, (HOX.out.2 he).1]; rfl
      rw [hz, hna, hl0]
      have k0 : (X.e == X.e) = true := by simp
      have k1 : (X.a == X.a) = true := by simp
      clear HJ1 HJ2 HJ3 HOX HOY hz
      go_wp2_with fail
      go_ret
      exact ⟨rfl, HB6.out⟩
  · have hr : Int.tmod q 3 = q % 3 := Int.tmod_eq_emod_of_nonneg q0
    rw [h3] at hr
    go_wp2_with fail
    have hsp : ((⟨#[9, 10, 32]⟩ : ByteArray).extract 2 3).data.toList = [32] := by rfl
    have HBC : Hid (blk (32 : UInt8) = true) := Lib.hid rfl
    generalize (⟨#[9, 10, 32]⟩ : ByteArray).extract 2 3 = sep at *
    generalize (32 : UInt8) = c at *
    clear hr h3
    have hsz : sep.size = 1 := by rw [size_of hsp]; rfl
    have HXS := Lib.hid (size_list x)
    have HYS := Lib.hid (size_list y)
    have HPX := Lib.hid (lexP_small (t := x.data.toList) (by rw [HXS.out]; omega))
    have HPY := Lib.hid (lexP_small (t := y.data.toList) (by rw [HYS.out]; omega))
    have HDZ : Hid ((x ++ sep ++ y).data.toList = x.data.toList ++ c :: y.data.toList) := Lib.hid (by
      rw [app_list, app_list, hsp, List.append_assoc]; rfl)
    have HZS : Hid ((x ++ sep ++ y).size ≤ 1099511627776) := Lib.hid (by rw [app_size, app_size, hsz]; omega)
    have HPZ := Lib.hid (lexP_small (t := x.data.toList ++ c :: y.data.toList) (by rw [List.length_append, List.length_cons, HXS.out, HYS.out]; omega))
    have HJ1 := Lib.hid (joins_first (x := x.data.toList) HBC.out y.data.toList)
    have HJ2 := Lib.hid (joins_second (x := x.data.toList) HBC.out y.data.toList)
    have HJ3 := Lib.hid (joins_both (x := x.data.toList) HBC.out y.data.toList)
    have HOX := Lib.hid (lex_ok x.data.toList 0)
    have HOY := Lib.hid (lex_ok y.data.toList 0)
    have HPO : Hid (∀ u ∈ (lexG 0 y.data.toList).l, 0 ≤ u.p ∧ u.p ≤ 3000) := Lib.hid (fun u hu => by have := lex_pos y.data.toList 0 u hu; rw [HYS.out] at this; simp only [Int.ofNat_zero] at this; omega)
    have HEY : Hid ((lexG 0 y.data.toList).e ≠ 0 → ∃ m : Nat, (lexG 0 y.data.toList).a = (m : Int) ∧ m ≤ 3000) := Lib.hid (fun h => by
      obtain ⟨p, q, h1, h2, _⟩ := lex_err y.data.toList 0 h
      have h3 := congrArg List.length h1
      rw [List.length_append, HYS.out] at h3
      exact ⟨0 + p.length, h2, by omega⟩)
    clear hsp HBC
    refine (H3.out x w3 (by omega) (HG.out.below HB1.out)).mono ?_
    rintro e w4 ⟨va, rfl, hoa⟩
    rw [HPX.out] at hoa ⊢
    have HB4 := Lib.hid (HB1.out.trans (hoa.bel.mono HB1.out.size))
    obtain ⟨A1, c1, rfl, hra⟩ := own_tk hoa.own
    have HRA := Lib.hid hra
    clear hoa hra HPX
    generalize lexG 0 x.data.toList = X at *
    generalize hna : X.l.length = na at *
    go_wp2_with fail
    refine (H3.out y w4 (by omega) (HG.out.below HB4.out)).mono ?_
    rintro e w5 ⟨vb, rfl, hob⟩
    rw [HPY.out] at hob ⊢
    have HB5 := Lib.hid (HB4.out.trans (hob.bel.mono HB4.out.size))
    have HRA5 := Lib.hid (HRA.out.below hob.bel)
    obtain ⟨A2, c2, rfl, hrb⟩ := own_tk hob.own
    have HRB := Lib.hid hrb
    clear hob hrb HPY HRA
    generalize lexG 0 y.data.toList = Y at *
    generalize hnb : Y.l.length = nb at *
    have z1 : x.size + sep.size ≤ 1099511627776 := by omega
    have z2 : (x ++ sep).size + y.size ≤ 1099511627776 := by rw [app_size]; omega
    go_wp2_with fail
    have HX9 := Lib.hid (H3.out _ w5 HZS.out (HG.out.below HB5.out))
    rw [HDZ.out, HPZ.out] at HX9
    refine HX9.out.mono ?_
    rintro e w6 ⟨vc, rfl, hoc⟩
    clear HX9 HZS HDZ z1 z2
    generalize x ++ sep ++ y = zz at *
    generalize x ++ sep = xs at *
    have HB6 := Lib.hid (HB5.out.trans (hoc.bel.mono HB5.out.size))
    have HRA6 := Lib.hid (HRA5.out.below hoc.bel)
    have HRB6 := Lib.hid (HRB.out.below hoc.bel)
    obtain ⟨A3, c3, rfl, hrc⟩ := own_tk hoc.own
    have HRC := Lib.hid hrc
    clear hoc hrc HPZ HRA5 HRB
    by_cases he : X.e = 0
    · have hee : (X.e == 0) = true := by rw [beq_iff_eq]; exact he
      have hek : (X.e != 0) = false := by rw [bne_eq_false_iff_eq]; exact he
      by_cases hf : Y.e = 0
      · have hfe : (Y.e == 0) = true := by rw [beq_iff_eq]; exact hf
        have hfk : (Y.e != 0) = false := by rw [bne_eq_false_iff_eq]; exact hf
        have hz := HJ3.out he hf
        generalize lexG 0 (x.data.toList ++ c :: y.data.toList) = Z at *
        clear HJ1 HJ2 HJ3
        obtain ⟨LA, hLA⟩ := (HOX.out.1 he).2
        obtain ⟨LB, hLB⟩ := (HOY.out.1 hf).2
        have hna1 : 1 ≤ na ∧ na ≤ 3001 := by
          have h := hLA.2.1
          rw [← hna, hLA.1, List.length_append]; simp only [List.length_cons, List.length_nil]; rw [HXS.out] at h; omega
        have hnb1 : nb ≤ 3001 := by
          have h := hLB.2.1
          rw [← hnb, hLB.1, List.length_append]; simp only [List.length_cons, List.length_nil]; rw [HYS.out] at h; omega
        clear hLA hLB LA LB HOX HOY
        obtain ⟨nc, hnc⟩ : ∃ nc, nc = Z.l.length := ⟨_, rfl⟩
        have hnc2 : nc = na - 1 + nb := by
          rw [hnc, hz, List.length_append, List.length_dropLast, List.length_map, hna, hnb]
        have HAT : Hid (∀ k, (k < na - 1 → ∃ u, Z.l[k]? = some u ∧ X.l[k]? = some u) ∧ (∀ d, k = na - 1 + d → k < nc → ∃ u, Y.l[d]? = some u ∧ Z.l[k]? = some (mvT (x.size + 1) u))) := Lib.hid (fun k => by
          rw [hnc, ← hna, hz, ← HXS.out]
          exact joins_at k)
        have hze : Z.e = 0 := by rw [hz]
        rw [← hnc, hze]
        have hcn : ((nc : Int) != (na : Int) - 1 + (nb : Int)) = false := by rw [bne_eq_false_iff_eq]; omega
        have HNC := Lib.hid hnc2
        obtain ⟨hna0, hna2⟩ := hna1
        clear hz hnc hnc2 hze hna hnb
        go_wp2_with fail
        go_loopw [21] (fun i wr => ∃ (k : Nat), k ≤ nc ∧ i = .int .i64 k ∧ Hid (Below w6.heap.size w6 wr)) (fun i _ => nc - (intOf i).toNat)
        case atStart => exact ⟨0, Nat.zero_le _, rfl, Lib.hid (Below.refl _ _)⟩
        case round =>
          obtain ⟨k, hk, rfl, HK⟩ := hrel
          by_cases hlt : k < nc
          · have hkn := HNC.out
            have hws := HK.out.size
            have n0 : (0 : Int) ≤ (k : Int) := by omega
            have n1 : (k : Int) < (nc : Int) := by omega
            by_cases hka : k < na - 1
            · obtain ⟨u, hu1, hu2⟩ := (HAT.out k).1 hka
              obtain ⟨b3, o3, rfl, hb3, hc3⟩ := HRC.out.at_ hu1
              obtain ⟨b1, o1, rfl, hb1, hc1⟩ := HRA6.out.at_ hu2
              obtain ⟨y0, y1, y2, y3⟩ := hc3.below hb3 HK.out
              obtain ⟨x0, x1, x2, x3⟩ := hc1.below hb1 HK.out
              have n2 : (k : Int) < (na : Int) - 1 := by omega
              have n3 : (k : Int) < (na : Int) := by omega
              have l1 : b1 < wr.heap.size := by omega
              have l3 : b3 < wr.heap.size := by omega
              have HBF : Hid (∀ w', Below wr.heap.size wr w' → Below w6.heap.size w6 w') := Lib.hid (fun w' hb => HK.out.trans (hb.mono hws))
              clear hc3 hc1 hu1 hu2 hb3 hb1 hkn HK HAT hcn
              go_wp2_with fail
              go_quiet (fail)
              go_wp2_with fail
              go_roundw
              case rel => exact ⟨k + 1, by omega, by go_num, Lib.hid (HBF.out _ (by repeat' first | assumption | exact Below.refl _ _ | (apply below_drewN) | refine Below.setCell ?_ (by simp only; omega) _ | refine Below.alloc ?_ (by (try simp); (try omega)) _))⟩
              case measure => simp [intOf]; omega
            · obtain ⟨d, hd⟩ : ∃ d, k = na - 1 + d := ⟨k - (na - 1), by omega⟩
              obtain ⟨u, hu2, hu1⟩ := (HAT.out k).2 d hd hlt
              have HD := Lib.hid hd
              obtain ⟨b3, o3, rfl, hb3, hc3⟩ := HRC.out.at_ hu1
              obtain ⟨b1, o1, rfl, hb1, hc1⟩ := HRB6.out.at_ hu2
              obtain ⟨y0, y1, y2, y3⟩ := hc3.below hb3 HK.out
              obtain ⟨x0, x1, x2, x3⟩ := hc1.below hb1 HK.out
              have n2 : ¬ (k : Int) < (na : Int) - 1 := by omega
              have hup := HPO.out u (List.mem_of_getElem? hu2)
              simp only [mvT] at y0 y1 y2 y3
              have n7 : (0 : Int) ≤ u.p + (x.size : Int) ∧ u.p + (x.size : Int) ≤ 10000 := by omega
              have n8 : u.p + (((x.size + 1 : Nat)) : Int) = u.p + (x.size : Int) + 1 := by push_cast; omega
              rw [n8] at y3
              clear n8
              obtain ⟨n7, n9⟩ := n7
              have n3 : (k : Int) - (na : Int) + 1 < (nb : Int) := by omega
              have n4 : (k : Int) ≤ 10000 := by omega
              have n5 : (0 : Int) ≤ (k : Int) - (na : Int) + 1 := by omega
              have n6 : ((k : Int) - (na : Int) + 1).toNat = d := by omega
              have l1 : b1 < wr.heap.size := by omega
              have l3 : b3 < wr.heap.size := by omega
              have HBF : Hid (∀ w', Below wr.heap.size wr w' → Below w6.heap.size w6 w') := Lib.hid (fun w' hb => HK.out.trans (hb.mono hws))
              clear hc3 hc1 hu1 hu2 hb3 hb1 hkn HK HAT hcn hd
              go_wp2_with fail
              go_quiet (fail)
              go_wp2_with fail
              go_roundw
              case rel => exact ⟨k + 1, by omega, by go_num, Lib.hid (HBF.out _ (by repeat' first | assumption | exact Below.refl _ _ | (apply below_drewN) | refine Below.setCell ?_ (by simp only; omega) _ | refine Below.alloc ?_ (by (try simp); (try omega)) _))⟩
              case measure => simp [intOf]; omega
          · obtain rfl : k = nc := by omega
            have HB9 := Lib.hid (HB6.out.trans (HK.out.mono HB6.out.size))
            clear HK HAT
            go_wp2_with fail
            go_ret
            exact ⟨rfl, HB9.out⟩
      · have hfe : (Y.e == 0) = false := by rw [beq_eq_false_iff_ne]; exact hf
        have hfk : (Y.e != 0) = true := by rw [bne_iff_ne]; exact hf
        have hz := HJ2.out he hf
        obtain ⟨m, hm, hm3⟩ := HEY.out hf
        have hz2 : lexG 0 (x.data.toList ++ c :: y.data.toList) = ⟨Y.e, (x.size : Int) + 1 + (m : Int), []⟩ := by rw [hz, hm, HXS.out]; congr 1; push_cast; omega
        rw [hz2, hm]
        have k0 : (Y.e == Y.e) = true := by simp
        have k1 : ((x.size : Int) + 1 + (m : Int) == (x.size : Int) + 1 + (m : Int)) = true := by simp
        clear HJ1 HJ2 HJ3 HOX HOY hz hz2 hm
        simp only [List.length_nil]
        go_wp2_with fail
        go_ret
        exact ⟨rfl, HB6.out⟩
    · have hee : (X.e == 0) = false := by rw [beq_eq_false_iff_ne]; exact he
      have hek : (X.e != 0) = true := by rw [bne_iff_ne]; exact he
      have hz := HJ1.out he
      have hl0 : na = 0 := by rw [← hna, (HOX.out.2 he).1]; rfl
      rw [hz, hna, hl0]
      have k0 : (X.e == X.e) = true := by simp
      have k1 : (X.a == X.a) = true := by simp
      clear HJ1 HJ2 HJ3 HOX HOY hz
      go_wp2_with fail
      go_ret
      exact ⟨rfl, HB6.out⟩
end Go.Proofs.YtfmocnbhahcgoaaDoor
