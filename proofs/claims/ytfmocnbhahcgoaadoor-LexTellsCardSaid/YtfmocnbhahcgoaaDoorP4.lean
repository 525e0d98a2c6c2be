/-
  Layer 14: the law LexTells: the program against the reference.
-/
import Derived.Test.YtfmocnbhahcgoaaDoorP8
import Derived.Test.YtfmocnbhahcgoaaDoorN1
set_option linter.unusedVariables false
set_option maxRecDepth 100000
namespace Go.Proofs.YtfmocnbhahcgoaaDoor
open Go.RowKit

theorem lexP_len (t : List UInt8) (h : t.length ≤ 3000) : (lexP t).l.length ≤ 3001 := by
  rw [lexP_small (by omega)]
  by_cases he : (lexG 0 t).e = 0
  · obtain ⟨_, L, hL, hn, _⟩ := (lex_ok t 0).1 he
    rw [hL, List.length_append]; simp only [List.length_cons, List.length_nil]; omega
  · rw [((lex_ok t 0).2 he).1]; simp
set_option maxHeartbeats 40000000 in
theorem ltells_any (s : ByteArray) (A : Option Addr) (c : Nat) (L : List Tk) (w : World) (hs : s.size ≤ 9223372036854775807) (hA : TkRow w A L) (hAl : L.length ≤ 9223372036854775807) (hg : Glb w) : Calls Tryd.prog 3 #[.string s, .slice A L.length c] w (BlIs true w) := by
  have H1 := Lib.hid small_any
  have H2 := Lib.hid (fun w' => cut_any s w' hs); clear hs
  have H3 := Lib.hid lex_any
  have H4 := Lib.hid rlex_any
  have H5 := Lib.hid xnumber_any
  have H6 := Lib.hid rnumber_any
  have H7 := Lib.hid same_any
  have H8 := Lib.hid xword_any
  have H9 := Lib.hid rword_any
  have H10 := Lib.hid text_any
  have H11 := Lib.hid rtext_any
  have HG := Lib.hid hg; clear hg
  have HR := Lib.hid hA; clear hA
  go_enter Tryd.func3, Tryd.ntmps3
  go_wp2_with fail
  refine (H1.out w HG.out).mono ?_
  rintro e w1 ⟨rfl, hb1⟩
  have HR1 := Lib.hid (HR.out.below hb1)
  have HB1 := Lib.hid hb1; clear hb1 HR
  by_cases hL : L.length ≤ 100
  case neg =>
    go_wp2_with fail
    go_ret
    exact ⟨rfl, HB1.out⟩
  case pos =>
  go_wp2_with fail
  go_loopw [6] (fun i wr => ∃ (k q : Nat), k ≤ L.length ∧ i = .int .i64 k ∧ wr = w1.drewN q ∧ Hid (∀ j (hj : j < L.length), j < k → L[j].t.length ≤ 100)) (fun i _ => L.length - (intOf i).toNat)
  case atStart => exact ⟨0, 0, Nat.zero_le _, rfl, rfl, Lib.hid (fun j hj h => by omega)⟩
  case round =>
    obtain ⟨k, q, hk, rfl, rfl, HT⟩ := hrel
    by_cases hlt : k < L.length
    · obtain ⟨b, o, rfl, hb, hc⟩ := HR1.out (by omega)
      obtain ⟨x0, x1, x2, x3⟩ := hc k hlt
      have n0 : (0 : Int) ≤ (k : Int) := by omega
      have n1 : (k : Int) < (L.length : Int) := by omega
      have HNX : Hid (L[k].t.length ≤ 100 → ∀ j (hj : j < L.length), j < k + 1 → L[j].t.length ≤ 100) := Lib.hid (fun h j hj hjk => by
        by_cases e : j = k
        · subst e; exact h
        · exact HT.out j hj (by omega))
      have hxs : (⟨L[k].t.toArray⟩ : ByteArray).size = L[k].t.length := size_of (mk_list _)
      clear hc x0 x2 x3
      generalize L[k] = x at *
      generalize (⟨x.t.toArray⟩ : ByteArray) = xt at *
      by_cases hx : xt.size ≤ 100
      · have HX := Lib.hid (HNX.out (by omega))
        clear HNX HT hxs
        go_wp2_with fail
        go_roundw
        case rel => exact ⟨k + 1, _, by omega, by go_num, rfl, HX⟩
        case measure => simp [intOf]; omega
      · clear HNX HT hxs
        go_wp2_with fail
        go_ret
        exact ⟨rfl, below_drewN HB1.out _⟩
    · obtain rfl : k = L.length := by omega
      have HTL : Hid (∀ x ∈ L, x.t.length ≤ 100) := Lib.hid (fun x hx => by
        obtain ⟨j, hj, rfl⟩ := List.getElem_of_mem hx
        exact HT.out j hj hj)
      have HTX : Hid ((textM L).length ≤ 1000000000) := Lib.hid (by
        have := join_bound L HTL.out hL L.length
        rw [List.take_length] at this
        unfold textM; omega)
      have HB2 := Lib.hid (below_drewN HB1.out q)
      have HR2 := Lib.hid (HR1.out.below (below_drewN (Below.refl _ _) q))
      clear HT HR1 HB1
      generalize w1.drewN q = w2 at *
      go_wp2_with fail
      refine (H2.out w2).mono ?_
      rintro e w3 ⟨⟨t, rfl, ht, _⟩, rfl⟩
      have htl : t.data.toList.length ≤ 3000 := by rw [ht]; exact cut_len _
      have hts : t.size ≤ 3000 := by rw [← size_list t]; exact htl
      have hyl := lexP_len t.data.toList htl
      clear ht htl
      generalize hn : L.length = n at *
      go_wp2_with fail
      refine (H3.out t w3 (by omega) (HG.out.below HB2.out)).mono ?_
      rintro e w4 ⟨v4, rfl, ho4⟩
      have HB4 := Lib.hid (HB2.out.trans (ho4.bel.mono HB2.out.size))
      have HR4 := Lib.hid (HR2.out.below ho4.bel)
      obtain ⟨A4, c4, rfl, hr4⟩ := own_tk ho4.own
      have HQ4 := Lib.hid hr4
      clear ho4 hr4 HR2
      have HX4 := Lib.hid (H4.out t w4 (by omega))
      have HX5 := Lib.hid (fun w' h => H5.out t w' (by omega) h)
      have HX6 := Lib.hid (fun w' => H6.out t w' (by omega))
      have HX8 := Lib.hid (fun w' => H8.out t w' (by omega))
      have HX9 := Lib.hid (fun w' => H9.out t w' (by omega))
      generalize lexP t.data.toList = y at *
      generalize hm : y.l.length = m at *
      go_wp2_with fail
      refine HX4.out.mono ?_
      rintro e w5 ⟨v5, rfl, ho5⟩
      have HB5 := Lib.hid (HB4.out.trans (ho5.bel.mono HB4.out.size))
      have HR5 := Lib.hid (HR4.out.below ho5.bel)
      have HQ5 := Lib.hid (HQ4.out.below ho5.bel)
      obtain ⟨A5, c5, rfl, hr5⟩ := own_tk ho5.own
      have HP5 := Lib.hid hr5
      rw [hm]
      clear ho5 hr5 HR4 HQ4 HX4
      go_wp2_with fail
      refine (HX5.out w5 (HG.out.below HB5.out)).mono ?_
      rintro e w6 ⟨rfl, hb6⟩
      have HB6 := Lib.hid (HB5.out.trans (hb6.mono HB5.out.size))
      have HR6 := Lib.hid (HR5.out.below hb6)
      have HQ6 := Lib.hid (HQ5.out.below hb6)
      have HP6 := Lib.hid (HP5.out.below hb6)
      clear hb6 HR5 HQ5 HP5 HX5
      generalize numB t.data.toList = nb at *
      generalize numV t.data.toList = nv at *
      go_wp2_with fail
      refine (HX6.out w6).mono ?_
      rintro e w7 ⟨rfl, hb7⟩
      have HB7 := Lib.hid (HB6.out.trans (hb7.mono HB6.out.size))
      have HR7 := Lib.hid (HR6.out.below hb7)
      have HQ7 := Lib.hid (HQ6.out.below hb7)
      have HP7 := Lib.hid (HP6.out.below hb7)
      clear hb7 HR6 HQ6 HP6 HX6
      have HS7 := Lib.hid (H7.out A4 c4 A5 c5 y.l y.l w7 HQ7.out HP7.out (by omega) (by omega))
      rw [hm, decide_eq_true rfl] at HS7
      go_wp2_with fail
      refine HS7.out.mono ?_
      rintro e w8 ⟨rfl, hb8⟩
      have HB8 := Lib.hid (HB7.out.trans (hb8.mono HB7.out.size))
      have HR8 := Lib.hid (HR7.out.below hb8)
      clear hb8 HR7 HQ7 HP7 HS7
      have e1 : (y.a == y.a) = true := by simp
      have e2 : (y.e == y.e) = true := by simp
      have e3 : (nv == nv) = true := by simp
      have e4 : (nb == nb) = true := by simp
      go_wp2_with fail
      refine (HX8.out w8).mono ?_
      rintro e w9 ⟨rfl, hb9⟩
      have HB9 := Lib.hid (HB8.out.trans (hb9.mono HB8.out.size))
      have HR9 := Lib.hid (HR8.out.below hb9)
      clear hb9 HR8 HX8
      generalize wordB t.data.toList = wb at *
      go_wp2_with fail
      refine (HX9.out w9).mono ?_
      rintro e w10 ⟨rfl, hb10⟩
      have HB10 := Lib.hid (HB9.out.trans (hb10.mono HB9.out.size))
      have HR10 := Lib.hid (HR9.out.below hb10)
      clear hb10 HR9 HX9
      have e5 : (wb == wb) = true := by simp
      have HT10 := Lib.hid (H10.out A c L w10 HR10.out (by omega) HTX.out)
      rw [hn] at HT10
      go_wp2_with fail
      refine HT10.out.mono ?_
      rintro e w11 ⟨u, rfl, hu, hb11⟩
      have HB11 := Lib.hid (HB10.out.trans (hb11.mono HB10.out.size))
      have HR11 := Lib.hid (HR10.out.below hb11)
      have HT11 := Lib.hid (H11.out A c L w11 HR11.out (by omega) HTL.out)
      rw [hn] at HT11
      have HU := Lib.hid hu
      clear hb11 HR10 HT10 hu
      go_wp2_with fail
      refine HT11.out.mono ?_
      rintro e w12 ⟨u2, rfl, hu2, hb12⟩
      have HB12 := Lib.hid (HB11.out.trans (hb12.mono HB11.out.size))
      have heq : (u.toList == u2.toList) = true := by rw [str_eq, HU.out, hu2]; exact decide_eq_true rfl
      clear hu2 hb12 HT11
      go_wp2_with fail
      go_ret
      exact ⟨rfl, HB12.out⟩
end Go.Proofs.YtfmocnbhahcgoaaDoor
