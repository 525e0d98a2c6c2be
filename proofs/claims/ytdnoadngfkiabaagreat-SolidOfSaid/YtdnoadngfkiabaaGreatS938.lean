/-
  Contracts of the reference of layer 9, 4: section, Section, Has, Volume, Top.
  Area and Has of the reference of layer 6, for seats without Gi, Gj, Xn.
-/
import Derived.Test.YtdnoadngfkiabaaGreatS931
import Derived.Test.YtdnoadngfkiabaaGreatS922
import Derived.Test.YtdnoadngfkiabaaGreatS937
import Derived.Laws.AppendOwnNone
import Derived.Test.YtdnoadngfkiabaaGreatS936
import Derived.Test.YtdnoadngfkiabaaGreatS932
set_option linter.unusedVariables false
set_option maxRecDepth 100000
namespace Go.Proofs.YtdnoadngfkiabaaGreat
open Go.RowKit

set_option maxHeartbeats 16000000 in
theorem dsec_any (A : Option Addr) (cap : Nat) (S : List Sl) (z : Int) (w : World) (h : SIn w A cap S) (hne : ∀ s ∈ S, s.ar ≠ []) (hle : ∀ s ∈ S, s.ar.length ≤ 1000000) :
    Calls Tryz.prog 60 #[.slice A S.length cap, .int .i64 z] w (RcRes (secS S z) w) := by
  have hl := h.len
  have H1 := Lib.hid h.row; clear h
  have HNE := Lib.hid hne; have HLE := Lib.hid hle; clear hne hle
  have HB0 := Lib.hid (Below.refl w.heap.size w)
  obtain ⟨i0, hi9, hz0, hz1, hz2⟩ := info_parts infoRect
  go_enter Tryz.func60, Tryz.ntmps60
  go_wp2_with fail
  go_loopw [5] (fun i wr => ∃ (k : Nat), k ≤ S.length ∧ i = .int .i64 k ∧ Hid (Below w.heap.size w wr) ∧ Hid (secS S z = secS (S.drop k) z)) (fun i _ => S.length - (intOf i).toNat)
  case atStart => exact ⟨0, Nat.zero_le _, rfl, HB0, Lib.hid rfl⟩
  case round =>
    clear HB0
    obtain ⟨k, hk, rfl, HB, HS⟩ := hrel
    by_cases hlt : k < S.length
    · obtain ⟨b1, o1, rfl, hb1, hv1⟩ := H1.out (by omega)
      obtain ⟨x0, x1, Aj, cj, x2, hr⟩ := hv1 k hlt
      have wc := fun o => HB.out.cell (p := ⟨b1, o, none⟩) hb1
      have x0 := (wc _).trans x0; have x1 := (wc _).trans x1; have x2 := (wc _).trans x2
      have hbs := HB.out.size
      have hbw : b1 < wr.heap.size := Nat.lt_of_lt_of_le hb1 hbs
      have HR := Lib.hid (hr.below HB.out)
      have n0 : (0 : Int) ≤ (k : Int) := by omega
      have n1 : (k : Int) < (S.length : Int) := by omega
      have HD : Hid (secS (S.drop k) z = if S[k].z0 ≤ z ∧ z < S[k].z1 then S[k].ar else secS (S.drop (k + 1)) z) := Lib.hid (by rw [List.drop_eq_getElem_cons hlt, sec_cons])
      have HN1 : Hid (S[k].ar ≠ []) := Lib.hid (HNE.out _ (List.getElem_mem hlt))
      have HL1 := HLE.out _ (List.getElem_mem hlt)
      clear hv1 wc hr
      generalize S[k] = u at *
      by_cases ca : u.z0 ≤ z
      · by_cases cb : z < u.z1
        · have HE : Hid (secS S z = u.ar) := Lib.hid (by rw [HS.out, HD.out, if_pos ⟨ca, cb⟩])
          have hz : 0 < u.ar.length := List.length_pos_iff.2 HN1.out
          obtain ⟨ba, oa, rfl, hba, hca⟩ := HR.out.row hz
          have HSRC : Hid (Src (wr.alloc (.cells #[] 33)) (.slice (some ⟨ba, oa, none⟩) u.ar.length cj) u.ar.length (rcells u.ar)) := Lib.hid (src_of (HR.out.below ((Below.refl _ _).alloc (Nat.le_refl _) _)) (fun e => by cases e))
          have HOWN := Lib.hid (own_base (zero_own wr) hbs)
          clear HD HS hca hba
          go_wp2_with (at_builtin; refine wpList_append_src rfl _ _ 37 rfl w.heap.size 33 i0 (.agg #[.int .i64 0, .int .i64 0, .int .i64 0, .int .i64 0]) 32 Tryz.underlying37 hi9 hz0 hz1 hz2 rfl _ 0 [] rfl HOWN.out _ u.ar.length (rcells u.ar) rfl HSRC.out ?c3 ?c4 ?c5 ?_)
          case c3 => unfold maxLen; omega
          case c4 => omega
          case c5 => simp; omega
          intro v' w4 hown' hgr
          have hfin : RcRes (secS S z) w (.returned v') w4 := by
            rw [HE.out]
            refine ⟨v', rfl, by simpa using hown', Below.grown (HB.out.alloc hbs _) hgr (by simp; omega) (fun k hk => (HOWN.out.lt k hk).1)⟩
          have HF := Lib.hid hfin
          clear hown' hgr hfin
          go_wp2_with fail
          go_ret
          exact HF.out
        · have HE : Hid (secS S z = secS (S.drop (k + 1)) z) := Lib.hid (by rw [HS.out, HD.out, if_neg (fun h => cb h.2)])
          clear HD HS HR
          go_wp2_with fail
          go_roundw
          case rel => exact ⟨k + 1, by omega, by go_num, HB, HE⟩
          case measure => simp [intOf]; omega
      · have HE : Hid (secS S z = secS (S.drop (k + 1)) z) := Lib.hid (by rw [HS.out, HD.out, if_neg (fun h => ca h.1)])
        clear HD HS HR
        go_wp2_with fail
        go_roundw
        case rel => exact ⟨k + 1, by omega, by go_num, HB, HE⟩
        case measure => simp [intOf]; omega
    · obtain rfl : k = S.length := by omega
      have HE : Hid (secS S z = []) := Lib.hid (by rw [HS.out, List.drop_length]; rfl)
      clear HS
      go_wp2_with fail
      go_ret
      rw [HE.out]
      exact ⟨_, rfl, World.ownsRow_nil _ _ _ _, HB.out⟩
theorem sol_lens {S : List Sl} (h : SolP S) : (∀ s ∈ S, s.ar ≠ []) ∧ ∀ s ∈ S, s.ar.length ≤ 1000000 := ⟨fun s hs => (h.form.each s hs).ne, fun s hs => by have := h.rects s hs; omega⟩
set_option maxHeartbeats 4000000 in
theorem dsection_yes {A : Option Addr} {cap : Nat} {S : List Sl} {w : World} (h : SIn w A cap S) (hs : SolP S) (z : Int) : Calls Tryz.prog 25 #[.slice A S.length cap, .int .i64 z] w (RcRes (secS S z) w) := by
  have HR := Lib.hid (dright_yes h hs)
  have HD := Lib.hid (fun w' (hb : Below w.heap.size w w') => dsec_any A cap S z w' (h.below hb) (sol_lens hs).1 (sol_lens hs).2)
  clear h hs
  go_enter Tryz.func25, Tryz.ntmps25
  go_wp2_with fail
  refine HR.out.mono ?_
  rintro e1 w1 ⟨rfl, hb1⟩
  have HB1 := Lib.hid hb1; clear hb1
  go_wp2_with fail
  refine (HD.out _ HB1.out).mono ?_
  rintro e2 w2 ⟨v, rfl, ho, hb2⟩
  have FIN : Hid (RcRes (secS S z) w (.returned v) w2) := Lib.hid ⟨v, rfl, own_base ho HB1.out.size, HB1.out.trans (hb2.mono HB1.out.size)⟩
  clear ho hb2
  go_wp2_with fail
  go_ret
  exact FIN.out
set_option maxHeartbeats 4000000 in
theorem dsection_no {A : Option Addr} {cap : Nat} {S : List Sl} {w : World} (h : SIn w A cap S) (hs : ¬ SolP S) (z : Int) : Calls Tryz.prog 25 #[.slice A S.length cap, .int .i64 z] w (RcRes [] w) := by
  have HR := Lib.hid (dright_no h hs)
  clear h hs
  go_enter Tryz.func25, Tryz.ntmps25
  go_wp2_with fail
  refine HR.out.mono ?_
  rintro e1 w1 ⟨rfl, hb1⟩
  have HB1 := Lib.hid hb1; clear hb1
  go_wp2_with fail
  go_ret
  exact ⟨_, rfl, World.ownsRow_nil _ _ _ _, HB1.out⟩
end Go.Proofs.YtdnoadngfkiabaaGreat
namespace Go.Proofs.YtdnoadngfkiabaaGreat
open Go.RowKit

set_option maxHeartbeats 16000000 in
theorem varea_yes (A : Option Addr) (cap : Nat) (l : List Rc) (w : World) (h : RIn w A cap l) (hr : RegP l) : Calls Tryz.prog 62 #[.slice A l.length cap] w (InIs (areaL l) w) := by
  have RA := Lib.hid (vRight_yes A cap l w h.row h.len hr)
  have H := Lib.hid h
  have HOK := Lib.hid (form_ok hr.1)
  have hlen := hr.2
  clear h hr
  go_enter Tryz.func62, Tryz.ntmps62
  go_wp2_with fail
  refine RA.out.mono ?_
  rintro e1 w1 ⟨rfl, hb1⟩
  have HB1 := Lib.hid hb1; clear hb1 RA
  go_wp2_with fail
  go_loopw [3, 4] (fun s i wr => ∃ k : Nat, k ≤ l.length ∧ i = .int .i64 k ∧ s = .int .i64 (areaL (l.take k)) ∧ Hid (Below w.heap.size w wr)) (fun _ i _ => l.length - (intOf i).toNat)
  case atStart => exact ⟨0, Nat.zero_le _, rfl, rfl, HB1⟩
  case round =>
    clear HB1
    obtain ⟨k, hk, rfl, rfl, HB⟩ := hrel
    by_cases hlt : k < l.length
    · obtain ⟨b1, o1, rfl, hb1, hv1⟩ := H.out.row (by omega)
      obtain ⟨x0, x1, x2, x3⟩ := hv1 k hlt
      have wc := fun o => HB.out.cell (p := ⟨b1, o, none⟩) hb1
      have x0 := (wc _).trans x0; have x1 := (wc _).trans x1; have x2 := (wc _).trans x2; have x3 := (wc _).trans x3
      have hbw : b1 < wr.heap.size := Nat.lt_of_lt_of_le hb1 HB.out.size
      clear hv1 wc
      have i0 : (0 : Int) ≤ (k : Int) := by omega
      have i1 : (k : Int) < (l.length : Int) := by omega
      have hok := HOK.out _ (List.getElem_mem hlt)
      have HNX : Hid (areaL (l.take (k + 1)) = areaL (l.take k) + areaR l[k]) := Lib.hid (by rw [List.take_succ_eq_append_getElem hlt, areaL_append]; simp [areaL])
      have hb0 := areaL_bd (l.take k)
      have hb2 := area_bd l[k]
      have hb3 := area_nn l[k]
      have har := area_ok hok
      have hkl : (l.take k).length = k := by rw [List.length_take]; omega
      rw [hkl] at hb0
      obtain ⟨hb4, hb5⟩ := hb0
      have hb6 : areaL (l.take k) ≤ 219902325555200 := by omega
      obtain ⟨u, hu⟩ : ∃ u, u = l[k] := ⟨_, rfl⟩
      rw [← hu] at x0 x1 x2 x3 HNX hok hb2 hb3 har
      clear hu hkl hb5
      obtain ⟨⟨a1, a2, a3⟩, a4, a5, a6⟩ := hok
      have q1 : IntKind.i64.wrap (u.X1 - u.X0) = u.X1 - u.X0 := IntWalk.i64_in _ (by omega)
      have q2 : IntKind.i64.wrap (u.Y1 - u.Y0) = u.Y1 - u.Y0 := IntWalk.i64_in _ (by omega)
      have q3 : IntKind.i64.wrap ((u.X1 - u.X0) * (u.Y1 - u.Y0)) = (u.X1 - u.X0) * (u.Y1 - u.Y0) := IntWalk.i64_in _ (by rw [← har]; omega)
      have q4 : IntKind.i64.wrap (areaL (l.take k) + (u.X1 - u.X0) * (u.Y1 - u.Y0)) = areaL (l.take k) + (u.X1 - u.X0) * (u.Y1 - u.Y0) := IntWalk.i64_in _ (by rw [← har]; omega)
      have HN2 : Hid (areaL (l.take (k + 1)) = areaL (l.take k) + (u.X1 - u.X0) * (u.Y1 - u.Y0)) := Lib.hid (by rw [HNX.out, har])
      clear har hb2 hb3 HNX
      generalize areaL (l.take k) = sm at *
      go_wp2_with fail
      go_quiet (fail)
      have HB2 := fun n => Lib.hid (below_drewN HB.out n)
      go_wp2_with fail
      go_roundw
      case rel => exact ⟨k + 1, by omega, by go_num, by rw [HN2.out], HB2 _⟩
      case measure => simp [intOf]; omega
    · obtain rfl : k = l.length := by omega
      rw [List.take_length]
      generalize areaL l = ar at *
      go_wp2_with fail
      go_ret
      exact ⟨rfl, HB.out⟩
theorem vhas_any (A : Option Addr) (cap : Nat) (l : List Rc) (x y : Int) (w : World) (hl : RIn w A cap l) : Calls Tryz.prog 63 #[.slice A l.length cap, .int .i64 x, .int .i64 y] w (BlIs (hasRg l x y) w) := by
  by_cases hr : RegP l
  · rw [show hasRg l x y = hasD l x y from by
      unfold hasRg; rw [decide_eq_true hr, Bool.true_and, Bool.eq_iff_iff, hasB_iff, hasD_iff]]
    exact vHas_yes A cap l x y w hl.row hr
  · rw [show hasRg l x y = false by unfold hasRg; rw [decide_eq_false hr, Bool.false_and]]
    have RA := Lib.hid (vRight_no A cap l w hl.row hl.len hr)
    clear hl hr
    go_enter Tryz.func63, Tryz.ntmps63
    go_wp2_with fail
    refine RA.out.mono ?_
    rintro e1 w1 ⟨rfl, hb1⟩
    have HB1 := Lib.hid hb1; clear hb1 RA
    go_wp2_with fail
    go_ret
    exact ⟨rfl, HB1.out⟩
end Go.Proofs.YtdnoadngfkiabaaGreat
