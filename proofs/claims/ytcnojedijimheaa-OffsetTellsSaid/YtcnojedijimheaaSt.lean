/-
  OffsetNear: the law's walk.
-/
import Derived.Test.YtcnojedijimheaaSr
set_option linter.unusedVariables false
set_option maxRecDepth 100000
namespace Go.Proofs.Ytcnojedijimheaa
open Go.RowKit

theorem zfew_any (A : Option Addr) (cap : Nat) (l : List Rc) (w : World) : Calls Try.prog 16 #[.slice A l.length cap] w (BlIs (decide (l.length ≤ 24)) w) := by
  by_cases h : l.length ≤ 24
  · rw [decide_eq_true h]
    have s : (l.length : Int) ≤ 24 := by omega
    clear h
    go_enter Try.func16, Try.ntmps16
    go_wp2
    go_ret
    exact ⟨rfl, by (repeat' first | exact Below.refl _ _ | assumption | (apply below_drewN) | (refine Below.setCell ?_ (by (try simp); (try omega)) _) | (refine Below.alloc ?_ (by (try simp); (try omega)) _) | (refine Below.trans ?_ (Below.mono (Hid.out (by assumption)) (by (try simp); (try omega)))))⟩
  · rw [decide_eq_false h]
    have s : ¬ (l.length : Int) ≤ 24 := by omega
    clear h
    go_enter Try.func16, Try.ntmps16
    go_wp2
    go_ret
    exact ⟨rfl, by (repeat' first | exact Below.refl _ _ | assumption | (apply below_drewN) | (refine Below.setCell ?_ (by (try simp); (try omega)) _) | (refine Below.alloc ?_ (by (try simp); (try omega)) _) | (refine Below.trans ?_ (Below.mono (Hid.out (by assumption)) (by (try simp); (try omega)))))⟩
set_option maxHeartbeats 8000000 in
theorem zints_any (A1 : Option Addr) (c1 : Nat) (A2 : Option Addr) (c2 : Nat) (l m : List Int) (w : World) (h1 : IRow w A1 l) (h2 : IRow w A2 m) (hl : l.length ≤ 1099511627776) (hm : m.length ≤ 1099511627776) :
    Calls Try.prog 23 #[.slice A1 l.length c1, .slice A2 m.length c2] w (BlIs (decide (l = m)) w) := by
  have H1 := Lib.hid h1; clear h1
  have H2 := Lib.hid h2; clear h2
  by_cases hlen : l.length = m.length
  · have hll : ((l.length : Int) != (m.length : Int)) = false := by simp [hlen]
    go_enter Try.func23, Try.ntmps23
    go_wp2
    go_loopw [5] (fun i wr => ∃ (k q : Nat), k ≤ l.length ∧ i = .int .i64 k ∧ wr = w.drewN q ∧ l.take k = m.take k) (fun i _ => l.length - (intOf i).toNat)
    case atStart => exact ⟨0, 0, Nat.zero_le _, rfl, rfl, rfl⟩
    case round =>
      obtain ⟨k, q, hk, rfl, rfl, ht⟩ := hrel
      by_cases hlt : k < l.length
      · obtain ⟨b1, o1, rfl, hb1, hv1⟩ := H1.out (by omega)
        obtain ⟨b2, o2, rfl, hb2, hv2⟩ := H2.out (by omega)
        have x1 := hv1 k hlt
        have x2 := hv2 k (by omega)
        have hk2 : k < m.length := by omega
        have HT := Lib.hid (take_eq_next hlt hk2 ht); clear ht
        have HNE : Hid (l[k] ≠ m[k] → l ≠ m) := Lib.hid (fun h e => h (by subst e; rfl))
        have i0 : (0 : Int) ≤ (k : Int) := by omega
        have i1 : (k : Int) < (l.length : Int) := by omega
        have i2 : (k : Int) < (m.length : Int) := by omega
        clear hv1 hv2
        generalize l[k] = u at *
        generalize m[k] = v at *
        by_cases e : u = v
        · have hne : (u != v) = false := by simp [e]
          have HT2 := Lib.hid (HT.out e); clear HT HNE e
          go_wp2_with fail
          go_quiet (fail)
          go_wp2
          go_roundw
          case rel => exact ⟨k + 1, _, by omega, by go_num, rfl, HT2.out⟩
          case measure => simp [intOf]; omega
        · have hne : (u != v) = true := by simp [e]
          have HN := Lib.hid (HNE.out e); clear HT HNE e
          go_wp2_with fail
          go_quiet (fail)
          go_wp2
          go_ret
          exact ⟨by rw [decide_eq_false HN.out]; rfl, by (repeat' first | exact Below.refl _ _ | assumption | (apply below_drewN) | (refine Below.setCell ?_ (by (try simp); (try omega)) _) | (refine Below.alloc ?_ (by (try simp); (try omega)) _) | (refine Below.trans ?_ (Below.mono (Hid.out (by assumption)) (by (try simp); (try omega)))))⟩
      · obtain rfl : k = l.length := by omega
        have he : l = m := by
          rw [List.take_length] at ht
          rw [ht, hlen, List.take_length]
        go_wp2
        go_ret
        exact ⟨by rw [decide_eq_true he]; rfl, by (repeat' first | exact Below.refl _ _ | assumption | (apply below_drewN) | (refine Below.setCell ?_ (by (try simp); (try omega)) _) | (refine Below.alloc ?_ (by (try simp); (try omega)) _) | (refine Below.trans ?_ (Below.mono (Hid.out (by assumption)) (by (try simp); (try omega)))))⟩
  · have hll : ((l.length : Int) != (m.length : Int)) = true := by simp; omega
    rw [decide_eq_false (fun e => hlen (by rw [e]))]
    go_enter Try.func23, Try.ntmps23
    go_wp2
    go_ret
    exact ⟨rfl, by (repeat' first | exact Below.refl _ _ | assumption | (apply below_drewN) | (refine Below.setCell ?_ (by (try simp); (try omega)) _) | (refine Below.alloc ?_ (by (try simp); (try omega)) _) | (refine Below.trans ?_ (Below.mono (Hid.out (by assumption)) (by (try simp); (try omega)))))⟩
/-- what is within a distance is what of all within a greater one is. -/
noncomputable def nearI (a : List Rc) (d : Int) (LL : List (List Rc)) (z : Int) : Bool := decide (NearP a d (LL.getD z.toNat []))
theorem winK_sub (a : List Rc) {d d' : Int} (h : d ≤ d') (LL : List (List Rc)) (n : Nat) : winK a d LL n = (winK a d' LL n).filter (nearI a d LL) := by
  unfold winK
  rw [List.filter_map, List.filter_filter]
  congr 1
  apply List.filter_congr
  intro i _
  unfold nearI
  simp only [Function.comp, Int.toNat_natCast]
  by_cases c : NearP a d (LL.getD i [])
  · have c2 : NearP a d' (LL.getD i []) := ⟨c.1, Int.le_trans c.2 h⟩
    rw [decide_eq_true c, decide_eq_true c2]; rfl
  · rw [decide_eq_false c]; rfl
/-- the greedy count along the greater list. -/
theorem greedy {p : Int → Bool} {W G : List Int} (hG : G = W.filter p) {i : Nat} (hi : i < W.length) : (∀ h : ((W.take i).filter p).length < G.length, p W[i] = true → G[((W.take i).filter p).length] = W[i]) ∧ (∀ h : ((W.take i).filter p).length < G.length, p W[i] = false → G[((W.take i).filter p).length] ≠ W[i]) ∧ ((W.take (i + 1)).filter p).length = ((W.take i).filter p).length + if p W[i] = true then 1 else 0 := by
  have e : W = W.take i ++ W[i] :: W.drop (i + 1) := by rw [← List.drop_eq_getElem_cons hi, List.take_append_drop]
  refine ⟨fun h hp => ?_, fun h hp he => ?_, ?_⟩
  · have eG : G = (W.take i).filter p ++ W[i] :: (W.drop (i + 1)).filter p := by
      rw [hG]; conv => lhs; rw [e]
      rw [List.filter_append, List.filter_cons, if_pos hp]
    simp only [eG]
    rw [List.getElem_append_right (Nat.le_refl _)]
    simp
  · have hm : G[((W.take i).filter p).length] ∈ W.filter p := by rw [← hG]; exact List.getElem_mem _
    rw [he] at hm
    have := (List.mem_filter.1 hm).2
    rw [hp] at this; cases this
  · rw [List.take_succ_eq_append_getElem hi, List.filter_append, List.length_append]
    by_cases hp : p W[i] = true
    · simp [hp]
    · simp [hp]
/-- a list of lists as it is handed in. -/
def LIn0 (w : World) (A : Option Addr) (LL : List (List Rc)) : Prop := 0 < LL.length → ∃ b off, A = some ⟨b, off, none⟩ ∧ b < w.heap.size ∧ ∀ j (h : j < LL.length), ∃ Aj cj, w.cell? ⟨b, off + j, none⟩ = some (.slice Aj LL[j].length cj) ∧ RRow w Aj LL[j] ∧ LL[j].length ≤ cj ∧ cj ≤ 9223372036854775807
set_option maxHeartbeats 40000000 in
theorem znear_any (A1 : Option Addr) (c1 : Nat) (A2 : Option Addr) (c2 : Nat) (a : List Rc) (LL : List (List Rc)) (d more : Int) (w : World) (hra : RRow w A1 a) (hca : a.length ≤ c1) (hcb : c1 ≤ 9223372036854775807) (hL : LIn0 w A2 LL) (hlen : LL.length ≤ 9223372036854775807) (hd : In64 d) (hm : 0 ≤ more ∧ more ≤ 255) :
    Calls Try.prog 9 #[.slice A1 a.length c1, .slice A2 LL.length c2, .int .i64 d, .int .u8 more] w (BlIs true w) := by
  obtain ⟨i0, hi9, hz0, hz1, hz2⟩ := info_parts infoInt
  have HRA := Lib.hid (show RRow w A1 a ∧ a.length ≤ c1 ∧ c1 ≤ 9223372036854775807 from ⟨hra, hca, hcb⟩); have HL0 := Lib.hid hL; have HM := Lib.hid hm; have HD := Lib.hid hd
  clear hra hca hcb hL hm hd
  go_enter Try.func9, Try.ntmps9
  go_wp2_with fail
  refine (zsmall_any _).mono ?_
  rintro e1 w1 ⟨rfl, hb1⟩
  have HB1 := Lib.hid hb1; clear hb1
  go_wp2_with fail
  refine (zfew_any A1 c1 a _).mono ?_
  by_cases hf : a.length ≤ 24
  · rw [decide_eq_true hf]
    have HA := Lib.hid (⟨HRA.out.1, by omega, HRA.out.2.1, HRA.out.2.2⟩ : RIn w A1 c1 a)
    clear hf HRA
    rintro e2 w2 ⟨rfl, hb2⟩
    have HB2 := Lib.hid (HB1.out.trans (hb2.mono HB1.out.size)); clear hb2 HB1
    by_cases h8 : LL.length ≤ 8
    · have s8 : ¬ (8 : Int) < (LL.length : Int) := by omega
      by_cases d0 : 0 ≤ d
      · have s0 : ¬ d < 0 := by omega
        by_cases d1 : d ≤ 1048576
        · have s1 : ¬ (1048576 : Int) < d := by omega
          have K0 : Hid (OwnI (.slice none 0 0) (winK a d LL 0) w w2) := Lib.hid ⟨World.ownsRow_nil _ _ _ _, HB2.out⟩
          go_wp2_with fail
          go_loopw [10, 11, 12, 13] (fun v i _ _ wr => ∃ (k : Nat) (v0 : Value), k ≤ LL.length ∧ i = .int .i64 k ∧ v0 = v ∧ Hid (OwnI v0 (winK a d LL k) w wr) ∧ Hid (∀ j (h : j < LL.length), j < k → LL[j].length ≤ 24)) (fun _ i _ _ _ => LL.length - (intOf i).toNat)
          case atStart => exact ⟨0, _, Nat.zero_le _, rfl, rfl, K0, Lib.hid (fun j h h1 => absurd h1 (Nat.not_lt_zero _))⟩
          case round =>
            clear K0 HB2
            obtain ⟨k, v0, hk, rfl, rfl, HO, HF⟩ := hrel
            by_cases hlt : k < LL.length
            · obtain ⟨b1, o1, rfl, hb1, hv1⟩ := HL0.out (by omega)
              obtain ⟨Aj, cj, x0, hrow, hcj, hcj2⟩ := hv1 k hlt
              have HF2 : Hid (LL[k].length ≤ 24 → ∀ j (h : j < LL.length), j < k + 1 → LL[j].length ≤ 24) := Lib.hid (fun h24 j h h1 => by
                by_cases e : j < k
                · exact HF.out j h e
                · obtain rfl : j = k := by omega
                  exact h24)
              clear HF
              have X0 := Lib.hid x0
              have x0 := (HO.out.bel.cell (p := ⟨b1, o1 + k, none⟩) hb1).trans x0
              have j0 : (0 : Int) ≤ (k : Int) := by omega
              have j1 : (k : Int) < (LL.length : Int) := by omega
              have HN := Lib.hid (winK_next a d LL k hlt)
              have hln := winK_len a d LL k
              have HROW := Lib.hid hrow
              clear hv1 hrow
              obtain ⟨b, hb⟩ : ∃ b, b = LL[k] := ⟨_, rfl⟩
              rw [← hb] at x0 X0 HN HROW HF2 hcj
              clear hb
              have HNP : Hid (NearP a d b ↔ (gapM a b).2 = true ∧ (gapM a b).1 ≤ d) := Lib.hid Iff.rfl
              obtain ⟨X, hX⟩ : ∃ X, X = winK a d LL k := ⟨_, rfl⟩
              rw [← hX] at HO HN hln
              clear hX
              go_wp2_with fail
              refine (zfew_any Aj cj b _).mono ?_
              by_cases hfb : b.length ≤ 24
              · rw [decide_eq_true hfb]
                have HF3 := Lib.hid (HF2.out hfb)
                have HRJ := Lib.hid (⟨HROW.out, by omega, hcj, hcj2⟩ : RIn w Aj cj b)
                rintro e3 w3 ⟨rfl, hb3⟩
                have HO1 := Lib.hid (own_step HO.out hb3); clear hb3 HO x0 hfb hcj hcj2 HF2
                have HG := Lib.hid (ygap_any A1 c1 Aj cj a b w3 (HA.out.below HO1.out.bel) (HRJ.out.below HO1.out.bel))
                have x0 := (HO1.out.bel.cell (p := ⟨b1, o1 + k, none⟩) hb1).trans X0.out
                generalize gapM a b = gm at *
                obtain ⟨gn, gb⟩ := gm
                simp only [] at HNP
                go_wp2_with fail
                refine HG.out.mono ?_
                rintro e4 w4 ⟨rfl, hb4⟩
                have HO2 := Lib.hid (own_step HO1.out hb4)
                have hbs := HO2.out.bel.size
                clear hb4 HO1 HG x0 X0 HROW HRJ
                simp only []
                cases gb with
                | false =>
                  rw [if_neg (fun h => by have := (HNP.out.1 h).1; cases this), List.append_nil] at HN
                  have HO3 : Hid (OwnI v0 (winK a d LL (k + 1)) w w4) := Lib.hid (by rw [HN.out]; exact HO2.out)
                  clear HN HO2 HNP
                  go_wp2_with fail
                  go_roundw
                  case rel => exact ⟨k + 1, v0, by omega, by go_num, rfl, HO3, HF3⟩
                  case measure => simp [intOf]; omega
                | true =>
                  by_cases c : gn ≤ d
                  · rw [if_pos (HNP.out.2 ⟨rfl, c⟩)] at HN
                    have HOWN := Lib.hid HO2.out.own
                    clear HNP
                    go_wp2_with (at_builtin; refine wpList_append_own _ rfl _ _ 35 rfl w.heap.size 3 i0 (.int .i64 0) 1 8 Try.underlying35 hi9 hz0 hz1 hz2 rfl (by decide) _ _ _ rfl (HOWN.out.alloc _) ⟨w4.heap.size, 0, none⟩ 1 1 [.int .i64 (k : Int)] rfl rfl ?c1 ?c2 ?c3 ?c4 ?c5 ?_)
                    case c1 =>
                      intro t z ht
                      match t, ht with
                      | 0, ht => simp at ht; subst ht; simp [Addr.add]
                    case c2 => intro z hz; simp at hz; subst hz; rfl
                    case c3 => unfold maxLen; omega
                    case c4 => omega
                    case c5 => simp; omega
                    intro v4 w5 hown4 hgr4 _
                    have HO4 : Hid (OwnI v4 (winK a d LL (k + 1)) w w5) := Lib.hid (by
                      rw [HN.out]
                      refine own_grow (own_step HO2.out ((Below.refl _ _).alloc (Nat.le_refl _) (.cells #[.int .i64 (k : Int)] 3))) ?_ hgr4
                      rw [icells_snoc1, List.length_append]; exact hown4)
                    clear hown4 hgr4 HOWN HO2 HN
                    go_wp2_with fail
                    go_roundw
                    case rel => exact ⟨k + 1, v4, by omega, by go_num, rfl, HO4, HF3⟩
                    case measure => simp [intOf]; omega
                  · rw [if_neg (fun h => c (HNP.out.1 h).2), List.append_nil] at HN
                    have HO3 : Hid (OwnI v0 (winK a d LL (k + 1)) w w4) := Lib.hid (by rw [HN.out]; exact HO2.out)
                    clear HN HO2 HNP
                    go_wp2_with fail
                    go_roundw
                    case rel => exact ⟨k + 1, v0, by omega, by go_num, rfl, HO3, HF3⟩
                    case measure => simp [intOf]; omega
              · rw [decide_eq_false hfb]
                rintro e3 w3 ⟨rfl, hb3⟩
                have HB3 := Lib.hid (HO.out.bel.trans (hb3.mono HO.out.bel.size)); clear hb3
                go_wp2_with fail
                go_ret
                exact ⟨rfl, HB3.out⟩
            · obtain rfl : k = LL.length := by omega
              obtain ⟨A3, c3, rfl, hrow⟩ := IRow.of_own HO.out.own
              have HL : Hid (LIn w A2 LL) := Lib.hid (fun h0 => by
                obtain ⟨b, off, e, hl, hc⟩ := HL0.out h0
                refine ⟨b, off, e, hl, fun j hj => ?_⟩
                obtain ⟨Aj, cj, q1, q2, q3, q4⟩ := hc j hj
                exact ⟨Aj, cj, q1, q2, by have := HF.out j hj hj; omega, q3, q4⟩)
              clear HL0 HF
              have HW1 := Lib.hid (ywithin_any A1 c1 A2 c2 a LL d wr (HA.out.below HO.out.bel) (HL.out.below HO.out.bel) (by omega))
              have HROW := Lib.hid hrow; have HB := Lib.hid HO.out.bel
              clear hrow HO
              have hGl := winK_len a d LL LL.length
              have hWl := winK_len a (d + more) LL LL.length
              have HSUB := Lib.hid (winK_sub a (show d ≤ d + more by have := HM.out; omega) LL LL.length)
              have HW2 := Lib.hid (fun w' (h : Below w.heap.size w w') => ywithin_any A1 c1 A2 c2 a LL (d + more) w' (HA.out.below h) (HL.out.below h) (by omega))
              have mm := HM.out.1; have mm2 := HM.out.2
              have qm : IntKind.i64.wrap more = more := IntWalk.i64_in _ (by omega)
              have qd : IntKind.i64.wrap (d + more) = d + more := IntWalk.i64_in _ (by omega)
              generalize winK a d LL LL.length = G at *
              generalize winK a (d + more) LL LL.length = Wd at *
              go_wp2_with fail
              refine HW1.out.mono ?_
              rintro e5 w5 ⟨A5, c5, rfl, hr5, hb5⟩
              have HB5 := Lib.hid (HB.out.trans (hb5.mono HB.out.size))
              have HROW5 := Lib.hid (HROW.out.below hb5)
              have HG5 := Lib.hid hr5
              clear hb5 hr5 HB HROW HW1
              go_wp2_with fail
              refine (HW2.out _ HB5.out).mono ?_
              rintro e6 w6 ⟨A6, c6, rfl, hr6, hb6⟩
              have HB6 := Lib.hid (HB5.out.trans (hb6.mono HB5.out.size))
              have HROW6 := Lib.hid (HROW5.out.below hb6)
              have HG6 := Lib.hid (HG5.out.below hb6)
              have HW6 := Lib.hid hr6
              clear hb6 hr6 HB5 HROW5 HG5 HW2 qm qd
              have HI := Lib.hid (zints_any A5 c5 A3 c3 G G w6 HG6.out HROW6.out (by omega) (by omega))
              rw [decide_eq_true rfl] at HI
              have hle : G.length ≤ Wd.length := by have := HSUB.out; rw [this]; exact List.length_filter_le _ _
              have sl : ¬ (Wd.length : Int) < (G.length : Int) := by omega
              go_wp2_with fail
              refine HI.out.mono ?_
              rintro e7 w7 ⟨rfl, hb7⟩
              have HB7 := Lib.hid (HB6.out.trans (hb7.mono HB6.out.size))
              have HG7 := Lib.hid (HG6.out.below hb7)
              have HW7 := Lib.hid (HW6.out.below hb7)
              clear hb7 HB6 HROW6 HG6 HW6 HI
              obtain ⟨p, hp⟩ : ∃ p, p = nearI a d LL := ⟨_, rfl⟩
              rw [← hp] at HSUB
              clear hp
              go_wp2_with fail
              go_loopw [16, 17] (fun at_ i wq => ∃ (k q : Nat), k ≤ Wd.length ∧ i = .int .i64 k ∧ at_ = .int .i64 ((((Wd.take k).filter p).length : Nat) : Int) ∧ wq = w7.drewN q) (fun _ i _ => Wd.length - (intOf i).toNat)
              case atStart => exact ⟨0, 0, Nat.zero_le _, rfl, rfl, rfl⟩
              case round =>
                obtain ⟨k, q, hk, rfl, rfl, rfl⟩ := hrel
                have HLE : Hid (((Wd.take k).filter p).length ≤ G.length ∧ (k = Wd.length → ((Wd.take k).filter p).length = G.length)) := Lib.hid (by
                  refine ⟨?_, fun e => by rw [e, List.take_length, ← HSUB.out]⟩
                  rw [HSUB.out]
                  conv => rhs; rw [← List.take_append_drop k Wd, List.filter_append, List.length_append]
                  omega)
                obtain ⟨n, hn⟩ : ∃ n, n = ((Wd.take k).filter p).length := ⟨_, rfl⟩
                by_cases hlt : k < Wd.length
                · obtain ⟨g1, g2, g3⟩ := greedy HSUB.out hlt
                  rw [← hn] at g1 g2 g3 HLE ⊢
                  clear hn
                  have s1 : (k : Int) < (Wd.length : Int) := by omega
                  have s1' : (0 : Int) ≤ (k : Int) := by omega
                  by_cases hgo : n < G.length
                  · have s2 : (n : Int) < (G.length : Int) := by omega
                    have s2' : (0 : Int) ≤ (n : Int) := by omega
                    obtain ⟨bW, oW, rfl, hbW, hcW⟩ := HW7.out (by omega)
                    obtain ⟨bG, oG, rfl, hbG, hcG⟩ := HG7.out (by omega)
                    have x0 := hcW k hlt
                    have x1 := hcG n hgo
                    have G1 := g1 hgo; have G2 := g2 hgo
                    clear hcW hcG g1 g2
                    have HN3 := Lib.hid g3; clear g3
                    obtain ⟨u, hu⟩ : ∃ u, u = Wd[k] := ⟨_, rfl⟩
                    obtain ⟨v, hv⟩ : ∃ v, v = G[n] := ⟨_, rfl⟩
                    rw [← hu] at x0 G1 G2 HN3
                    rw [← hv] at x1 G1 G2
                    clear hu hv
                    cases hpu : p u with
                    | true =>
                      have ev := G1 hpu
                      subst ev
                      rw [hpu, if_pos rfl] at HN3
                      clear G2 G1 hpu
                      go_wp2_with fail
                      go_quiet (fail)
                      go_wp2
                      go_roundw
                      case rel => exact ⟨k + 1, _, by omega, by go_num, by rw [HN3.out]; go_num, rfl⟩
                      case measure => simp [intOf]; omega
                    | false =>
                      have ev := G2 hpu
                      have ne : (u == v) = false := by simp; exact fun e => ev e.symm
                      rw [hpu, if_neg (by simp)] at HN3
                      clear G2 G1 hpu ev
                      go_wp2_with fail
                      go_quiet (fail)
                      go_wp2
                      go_roundw
                      case rel => exact ⟨k + 1, _, by omega, by go_num, by rw [HN3.out]; rfl, rfl⟩
                      case measure => simp [intOf]; omega
                  · have eN : n = G.length := by have := HLE.out.1; omega
                    subst eN
                    clear g1 g2 g3 hgo
                    have s2 : ¬ ((G.length : Nat) : Int) < (G.length : Int) := by omega
                    have HBE : Hid (Below w.heap.size w (w7.drewN q)) := Lib.hid (below_drewN HB7.out q)
                    go_wp2
                    go_ret
                    exact ⟨rfl, HBE.out⟩
                · obtain rfl : k = Wd.length := by omega
                  have eN := HLE.out.2 rfl
                  rw [eN]
                  have s1 : ¬ ((Wd.length : Nat) : Int) < (Wd.length : Int) := by omega
                  have HBE : Hid (Below w.heap.size w (w7.drewN q)) := Lib.hid (below_drewN HB7.out q)
                  clear hn HLE eN
                  go_wp2
                  go_ret
                  exact ⟨rfl, HBE.out⟩
        · have s1 : (1048576 : Int) < d := by omega
          go_wp2_with fail
          go_ret
          exact ⟨rfl, HB2.out⟩
      · have s0 : d < 0 := by omega
        go_wp2_with fail
        go_ret
        exact ⟨rfl, HB2.out⟩
    · have s8 : (8 : Int) < (LL.length : Int) := by omega
      go_wp2_with fail
      go_ret
      exact ⟨rfl, HB2.out⟩
  · rw [decide_eq_false hf]
    clear hf
    rintro e2 w2 ⟨rfl, hb2⟩
    have HB2 := Lib.hid (HB1.out.trans (hb2.mono HB1.out.size)); clear hb2 HB1
    go_wp2_with fail
    go_ret
    exact ⟨rfl, HB2.out⟩
end Go.Proofs.Ytcnojedijimheaa
