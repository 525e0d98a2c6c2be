/-
  Contracts of the reference of layer 6 (2): combine (sub).
-/
import Derived.Test.YtdnoadngfkiabaaGreatS901
import Derived.BigQuiet
set_option linter.unusedVariables false
set_option maxRecDepth 100000
namespace Go.Proofs.YtdnoadngfkiabaaGreat
open Go.RowKit

set_option maxHeartbeats 40000000 in
theorem vcombine_sub (A1 : Option Addr) (k1 : Nat) (A2 : Option Addr) (k2 : Nat) (a b : List Int) (w : World) (h1 : IRow w A1 a) (h2 : IRow w A2 b) (ha : a.length ≤ 1073741824) (hb : b.length ≤ 1073741824) :
    Calls Tryz.prog 71 #[.slice A1 a.length k1, .slice A2 b.length k2, .int .i64 2] w fun e w' => ∃ v, e = .returned v ∧ OwnI v (comb (fun p q => p && !q) a b) w w' := by
  obtain ⟨i0, hi9, hz0, hz1, hz2⟩ := info_parts infoInt
  have H1 := Lib.hid h1; clear h1
  have H2 := Lib.hid h2; clear h2
  have K0 : Hid (OwnI (.slice none 0 0) [] w w) := Lib.hid ⟨World.ownsRow_nil _ _ _ _, Below.refl _ _⟩
  go_enter Tryz.func71, Tryz.ntmps71
  go_wp2
  go_loopw [7, 8, 9, 10] (fun v i k s wr => ∃ (p q : Nat) (P Q : Bool) (l : List Int), p ≤ a.length ∧ q ≤ b.length ∧ i = .int .i64 p ∧ k = .int .i64 q ∧ s = .bool (((fun p q => p && !q) : Bool → Bool → Bool) P Q) ∧ p % 2 = (if P = true then 1 else 0) ∧ q % 2 = (if Q = true then 1 else 0) ∧ CombAt (fun p q => p && !q) a b p q P Q l ∧ l.length ≤ p + q ∧ Hid (OwnI v l w wr)) (fun _ i k _ _ => (a.length - (intOf i).toNat) + (b.length - (intOf k).toNat))
  case atStart => exact ⟨0, 0, false, false, [], Nat.zero_le _, Nat.zero_le _, rfl, rfl, rfl, rfl, rfl, rfl, Nat.zero_le _, K0⟩
  case round =>
    clear K0
    obtain ⟨p, q, P, Q, l, hp, hq, rfl, rfl, rfl, hP, hQ, hC, hlen, hO⟩ := hrel
    by_cases c1 : p < a.length
    · obtain ⟨b1, o1, rfl, hb1, hv1⟩ := (H1.out.below hO.out.bel) (by omega)
      have x1 := hv1 p c1
      have ex : ∃ x, x = a[p] := ⟨_, rfl⟩
      obtain ⟨x, hx⟩ := ex
      rw [← hx] at x1
      clear hv1
      have j0 : (0 : Int) ≤ (p : Int) := by omega
      have j1 : (p : Int) < (a.length : Int) := by omega
      by_cases c2 : q < b.length
      · obtain ⟨b2, o2, rfl, hb2, hv2⟩ := (H2.out.below hO.out.bel) (by omega)
        have x2 := hv2 q c2
        have ey : ∃ y, y = b[q] := ⟨_, rfl⟩
        obtain ⟨y, hy⟩ := ey
        rw [← hy] at x2
        clear hv2
        have j2 : (0 : Int) ≤ (q : Int) := by omega
        have j3 : (q : Int) < (b.length : Int) := by omega
        have j4 : (if (b.length : Int) - 1 < (q : Int) then (b.length : Int) - 1 else (q : Int)) = (q : Int) := if_neg (by omega)
        by_cases hxy : x < y
        · skip
          cases P <;> cases Q
          · obtain ⟨tp, tp'⟩ := tmod_even (p := p) (by simpa using hP)
            obtain ⟨tq, tq'⟩ := tmod_even (p := q) (by simpa using hQ)
            have eP : p % 2 = 0 := by simpa using hP
            have eQ : q % 2 = 0 := by simpa using hQ
            clear hP hQ
            as_aux_lemma =>
              have hn : CombAt (fun p q => p && !q) a b (p + 1) (q) true false (l ++ [x]) := by
                unfold CombAt at hC ⊢
                rw [drop_at c1, drop_at c2, ← hx, ← hy, combGo, if_pos hxy] at hC
                rw [drop_at c2, ← hy]
                rw [List.append_assoc]
                exact hC
              have HN := Lib.hid hn; clear hn hC
              clear hx hy
              have HC1 := Lib.hid hp; have HC2 := Lib.hid hq
              have q4 : IntKind.i64.wrap ((b.length : Int) - 1) = (b.length : Int) - 1 := IntWalk.i64_in _ (by omega)
              go_wp2_with fail
              go_quiet (fail)
              clear q4
              generalize hwx : World.drewN wr _ = wx at *
              have hO2 := hO.out.drewN nq
              rw [hwx] at hO2
              have hown := hO2.own; have hbs := hO2.bel.size
              have x1w : wx.cell? ⟨b1, o1 + p, none⟩ = some (.int .i64 x) := by rw [← hwx]; exact x1
              have x2w : wx.cell? ⟨b2, o2 + q, none⟩ = some (.int .i64 y) := by rw [← hwx]; exact x2
              clear hwx
              go_wp2_with (at_builtin; refine wpList_append_own _ rfl _ _ 51 rfl w.heap.size 3 i0 (.int .i64 0) 1 8 Tryz.underlying51 hi9 hz0 hz1 hz2 rfl (by decide) _ _ _ rfl (hown.alloc _) ⟨wx.heap.size, 0, none⟩ 1 1 [.int .i64 x] rfl rfl ?c1 ?c2 ?c3 ?c4 ?c5 ?_)
              case c1 =>
                intro j u hj
                match j, hj with
                | 0, hj => simp at hj; subst hj; simp [Addr.add]
              case c2 => intro u hu; simp at hu; subst hu; rfl
              case c3 => unfold maxLen; omega
              case c4 => omega
              case c5 => simp; omega
              intro v' w4 hown' hgr _
              have hI : OwnI v' (l ++ [x]) w w4 := by
                refine ⟨by rw [icells_snoc, List.length_append]; exact hown', Below.grown (w := wx.alloc (.cells #[.int .i64 x] 3)) (hO2.bel.alloc hbs _) hgr (by simp; omega) (fun k hk => (hown.lt k hk).1)⟩
              have HI := Lib.hid hI
              clear hown' hgr hown hI hO2 hO
              go_wp2
              go_roundw
              case rel => exact ⟨p + 1, q, true, false, l ++ [x], by omega, by omega, by go_num, by go_num, rfl, (by first | omega | (simp; omega)), (by first | omega | (simp; omega)), HN.out, by simp; omega, HI⟩
              case measure => simp [intOf]; omega
          · obtain ⟨tp, tp'⟩ := tmod_even (p := p) (by simpa using hP)
            obtain ⟨tq, tq'⟩ := tmod_odd (p := q) (by simpa using hQ)
            have eP : p % 2 = 0 := by simpa using hP
            have eQ : q % 2 = 1 := by simpa using hQ
            clear hP hQ
            as_aux_lemma =>
              have hn : CombAt (fun p q => p && !q) a b (p + 1) (q) true true l := by
                unfold CombAt at hC ⊢
                rw [drop_at c1, drop_at c2, ← hx, ← hy, combGo, if_pos hxy] at hC
                rw [drop_at c2, ← hy]
                exact hC
              have HN := Lib.hid hn; clear hn hC
              clear hx hy
              have HC1 := Lib.hid hp; have HC2 := Lib.hid hq
              have q4 : IntKind.i64.wrap ((b.length : Int) - 1) = (b.length : Int) - 1 := IntWalk.i64_in _ (by omega)
              go_wp2_with fail
              go_quiet (fail)
              clear q4
              go_wp2
              go_roundw
              case rel => exact ⟨p + 1, q, true, true, l, by omega, by omega, by go_num, by go_num, rfl, (by first | omega | (simp; omega)), (by first | omega | (simp; omega)), HN.out, by omega, Lib.hid (hO.out.drewN _)⟩
              case measure => simp [intOf]; omega
          · obtain ⟨tp, tp'⟩ := tmod_odd (p := p) (by simpa using hP)
            obtain ⟨tq, tq'⟩ := tmod_even (p := q) (by simpa using hQ)
            have eP : p % 2 = 1 := by simpa using hP
            have eQ : q % 2 = 0 := by simpa using hQ
            clear hP hQ
            as_aux_lemma =>
              have hn : CombAt (fun p q => p && !q) a b (p + 1) (q) false false (l ++ [x]) := by
                unfold CombAt at hC ⊢
                rw [drop_at c1, drop_at c2, ← hx, ← hy, combGo, if_pos hxy] at hC
                rw [drop_at c2, ← hy]
                rw [List.append_assoc]
                exact hC
              have HN := Lib.hid hn; clear hn hC
              clear hx hy
              have HC1 := Lib.hid hp; have HC2 := Lib.hid hq
              have q4 : IntKind.i64.wrap ((b.length : Int) - 1) = (b.length : Int) - 1 := IntWalk.i64_in _ (by omega)
              go_wp2_with fail
              go_quiet (fail)
              clear q4
              generalize hwx : World.drewN wr _ = wx at *
              have hO2 := hO.out.drewN nq
              rw [hwx] at hO2
              have hown := hO2.own; have hbs := hO2.bel.size
              have x1w : wx.cell? ⟨b1, o1 + p, none⟩ = some (.int .i64 x) := by rw [← hwx]; exact x1
              have x2w : wx.cell? ⟨b2, o2 + q, none⟩ = some (.int .i64 y) := by rw [← hwx]; exact x2
              clear hwx
              go_wp2_with (at_builtin; refine wpList_append_own _ rfl _ _ 51 rfl w.heap.size 3 i0 (.int .i64 0) 1 8 Tryz.underlying51 hi9 hz0 hz1 hz2 rfl (by decide) _ _ _ rfl (hown.alloc _) ⟨wx.heap.size, 0, none⟩ 1 1 [.int .i64 x] rfl rfl ?c1 ?c2 ?c3 ?c4 ?c5 ?_)
              case c1 =>
                intro j u hj
                match j, hj with
                | 0, hj => simp at hj; subst hj; simp [Addr.add]
              case c2 => intro u hu; simp at hu; subst hu; rfl
              case c3 => unfold maxLen; omega
              case c4 => omega
              case c5 => simp; omega
              intro v' w4 hown' hgr _
              have hI : OwnI v' (l ++ [x]) w w4 := by
                refine ⟨by rw [icells_snoc, List.length_append]; exact hown', Below.grown (w := wx.alloc (.cells #[.int .i64 x] 3)) (hO2.bel.alloc hbs _) hgr (by simp; omega) (fun k hk => (hown.lt k hk).1)⟩
              have HI := Lib.hid hI
              clear hown' hgr hown hI hO2 hO
              go_wp2
              go_roundw
              case rel => exact ⟨p + 1, q, false, false, l ++ [x], by omega, by omega, by go_num, by go_num, rfl, (by first | omega | (simp; omega)), (by first | omega | (simp; omega)), HN.out, by simp; omega, HI⟩
              case measure => simp [intOf]; omega
          · obtain ⟨tp, tp'⟩ := tmod_odd (p := p) (by simpa using hP)
            obtain ⟨tq, tq'⟩ := tmod_odd (p := q) (by simpa using hQ)
            have eP : p % 2 = 1 := by simpa using hP
            have eQ : q % 2 = 1 := by simpa using hQ
            clear hP hQ
            as_aux_lemma =>
              have hn : CombAt (fun p q => p && !q) a b (p + 1) (q) false true l := by
                unfold CombAt at hC ⊢
                rw [drop_at c1, drop_at c2, ← hx, ← hy, combGo, if_pos hxy] at hC
                rw [drop_at c2, ← hy]
                exact hC
              have HN := Lib.hid hn; clear hn hC
              clear hx hy
              have HC1 := Lib.hid hp; have HC2 := Lib.hid hq
              have q4 : IntKind.i64.wrap ((b.length : Int) - 1) = (b.length : Int) - 1 := IntWalk.i64_in _ (by omega)
              go_wp2_with fail
              go_quiet (fail)
              clear q4
              go_wp2
              go_roundw
              case rel => exact ⟨p + 1, q, false, true, l, by omega, by omega, by go_num, by go_num, rfl, (by first | omega | (simp; omega)), (by first | omega | (simp; omega)), HN.out, by omega, Lib.hid (hO.out.drewN _)⟩
              case measure => simp [intOf]; omega
        · by_cases hyx : y < x
          · skip
            cases P <;> cases Q
            · obtain ⟨tp, tp'⟩ := tmod_even (p := p) (by simpa using hP)
              obtain ⟨tq, tq'⟩ := tmod_even (p := q) (by simpa using hQ)
              have eP : p % 2 = 0 := by simpa using hP
              have eQ : q % 2 = 0 := by simpa using hQ
              clear hP hQ
              as_aux_lemma =>
                have hn : CombAt (fun p q => p && !q) a b (p) (q + 1) false true l := by
                  unfold CombAt at hC ⊢
                  rw [drop_at c1, drop_at c2, ← hx, ← hy, combGo, if_neg hxy, if_pos hyx] at hC
                  rw [drop_at c1, ← hx]
                  exact hC
                have HN := Lib.hid hn; clear hn hC
                clear hx hy
                have HC1 := Lib.hid hp; have HC2 := Lib.hid hq
                have q4 : IntKind.i64.wrap ((b.length : Int) - 1) = (b.length : Int) - 1 := IntWalk.i64_in _ (by omega)
                go_wp2_with fail
                go_quiet (fail)
                clear q4
                go_wp2
                go_roundw
                case rel => exact ⟨p, q + 1, false, true, l, by omega, by omega, by go_num, by go_num, rfl, (by first | omega | (simp; omega)), (by first | omega | (simp; omega)), HN.out, by omega, Lib.hid (hO.out.drewN _)⟩
                case measure => simp [intOf]; omega
            · obtain ⟨tp, tp'⟩ := tmod_even (p := p) (by simpa using hP)
              obtain ⟨tq, tq'⟩ := tmod_odd (p := q) (by simpa using hQ)
              have eP : p % 2 = 0 := by simpa using hP
              have eQ : q % 2 = 1 := by simpa using hQ
              clear hP hQ
              as_aux_lemma =>
                have hn : CombAt (fun p q => p && !q) a b (p) (q + 1) false false l := by
                  unfold CombAt at hC ⊢
                  rw [drop_at c1, drop_at c2, ← hx, ← hy, combGo, if_neg hxy, if_pos hyx] at hC
                  rw [drop_at c1, ← hx]
                  exact hC
                have HN := Lib.hid hn; clear hn hC
                clear hx hy
                have HC1 := Lib.hid hp; have HC2 := Lib.hid hq
                have q4 : IntKind.i64.wrap ((b.length : Int) - 1) = (b.length : Int) - 1 := IntWalk.i64_in _ (by omega)
                go_wp2_with fail
                go_quiet (fail)
                clear q4
                go_wp2
                go_roundw
                case rel => exact ⟨p, q + 1, false, false, l, by omega, by omega, by go_num, by go_num, rfl, (by first | omega | (simp; omega)), (by first | omega | (simp; omega)), HN.out, by omega, Lib.hid (hO.out.drewN _)⟩
                case measure => simp [intOf]; omega
            · obtain ⟨tp, tp'⟩ := tmod_odd (p := p) (by simpa using hP)
              obtain ⟨tq, tq'⟩ := tmod_even (p := q) (by simpa using hQ)
              have eP : p % 2 = 1 := by simpa using hP
              have eQ : q % 2 = 0 := by simpa using hQ
              clear hP hQ
              as_aux_lemma =>
                have hn : CombAt (fun p q => p && !q) a b (p) (q + 1) true true (l ++ [y]) := by
                  unfold CombAt at hC ⊢
                  rw [drop_at c1, drop_at c2, ← hx, ← hy, combGo, if_neg hxy, if_pos hyx] at hC
                  rw [drop_at c1, ← hx]
                  rw [List.append_assoc]
                  exact hC
                have HN := Lib.hid hn; clear hn hC
                clear hx hy
                have HC1 := Lib.hid hp; have HC2 := Lib.hid hq
                have q4 : IntKind.i64.wrap ((b.length : Int) - 1) = (b.length : Int) - 1 := IntWalk.i64_in _ (by omega)
                go_wp2_with fail
                go_quiet (fail)
                clear q4
                generalize hwx : World.drewN wr _ = wx at *
                have hO2 := hO.out.drewN nq
                rw [hwx] at hO2
                have hown := hO2.own; have hbs := hO2.bel.size
                have x1w : wx.cell? ⟨b1, o1 + p, none⟩ = some (.int .i64 x) := by rw [← hwx]; exact x1
                have x2w : wx.cell? ⟨b2, o2 + q, none⟩ = some (.int .i64 y) := by rw [← hwx]; exact x2
                clear hwx
                go_wp2_with (at_builtin; refine wpList_append_own _ rfl _ _ 51 rfl w.heap.size 3 i0 (.int .i64 0) 1 8 Tryz.underlying51 hi9 hz0 hz1 hz2 rfl (by decide) _ _ _ rfl (hown.alloc _) ⟨wx.heap.size, 0, none⟩ 1 1 [.int .i64 y] rfl rfl ?c1 ?c2 ?c3 ?c4 ?c5 ?_)
                case c1 =>
                  intro j u hj
                  match j, hj with
                  | 0, hj => simp at hj; subst hj; simp [Addr.add]
                case c2 => intro u hu; simp at hu; subst hu; rfl
                case c3 => unfold maxLen; omega
                case c4 => omega
                case c5 => simp; omega
                intro v' w4 hown' hgr _
                have hI : OwnI v' (l ++ [y]) w w4 := by
                  refine ⟨by rw [icells_snoc, List.length_append]; exact hown', Below.grown (w := wx.alloc (.cells #[.int .i64 y] 3)) (hO2.bel.alloc hbs _) hgr (by simp; omega) (fun k hk => (hown.lt k hk).1)⟩
                have HI := Lib.hid hI
                clear hown' hgr hown hI hO2 hO
                go_wp2
                go_roundw
                case rel => exact ⟨p, q + 1, true, true, l ++ [y], by omega, by omega, by go_num, by go_num, rfl, (by first | omega | (simp; omega)), (by first | omega | (simp; omega)), HN.out, by simp; omega, HI⟩
                case measure => simp [intOf]; omega
            · obtain ⟨tp, tp'⟩ := tmod_odd (p := p) (by simpa using hP)
              obtain ⟨tq, tq'⟩ := tmod_odd (p := q) (by simpa using hQ)
              have eP : p % 2 = 1 := by simpa using hP
              have eQ : q % 2 = 1 := by simpa using hQ
              clear hP hQ
              as_aux_lemma =>
                have hn : CombAt (fun p q => p && !q) a b (p) (q + 1) true false (l ++ [y]) := by
                  unfold CombAt at hC ⊢
                  rw [drop_at c1, drop_at c2, ← hx, ← hy, combGo, if_neg hxy, if_pos hyx] at hC
                  rw [drop_at c1, ← hx]
                  rw [List.append_assoc]
                  exact hC
                have HN := Lib.hid hn; clear hn hC
                clear hx hy
                have HC1 := Lib.hid hp; have HC2 := Lib.hid hq
                have q4 : IntKind.i64.wrap ((b.length : Int) - 1) = (b.length : Int) - 1 := IntWalk.i64_in _ (by omega)
                go_wp2_with fail
                go_quiet (fail)
                clear q4
                generalize hwx : World.drewN wr _ = wx at *
                have hO2 := hO.out.drewN nq
                rw [hwx] at hO2
                have hown := hO2.own; have hbs := hO2.bel.size
                have x1w : wx.cell? ⟨b1, o1 + p, none⟩ = some (.int .i64 x) := by rw [← hwx]; exact x1
                have x2w : wx.cell? ⟨b2, o2 + q, none⟩ = some (.int .i64 y) := by rw [← hwx]; exact x2
                clear hwx
                go_wp2_with (at_builtin; refine wpList_append_own _ rfl _ _ 51 rfl w.heap.size 3 i0 (.int .i64 0) 1 8 Tryz.underlying51 hi9 hz0 hz1 hz2 rfl (by decide) _ _ _ rfl (hown.alloc _) ⟨wx.heap.size, 0, none⟩ 1 1 [.int .i64 y] rfl rfl ?c1 ?c2 ?c3 ?c4 ?c5 ?_)
                case c1 =>
                  intro j u hj
                  match j, hj with
                  | 0, hj => simp at hj; subst hj; simp [Addr.add]
                case c2 => intro u hu; simp at hu; subst hu; rfl
                case c3 => unfold maxLen; omega
                case c4 => omega
                case c5 => simp; omega
                intro v' w4 hown' hgr _
                have hI : OwnI v' (l ++ [y]) w w4 := by
                  refine ⟨by rw [icells_snoc, List.length_append]; exact hown', Below.grown (w := wx.alloc (.cells #[.int .i64 y] 3)) (hO2.bel.alloc hbs _) hgr (by simp; omega) (fun k hk => (hown.lt k hk).1)⟩
                have HI := Lib.hid hI
                clear hown' hgr hown hI hO2 hO
                go_wp2
                go_roundw
                case rel => exact ⟨p, q + 1, true, false, l ++ [y], by omega, by omega, by go_num, by go_num, rfl, (by first | omega | (simp; omega)), (by first | omega | (simp; omega)), HN.out, by simp; omega, HI⟩
                case measure => simp [intOf]; omega
          · obtain rfl : x = y := by omega
            clear hxy hyx
            cases P <;> cases Q
            · obtain ⟨tp, tp'⟩ := tmod_even (p := p) (by simpa using hP)
              obtain ⟨tq, tq'⟩ := tmod_even (p := q) (by simpa using hQ)
              have eP : p % 2 = 0 := by simpa using hP
              have eQ : q % 2 = 0 := by simpa using hQ
              clear hP hQ
              as_aux_lemma =>
                have hn : CombAt (fun p q => p && !q) a b (p + 1) (q + 1) true true l := by
                  unfold CombAt at hC ⊢
                  rw [drop_at c1, drop_at c2, ← hx, ← hy, combGo, if_neg (by omega), if_neg (by omega)] at hC
                  exact hC
                have HN := Lib.hid hn; clear hn hC
                clear hx hy
                have HC1 := Lib.hid hp; have HC2 := Lib.hid hq
                have q4 : IntKind.i64.wrap ((b.length : Int) - 1) = (b.length : Int) - 1 := IntWalk.i64_in _ (by omega)
                go_wp2_with fail
                go_quiet (fail)
                clear q4
                go_wp2
                go_roundw
                case rel => exact ⟨p + 1, q + 1, true, true, l, by omega, by omega, by go_num, by go_num, rfl, (by first | omega | (simp; omega)), (by first | omega | (simp; omega)), HN.out, by omega, Lib.hid (hO.out.drewN _)⟩
                case measure => simp [intOf]; omega
            · obtain ⟨tp, tp'⟩ := tmod_even (p := p) (by simpa using hP)
              obtain ⟨tq, tq'⟩ := tmod_odd (p := q) (by simpa using hQ)
              have eP : p % 2 = 0 := by simpa using hP
              have eQ : q % 2 = 1 := by simpa using hQ
              clear hP hQ
              as_aux_lemma =>
                have hn : CombAt (fun p q => p && !q) a b (p + 1) (q + 1) true false (l ++ [x]) := by
                  unfold CombAt at hC ⊢
                  rw [drop_at c1, drop_at c2, ← hx, ← hy, combGo, if_neg (by omega), if_neg (by omega)] at hC
                  rw [List.append_assoc]
                  exact hC
                have HN := Lib.hid hn; clear hn hC
                clear hx hy
                have HC1 := Lib.hid hp; have HC2 := Lib.hid hq
                have q4 : IntKind.i64.wrap ((b.length : Int) - 1) = (b.length : Int) - 1 := IntWalk.i64_in _ (by omega)
                go_wp2_with fail
                go_quiet (fail)
                clear q4
                generalize hwx : World.drewN wr _ = wx at *
                have hO2 := hO.out.drewN nq
                rw [hwx] at hO2
                have hown := hO2.own; have hbs := hO2.bel.size
                have x1w : wx.cell? ⟨b1, o1 + p, none⟩ = some (.int .i64 x) := by rw [← hwx]; exact x1
                have x2w : wx.cell? ⟨b2, o2 + q, none⟩ = some (.int .i64 x) := by rw [← hwx]; exact x2
                clear hwx
                go_wp2_with (at_builtin; refine wpList_append_own _ rfl _ _ 51 rfl w.heap.size 3 i0 (.int .i64 0) 1 8 Tryz.underlying51 hi9 hz0 hz1 hz2 rfl (by decide) _ _ _ rfl (hown.alloc _) ⟨wx.heap.size, 0, none⟩ 1 1 [.int .i64 x] rfl rfl ?c1 ?c2 ?c3 ?c4 ?c5 ?_)
                case c1 =>
                  intro j u hj
                  match j, hj with
                  | 0, hj => simp at hj; subst hj; simp [Addr.add]
                case c2 => intro u hu; simp at hu; subst hu; rfl
                case c3 => unfold maxLen; omega
                case c4 => omega
                case c5 => simp; omega
                intro v' w4 hown' hgr _
                have hI : OwnI v' (l ++ [x]) w w4 := by
                  refine ⟨by rw [icells_snoc, List.length_append]; exact hown', Below.grown (w := wx.alloc (.cells #[.int .i64 x] 3)) (hO2.bel.alloc hbs _) hgr (by simp; omega) (fun k hk => (hown.lt k hk).1)⟩
                have HI := Lib.hid hI
                clear hown' hgr hown hI hO2 hO
                go_wp2
                go_roundw
                case rel => exact ⟨p + 1, q + 1, true, false, l ++ [x], by omega, by omega, by go_num, by go_num, rfl, (by first | omega | (simp; omega)), (by first | omega | (simp; omega)), HN.out, by simp; omega, HI⟩
                case measure => simp [intOf]; omega
            · obtain ⟨tp, tp'⟩ := tmod_odd (p := p) (by simpa using hP)
              obtain ⟨tq, tq'⟩ := tmod_even (p := q) (by simpa using hQ)
              have eP : p % 2 = 1 := by simpa using hP
              have eQ : q % 2 = 0 := by simpa using hQ
              clear hP hQ
              as_aux_lemma =>
                have hn : CombAt (fun p q => p && !q) a b (p + 1) (q + 1) false true (l ++ [x]) := by
                  unfold CombAt at hC ⊢
                  rw [drop_at c1, drop_at c2, ← hx, ← hy, combGo, if_neg (by omega), if_neg (by omega)] at hC
                  rw [List.append_assoc]
                  exact hC
                have HN := Lib.hid hn; clear hn hC
                clear hx hy
                have HC1 := Lib.hid hp; have HC2 := Lib.hid hq
                have q4 : IntKind.i64.wrap ((b.length : Int) - 1) = (b.length : Int) - 1 := IntWalk.i64_in _ (by omega)
                go_wp2_with fail
                go_quiet (fail)
                clear q4
                generalize hwx : World.drewN wr _ = wx at *
                have hO2 := hO.out.drewN nq
                rw [hwx] at hO2
                have hown := hO2.own; have hbs := hO2.bel.size
                have x1w : wx.cell? ⟨b1, o1 + p, none⟩ = some (.int .i64 x) := by rw [← hwx]; exact x1
                have x2w : wx.cell? ⟨b2, o2 + q, none⟩ = some (.int .i64 x) := by rw [← hwx]; exact x2
                clear hwx
                go_wp2_with (at_builtin; refine wpList_append_own _ rfl _ _ 51 rfl w.heap.size 3 i0 (.int .i64 0) 1 8 Tryz.underlying51 hi9 hz0 hz1 hz2 rfl (by decide) _ _ _ rfl (hown.alloc _) ⟨wx.heap.size, 0, none⟩ 1 1 [.int .i64 x] rfl rfl ?c1 ?c2 ?c3 ?c4 ?c5 ?_)
                case c1 =>
                  intro j u hj
                  match j, hj with
                  | 0, hj => simp at hj; subst hj; simp [Addr.add]
                case c2 => intro u hu; simp at hu; subst hu; rfl
                case c3 => unfold maxLen; omega
                case c4 => omega
                case c5 => simp; omega
                intro v' w4 hown' hgr _
                have hI : OwnI v' (l ++ [x]) w w4 := by
                  refine ⟨by rw [icells_snoc, List.length_append]; exact hown', Below.grown (w := wx.alloc (.cells #[.int .i64 x] 3)) (hO2.bel.alloc hbs _) hgr (by simp; omega) (fun k hk => (hown.lt k hk).1)⟩
                have HI := Lib.hid hI
                clear hown' hgr hown hI hO2 hO
                go_wp2
                go_roundw
                case rel => exact ⟨p + 1, q + 1, false, true, l ++ [x], by omega, by omega, by go_num, by go_num, rfl, (by first | omega | (simp; omega)), (by first | omega | (simp; omega)), HN.out, by simp; omega, HI⟩
                case measure => simp [intOf]; omega
            · obtain ⟨tp, tp'⟩ := tmod_odd (p := p) (by simpa using hP)
              obtain ⟨tq, tq'⟩ := tmod_odd (p := q) (by simpa using hQ)
              have eP : p % 2 = 1 := by simpa using hP
              have eQ : q % 2 = 1 := by simpa using hQ
              clear hP hQ
              as_aux_lemma =>
                have hn : CombAt (fun p q => p && !q) a b (p + 1) (q + 1) false false l := by
                  unfold CombAt at hC ⊢
                  rw [drop_at c1, drop_at c2, ← hx, ← hy, combGo, if_neg (by omega), if_neg (by omega)] at hC
                  exact hC
                have HN := Lib.hid hn; clear hn hC
                clear hx hy
                have HC1 := Lib.hid hp; have HC2 := Lib.hid hq
                have q4 : IntKind.i64.wrap ((b.length : Int) - 1) = (b.length : Int) - 1 := IntWalk.i64_in _ (by omega)
                go_wp2_with fail
                go_quiet (fail)
                clear q4
                go_wp2
                go_roundw
                case rel => exact ⟨p + 1, q + 1, false, false, l, by omega, by omega, by go_num, by go_num, rfl, (by first | omega | (simp; omega)), (by first | omega | (simp; omega)), HN.out, by omega, Lib.hid (hO.out.drewN _)⟩
                case measure => simp [intOf]; omega
      · have c2' : ¬ ((q : Int) < (b.length : Int)) := by omega
        have dropb : b.drop q = [] := List.drop_eq_nil_iff.2 (by omega)
        have hy := True.intro
        cases P <;> cases Q
        · obtain ⟨tp, tp'⟩ := tmod_even (p := p) (by simpa using hP)
          obtain ⟨tq, tq'⟩ := tmod_even (p := q) (by simpa using hQ)
          have eP : p % 2 = 0 := by simpa using hP
          have eQ : q % 2 = 0 := by simpa using hQ
          clear hP hQ
          as_aux_lemma =>
            have hn : CombAt (fun p q => p && !q) a b (p + 1) (q) true false (l ++ [x]) := by
              unfold CombAt at hC ⊢
              rw [drop_at c1, dropb, ← hx, combGo] at hC
              rw [dropb]
              rw [List.append_assoc]
              exact hC
            have HN := Lib.hid hn; clear hn hC
            clear hx hy dropb
            have HC1 := Lib.hid hp; have HC2 := Lib.hid hq
            go_wp2_with fail
            go_quiet (fail)
            generalize hwx : World.drewN wr _ = wx at *
            have hO2 := hO.out.drewN nq
            rw [hwx] at hO2
            have hown := hO2.own; have hbs := hO2.bel.size
            have x1w : wx.cell? ⟨b1, o1 + p, none⟩ = some (.int .i64 x) := by rw [← hwx]; exact x1
            clear hwx
            go_wp2_with (at_builtin; refine wpList_append_own _ rfl _ _ 51 rfl w.heap.size 3 i0 (.int .i64 0) 1 8 Tryz.underlying51 hi9 hz0 hz1 hz2 rfl (by decide) _ _ _ rfl (hown.alloc _) ⟨wx.heap.size, 0, none⟩ 1 1 [.int .i64 x] rfl rfl ?c1 ?c2 ?c3 ?c4 ?c5 ?_)
            case c1 =>
              intro j u hj
              match j, hj with
              | 0, hj => simp at hj; subst hj; simp [Addr.add]
            case c2 => intro u hu; simp at hu; subst hu; rfl
            case c3 => unfold maxLen; omega
            case c4 => omega
            case c5 => simp; omega
            intro v' w4 hown' hgr _
            have hI : OwnI v' (l ++ [x]) w w4 := by
              refine ⟨by rw [icells_snoc, List.length_append]; exact hown', Below.grown (w := wx.alloc (.cells #[.int .i64 x] 3)) (hO2.bel.alloc hbs _) hgr (by simp; omega) (fun k hk => (hown.lt k hk).1)⟩
            have HI := Lib.hid hI
            clear hown' hgr hown hI hO2 hO
            go_wp2
            go_roundw
            case rel => exact ⟨p + 1, q, true, false, l ++ [x], by omega, by omega, by go_num, by go_num, rfl, (by first | omega | (simp; omega)), (by first | omega | (simp; omega)), HN.out, by simp; omega, HI⟩
            case measure => simp [intOf]; omega
        · obtain ⟨tp, tp'⟩ := tmod_even (p := p) (by simpa using hP)
          obtain ⟨tq, tq'⟩ := tmod_odd (p := q) (by simpa using hQ)
          have eP : p % 2 = 0 := by simpa using hP
          have eQ : q % 2 = 1 := by simpa using hQ
          clear hP hQ
          as_aux_lemma =>
            have hn : CombAt (fun p q => p && !q) a b (p + 1) (q) true true l := by
              unfold CombAt at hC ⊢
              rw [drop_at c1, dropb, ← hx, combGo] at hC
              rw [dropb]
              exact hC
            have HN := Lib.hid hn; clear hn hC
            clear hx hy dropb
            have HC1 := Lib.hid hp; have HC2 := Lib.hid hq
            go_wp2_with fail
            go_quiet (fail)
            go_wp2
            go_roundw
            case rel => exact ⟨p + 1, q, true, true, l, by omega, by omega, by go_num, by go_num, rfl, (by first | omega | (simp; omega)), (by first | omega | (simp; omega)), HN.out, by omega, Lib.hid (hO.out.drewN _)⟩
            case measure => simp [intOf]; omega
        · obtain ⟨tp, tp'⟩ := tmod_odd (p := p) (by simpa using hP)
          obtain ⟨tq, tq'⟩ := tmod_even (p := q) (by simpa using hQ)
          have eP : p % 2 = 1 := by simpa using hP
          have eQ : q % 2 = 0 := by simpa using hQ
          clear hP hQ
          as_aux_lemma =>
            have hn : CombAt (fun p q => p && !q) a b (p + 1) (q) false false (l ++ [x]) := by
              unfold CombAt at hC ⊢
              rw [drop_at c1, dropb, ← hx, combGo] at hC
              rw [dropb]
              rw [List.append_assoc]
              exact hC
            have HN := Lib.hid hn; clear hn hC
            clear hx hy dropb
            have HC1 := Lib.hid hp; have HC2 := Lib.hid hq
            go_wp2_with fail
            go_quiet (fail)
            generalize hwx : World.drewN wr _ = wx at *
            have hO2 := hO.out.drewN nq
            rw [hwx] at hO2
            have hown := hO2.own; have hbs := hO2.bel.size
            have x1w : wx.cell? ⟨b1, o1 + p, none⟩ = some (.int .i64 x) := by rw [← hwx]; exact x1
            clear hwx
            go_wp2_with (at_builtin; refine wpList_append_own _ rfl _ _ 51 rfl w.heap.size 3 i0 (.int .i64 0) 1 8 Tryz.underlying51 hi9 hz0 hz1 hz2 rfl (by decide) _ _ _ rfl (hown.alloc _) ⟨wx.heap.size, 0, none⟩ 1 1 [.int .i64 x] rfl rfl ?c1 ?c2 ?c3 ?c4 ?c5 ?_)
            case c1 =>
              intro j u hj
              match j, hj with
              | 0, hj => simp at hj; subst hj; simp [Addr.add]
            case c2 => intro u hu; simp at hu; subst hu; rfl
            case c3 => unfold maxLen; omega
            case c4 => omega
            case c5 => simp; omega
            intro v' w4 hown' hgr _
            have hI : OwnI v' (l ++ [x]) w w4 := by
              refine ⟨by rw [icells_snoc, List.length_append]; exact hown', Below.grown (w := wx.alloc (.cells #[.int .i64 x] 3)) (hO2.bel.alloc hbs _) hgr (by simp; omega) (fun k hk => (hown.lt k hk).1)⟩
            have HI := Lib.hid hI
            clear hown' hgr hown hI hO2 hO
            go_wp2
            go_roundw
            case rel => exact ⟨p + 1, q, false, false, l ++ [x], by omega, by omega, by go_num, by go_num, rfl, (by first | omega | (simp; omega)), (by first | omega | (simp; omega)), HN.out, by simp; omega, HI⟩
            case measure => simp [intOf]; omega
        · obtain ⟨tp, tp'⟩ := tmod_odd (p := p) (by simpa using hP)
          obtain ⟨tq, tq'⟩ := tmod_odd (p := q) (by simpa using hQ)
          have eP : p % 2 = 1 := by simpa using hP
          have eQ : q % 2 = 1 := by simpa using hQ
          clear hP hQ
          as_aux_lemma =>
            have hn : CombAt (fun p q => p && !q) a b (p + 1) (q) false true l := by
              unfold CombAt at hC ⊢
              rw [drop_at c1, dropb, ← hx, combGo] at hC
              rw [dropb]
              exact hC
            have HN := Lib.hid hn; clear hn hC
            clear hx hy dropb
            have HC1 := Lib.hid hp; have HC2 := Lib.hid hq
            go_wp2_with fail
            go_quiet (fail)
            go_wp2
            go_roundw
            case rel => exact ⟨p + 1, q, false, true, l, by omega, by omega, by go_num, by go_num, rfl, (by first | omega | (simp; omega)), (by first | omega | (simp; omega)), HN.out, by omega, Lib.hid (hO.out.drewN _)⟩
            case measure => simp [intOf]; omega
    · have c1' : ¬ ((p : Int) < (a.length : Int)) := by omega
      have dropa : a.drop p = [] := List.drop_eq_nil_iff.2 (by omega)
      by_cases c2 : q < b.length
      · obtain ⟨b2, o2, rfl, hb2, hv2⟩ := (H2.out.below hO.out.bel) (by omega)
        have x2 := hv2 q c2
        have ey : ∃ y, y = b[q] := ⟨_, rfl⟩
        obtain ⟨y, hy⟩ := ey
        rw [← hy] at x2
        clear hv2
        have hx := True.intro
        have j2 : (0 : Int) ≤ (q : Int) := by omega
        have j3 : (q : Int) < (b.length : Int) := by omega
        cases P <;> cases Q
        · obtain ⟨tp, tp'⟩ := tmod_even (p := p) (by simpa using hP)
          obtain ⟨tq, tq'⟩ := tmod_even (p := q) (by simpa using hQ)
          have eP : p % 2 = 0 := by simpa using hP
          have eQ : q % 2 = 0 := by simpa using hQ
          clear hP hQ
          as_aux_lemma =>
            have hn : CombAt (fun p q => p && !q) a b (p) (q + 1) false true l := by
              unfold CombAt at hC ⊢
              rw [drop_at c2, dropa, ← hy, combGo] at hC
              rw [dropa]
              exact hC
            have HN := Lib.hid hn; clear hn hC
            clear hx hy dropa
            have HC1 := Lib.hid hp; have HC2 := Lib.hid hq
            go_wp2_with fail
            go_quiet (fail)
            go_wp2
            go_roundw
            case rel => exact ⟨p, q + 1, false, true, l, by omega, by omega, by go_num, by go_num, rfl, (by first | omega | (simp; omega)), (by first | omega | (simp; omega)), HN.out, by omega, Lib.hid (hO.out.drewN _)⟩
            case measure => simp [intOf]; omega
        · obtain ⟨tp, tp'⟩ := tmod_even (p := p) (by simpa using hP)
          obtain ⟨tq, tq'⟩ := tmod_odd (p := q) (by simpa using hQ)
          have eP : p % 2 = 0 := by simpa using hP
          have eQ : q % 2 = 1 := by simpa using hQ
          clear hP hQ
          as_aux_lemma =>
            have hn : CombAt (fun p q => p && !q) a b (p) (q + 1) false false l := by
              unfold CombAt at hC ⊢
              rw [drop_at c2, dropa, ← hy, combGo] at hC
              rw [dropa]
              exact hC
            have HN := Lib.hid hn; clear hn hC
            clear hx hy dropa
            have HC1 := Lib.hid hp; have HC2 := Lib.hid hq
            go_wp2_with fail
            go_quiet (fail)
            go_wp2
            go_roundw
            case rel => exact ⟨p, q + 1, false, false, l, by omega, by omega, by go_num, by go_num, rfl, (by first | omega | (simp; omega)), (by first | omega | (simp; omega)), HN.out, by omega, Lib.hid (hO.out.drewN _)⟩
            case measure => simp [intOf]; omega
        · obtain ⟨tp, tp'⟩ := tmod_odd (p := p) (by simpa using hP)
          obtain ⟨tq, tq'⟩ := tmod_even (p := q) (by simpa using hQ)
          have eP : p % 2 = 1 := by simpa using hP
          have eQ : q % 2 = 0 := by simpa using hQ
          clear hP hQ
          as_aux_lemma =>
            have hn : CombAt (fun p q => p && !q) a b (p) (q + 1) true true (l ++ [y]) := by
              unfold CombAt at hC ⊢
              rw [drop_at c2, dropa, ← hy, combGo] at hC
              rw [dropa]
              rw [List.append_assoc]
              exact hC
            have HN := Lib.hid hn; clear hn hC
            clear hx hy dropa
            have HC1 := Lib.hid hp; have HC2 := Lib.hid hq
            go_wp2_with fail
            go_quiet (fail)
            generalize hwx : World.drewN wr _ = wx at *
            have hO2 := hO.out.drewN nq
            rw [hwx] at hO2
            have hown := hO2.own; have hbs := hO2.bel.size
            have x2w : wx.cell? ⟨b2, o2 + q, none⟩ = some (.int .i64 y) := by rw [← hwx]; exact x2
            clear hwx
            go_wp2_with (at_builtin; refine wpList_append_own _ rfl _ _ 51 rfl w.heap.size 3 i0 (.int .i64 0) 1 8 Tryz.underlying51 hi9 hz0 hz1 hz2 rfl (by decide) _ _ _ rfl (hown.alloc _) ⟨wx.heap.size, 0, none⟩ 1 1 [.int .i64 y] rfl rfl ?c1 ?c2 ?c3 ?c4 ?c5 ?_)
            case c1 =>
              intro j u hj
              match j, hj with
              | 0, hj => simp at hj; subst hj; simp [Addr.add]
            case c2 => intro u hu; simp at hu; subst hu; rfl
            case c3 => unfold maxLen; omega
            case c4 => omega
            case c5 => simp; omega
            intro v' w4 hown' hgr _
            have hI : OwnI v' (l ++ [y]) w w4 := by
              refine ⟨by rw [icells_snoc, List.length_append]; exact hown', Below.grown (w := wx.alloc (.cells #[.int .i64 y] 3)) (hO2.bel.alloc hbs _) hgr (by simp; omega) (fun k hk => (hown.lt k hk).1)⟩
            have HI := Lib.hid hI
            clear hown' hgr hown hI hO2 hO
            go_wp2
            go_roundw
            case rel => exact ⟨p, q + 1, true, true, l ++ [y], by omega, by omega, by go_num, by go_num, rfl, (by first | omega | (simp; omega)), (by first | omega | (simp; omega)), HN.out, by simp; omega, HI⟩
            case measure => simp [intOf]; omega
        · obtain ⟨tp, tp'⟩ := tmod_odd (p := p) (by simpa using hP)
          obtain ⟨tq, tq'⟩ := tmod_odd (p := q) (by simpa using hQ)
          have eP : p % 2 = 1 := by simpa using hP
          have eQ : q % 2 = 1 := by simpa using hQ
          clear hP hQ
          as_aux_lemma =>
            have hn : CombAt (fun p q => p && !q) a b (p) (q + 1) true false (l ++ [y]) := by
              unfold CombAt at hC ⊢
              rw [drop_at c2, dropa, ← hy, combGo] at hC
              rw [dropa]
              rw [List.append_assoc]
              exact hC
            have HN := Lib.hid hn; clear hn hC
            clear hx hy dropa
            have HC1 := Lib.hid hp; have HC2 := Lib.hid hq
            go_wp2_with fail
            go_quiet (fail)
            generalize hwx : World.drewN wr _ = wx at *
            have hO2 := hO.out.drewN nq
            rw [hwx] at hO2
            have hown := hO2.own; have hbs := hO2.bel.size
            have x2w : wx.cell? ⟨b2, o2 + q, none⟩ = some (.int .i64 y) := by rw [← hwx]; exact x2
            clear hwx
            go_wp2_with (at_builtin; refine wpList_append_own _ rfl _ _ 51 rfl w.heap.size 3 i0 (.int .i64 0) 1 8 Tryz.underlying51 hi9 hz0 hz1 hz2 rfl (by decide) _ _ _ rfl (hown.alloc _) ⟨wx.heap.size, 0, none⟩ 1 1 [.int .i64 y] rfl rfl ?c1 ?c2 ?c3 ?c4 ?c5 ?_)
            case c1 =>
              intro j u hj
              match j, hj with
              | 0, hj => simp at hj; subst hj; simp [Addr.add]
            case c2 => intro u hu; simp at hu; subst hu; rfl
            case c3 => unfold maxLen; omega
            case c4 => omega
            case c5 => simp; omega
            intro v' w4 hown' hgr _
            have hI : OwnI v' (l ++ [y]) w w4 := by
              refine ⟨by rw [icells_snoc, List.length_append]; exact hown', Below.grown (w := wx.alloc (.cells #[.int .i64 y] 3)) (hO2.bel.alloc hbs _) hgr (by simp; omega) (fun k hk => (hown.lt k hk).1)⟩
            have HI := Lib.hid hI
            clear hown' hgr hown hI hO2 hO
            go_wp2
            go_roundw
            case rel => exact ⟨p, q + 1, true, false, l ++ [y], by omega, by omega, by go_num, by go_num, rfl, (by first | omega | (simp; omega)), (by first | omega | (simp; omega)), HN.out, by simp; omega, HI⟩
            case measure => simp [intOf]; omega
      · have dropb : b.drop q = [] := List.drop_eq_nil_iff.2 (by omega)
        have c2' : ¬ ((q : Int) < (b.length : Int)) := by omega
        have he : l = comb (fun p q => p && !q) a b := by
          unfold CombAt at hC
          rw [dropa, dropb, combGo, List.append_nil] at hC
          exact hC
        subst he
        go_wp2
        go_ret
        exact ⟨_, rfl, hO.out⟩
end Go.Proofs.YtdnoadngfkiabaaGreat
