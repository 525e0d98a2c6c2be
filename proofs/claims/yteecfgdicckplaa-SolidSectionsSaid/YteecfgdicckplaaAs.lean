/-
  SolidBoxes: the law's walk.
-/
import Derived.Test.YteecfgdicckplaaAr
import Derived.Test.YteecfgdicckplaaAq
import Derived.BigQuiet
set_option linter.unusedVariables false
set_option maxRecDepth 100000
namespace Go.Proofs.Yteecfgdicckplaa
open Go.RowKit

theorem BIn.below {w w' : World} {A : Option Addr} {c : Nat} {l : List Bx} (h : BIn w A c l) (hb : Below w.heap.size w w') : BIn w' A c l := ⟨h.row.below hb, h.len, h.room, h.room2, h.nil⟩
/-- what Of gives, with the number of slabs as a variable. -/
theorem of_res {A : Option Addr} {c : Nat} {l : List Bx} {w : World} (h : BxRow w A l) (hl : l.length ≤ 1099511627776) {S : List Sl} {er : Int} (e : ofS l = (S, er)) {n : Nat} (hn : n = S.length) : Calls Try.prog 10 #[.slice A l.length c] w (RS9 S n er w) := by
  subst hn
  have := bof_any A c l w h hl
  rw [e] at this; exact this
set_option maxHeartbeats 16000000 in
theorem boxes_walk (A : Option Addr) (c : Nat) (l : List Bx) (w : World) (h : BIn w A c l) : Calls Try.prog 6 #[.slice A l.length c] w (BlIs true w) := by
  have HSM := Lib.hid (csmall_any w)
  have HB0 := Lib.hid (Below.refl w.heap.size w)
  by_cases hbig : 10 < l.length
  · have s1 : (10 : Int) < (l.length : Int) := by omega
    clear h hbig
    go_enter Try.func6, Try.ntmps6
    go_wp2_with fail
    refine HSM.out.mono ?_
    rintro e w1 ⟨rfl, hb1⟩
    have HB1 := Lib.hid hb1; clear hb1
    go_wp2_with fail
    go_ret
    exact ⟨rfl, HB1.out⟩
  · have s1 : ¬ (10 : Int) < (l.length : Int) := by omega
    have hl : l.length ≤ 14 := by omega
    by_cases hok : ∀ b ∈ l, BOk b
    · have HOF : Hid (∀ w', Below w.heap.size w w' → Calls Try.prog 10 #[.slice A l.length c] w' (RS9 (solB l) (solB l).length 0 w')) := Lib.hid (fun w' hb => of_res (h.below hb).row (by omega) (ofS_small hok hl) rfl)
      have hsp := solB_small hok hl
      clear h hbig hok
      generalize solB l = S at *
      have HBX : Hid (∀ w' A' c', SIn w' A' c' S → Calls Try.prog 25 #[.slice A' S.length c'] w' (BxRes (boxesS S) w')) := Lib.hid (fun w' A' c' h => bboxes_yes h hsp)
      have HVO : Hid (∀ w' A' c', SIn w' A' c' S → Calls Try.prog 17 #[.slice A' S.length c'] w' (InIs (volS S) w')) := Lib.hid (fun w' A' c' h => bvolume_yes h hsp)
      have HSA : Hid (∀ w' A' c' A2 c2, SIn w' A' c' S → SIn w' A2 c2 S → Calls Try.prog 18 #[.slice A' S.length c', .slice A2 S.length c2] w' (BlIs true w')) := Lib.hid (fun w' A' c' A2 c2 h1 h2 => (bsame_any A' c' A2 c2 S S w' h1 h2).mono fun e w2 k => same_true rfl k)
      have HFO : Hid ((boxesS S).length ≤ 200 → ofS (boxesS S) = (S, 0)) := Lib.hid (boxes_of hsp)
      have HFV : Hid (volS S = volB (boxesS S)) := Lib.hid (boxes_vol hsp.form).symm
      have HFK : Hid (∀ b ∈ boxesS S, BOk b) := Lib.hid (boxes_ok hsp.form)
      have hFl : (boxesS S).length ≤ 16000 := by have := boxesS_len hsp.rects; have := hsp.len; omega
      clear hsp
      obtain ⟨F, hF⟩ : ∃ F, F = boxesS S := ⟨_, rfl⟩
      rw [← hF] at HBX HFO HFV HFK hFl
      clear hF
      obtain ⟨n, hn⟩ : ∃ n, n = S.length := ⟨_, rfl⟩
      rw [← hn] at HOF HBX HVO HSA
      have HN := Lib.hid hn; clear hn
      obtain ⟨vs, hvs⟩ : ∃ vs, vs = volS S := ⟨_, rfl⟩
      rw [← hvs] at HVO HFV
      clear hvs
      go_enter Try.func6, Try.ntmps6
      go_wp2_with fail
      refine HSM.out.mono ?_
      rintro e w1 ⟨rfl, hb1⟩
      have HB1 := Lib.hid hb1; clear hb1
      go_wp2_with fail
      refine (HOF.out _ HB1.out).mono ?_
      rintro e w2 ⟨A2, c2, rfl, hs2, hb2⟩
      have HB2 := Lib.hid (HB1.out.trans (hb2.mono HB1.out.size))
      have HS2 := Lib.hid hs2
      clear hs2 hb2 HB1 HOF
      go_wp2_with fail
      refine (HBX.out _ _ _ HS2.out).mono ?_
      rintro e w3 ⟨vb, rfl, ho3, hb3⟩
      obtain ⟨Ab, cb, rfl, hrow, _, _⟩ := own_boxes ho3
      have HB3 := Lib.hid (HB2.out.trans (hb3.mono HB2.out.size))
      have HS3 := Lib.hid (HS2.out.below hb3)
      have HR3 := Lib.hid hrow
      clear ho3 hb3 hrow HS2 HB2 HBX
      by_cases h200 : 200 < F.length
      · have s2 : (200 : Int) < (F.length : Int) := by omega
        clear h200
        go_wp2_with fail
        go_ret
        exact ⟨rfl, HB3.out⟩
      · have s2 : ¬ (200 : Int) < (F.length : Int) := by omega
        have HOF2 : Hid (∀ w', BxRow w' Ab F → Calls Try.prog 10 #[.slice Ab F.length cb] w' (RS9 S n 0 w')) := Lib.hid (fun w' hr => of_res hr (by omega) (HFO.out (by omega)) HN.out)
        have hF2 : F.length ≤ 200 := by omega
        have HBW := Lib.hid (Below.refl w3.heap.size w3)
        clear h200
        go_wp2_with fail
        go_loopw [7, 8] (fun s i wr => ∃ k : Nat, k ≤ F.length ∧ i = .int .i64 k ∧ s = .int .i64 (volB (F.take k)) ∧ Hid (Below w3.heap.size w3 wr)) (fun _ i _ => F.length - (intOf i).toNat)
        case atStart => exact ⟨0, Nat.zero_le _, rfl, rfl, HBW⟩
        case round =>
          clear HBW
          obtain ⟨k, hk, rfl, rfl, HB⟩ := hrel
          by_cases hlt : k < F.length
          · obtain ⟨b1, o1, rfl, hb1, hv1⟩ := HR3.out (by omega)
            obtain ⟨x0, x1, x2, x3, x4, x5⟩ := hv1 k hlt
            have wc := fun o => HB.out.cell (p := ⟨b1, o, none⟩) hb1
            have x0 := (wc _).trans x0; have x1 := (wc _).trans x1; have x2 := (wc _).trans x2; have x3 := (wc _).trans x3; have x4 := (wc _).trans x4; have x5 := (wc _).trans x5
            have hbs := HB.out.size
            have hbw : b1 < wr.heap.size := Nat.lt_of_lt_of_le hb1 hbs
            have n0 : (0 : Int) ≤ (k : Int) := by omega
            have n1 : (k : Int) < (F.length : Int) := by omega
            have HN2 := Lib.hid (volB_next F k hlt)
            have hok := HFK.out _ (List.getElem_mem hlt)
            have hbd := volB_bd (l := F.take k) (fun b hb => HFK.out b (List.mem_of_mem_take hb))
            rw [List.length_take] at hbd
            have hbv := box_vol hok
            obtain ⟨⟨⟨a0, a1, a2⟩, a3, a4, a5⟩, a6, a7, a8⟩ := hok
            obtain ⟨u, hu⟩ : ∃ u, u = F[k] := ⟨_, rfl⟩
            rw [← hu] at x0 x1 x2 x3 x4 x5 HN2 hbv a0 a1 a2 a3 a4 a5 a6 a7 a8
            clear hu hv1 wc
            obtain ⟨sm, hsm⟩ : ∃ sm, sm = volB (F.take k) := ⟨_, rfl⟩
            rw [← hsm] at HN2 hbd ⊢
            clear hsm
            have q1 : IntKind.i64.wrap (u.z1 - u.z0) = u.z1 - u.z0 := IntWalk.i64_in _ (by omega)
            have q2 : IntKind.i64.wrap (u.r.X1 - u.r.X0) = u.r.X1 - u.r.X0 := IntWalk.i64_in _ (by omega)
            have q3 : IntKind.i64.wrap (u.r.Y1 - u.r.Y0) = u.r.Y1 - u.r.Y0 := IntWalk.i64_in _ (by omega)
            obtain ⟨p1, hp1⟩ : ∃ p1, p1 = (u.z1 - u.z0) * (u.r.X1 - u.r.X0) := ⟨_, rfl⟩
            rw [← hp1] at HN2 hbv
            have q4 : IntKind.i64.wrap ((u.z1 - u.z0) * (u.r.X1 - u.r.X0)) = p1 := by rw [← hp1]; exact IntWalk.i64_in _ (by omega)
            have HP1 := Lib.hid hp1; clear hp1
            obtain ⟨p2, hp2⟩ : ∃ p2, p2 = p1 * (u.r.Y1 - u.r.Y0) := ⟨_, rfl⟩
            rw [← hp2] at HN2 hbv
            have q5 : IntKind.i64.wrap (p1 * (u.r.Y1 - u.r.Y0)) = p2 := by rw [← hp2]; exact IntWalk.i64_in _ (by omega)
            have HP2 := Lib.hid hp2; clear hp2
            have q6 : IntKind.i64.wrap (sm + p2) = sm + p2 := IntWalk.i64_in _ (by omega)
            clear a0 a1 a2 a3 a4 a5 a6 a7 a8 hbd hbv
            go_wp2_with fail
            go_quiet (fail)
            go_wp2_with fail
            go_roundw
            case rel => exact ⟨k + 1, by omega, by go_num, by rw [HN2.out], Lib.hid (below_drewN HB.out _)⟩
            case measure => simp [intOf]; omega
          · obtain rfl : k = F.length := by omega
            rw [List.take_length, ← HFV.out]
            have HR4 := Lib.hid (HR3.out.below HB.out)
            have HS4 := Lib.hid (HS3.out.below HB.out)
            have HB4 := Lib.hid (HB3.out.trans (HB.out.mono HB3.out.size))
            clear HB HR3 HS3
            go_wp2_with fail
            refine (HOF2.out _ HR4.out).mono ?_
            rintro e w5 ⟨A5, c5, rfl, hs5, hb5⟩
            have HS5 := Lib.hid hs5
            have HS5b := Lib.hid (HS4.out.below hb5)
            have HB5 := Lib.hid (HB4.out.trans (hb5.mono HB4.out.size))
            clear hs5 hb5 HR4 HS4 HB4 HOF2
            go_wp2_with fail
            refine (HSA.out _ _ _ _ _ HS5b.out HS5.out).mono ?_
            rintro e w6 ⟨rfl, hb6⟩
            have HS6 := Lib.hid (HS5b.out.below hb6)
            have HB6 := Lib.hid (HB5.out.trans (hb6.mono HB5.out.size))
            clear hb6 HS5 HS5b HB5
            go_wp2_with fail
            refine (HVO.out _ _ _ HS6.out).mono ?_
            rintro e w7 ⟨rfl, hb7⟩
            have HB7 := Lib.hid (HB6.out.trans (hb7.mono HB6.out.size))
            clear hb7
            go_wp2_with fail
            go_ret
            exact ⟨rfl, HB7.out⟩
    · have HOF : Hid (∀ w', Below w.heap.size w w' → Calls Try.prog 10 #[.slice A l.length c] w' (RS9 [] 0 1 w')) := Lib.hid (fun w' hb => of_res (h.below hb).row (by omega) (ofS_bad hok) rfl)
      have HBX : Hid (∀ w' A' c', SIn w' A' c' [] → Calls Try.prog 25 #[.slice A' 0 c'] w' (Len9 0 w')) := Lib.hid (fun w' A' c' h => (bboxes_yes h sol_nil).mono fun e w2 hk => by
        obtain ⟨v, rfl, ho, hb⟩ := hk
        obtain ⟨A', c', rfl, _⟩ := own_boxes ho
        exact ⟨A', c', rfl, hb⟩)
      clear h hbig hok
      go_enter Try.func6, Try.ntmps6
      go_wp2_with fail
      refine HSM.out.mono ?_
      rintro e w1 ⟨rfl, hb1⟩
      have HB1 := Lib.hid hb1; clear hb1
      go_wp2_with fail
      refine (HOF.out _ HB1.out).mono ?_
      rintro e w2 ⟨A2, c2, rfl, hs2, hb2⟩
      have HB2 := Lib.hid (HB1.out.trans (hb2.mono HB1.out.size))
      have HS2 := Lib.hid hs2
      clear hs2 hb2 HB1 HOF
      go_wp2_with fail
      refine (HBX.out _ _ _ HS2.out).mono ?_
      rintro e w3 ⟨Ab, cb, rfl, hb3⟩
      have HB3 := Lib.hid (HB2.out.trans (hb3.mono HB2.out.size))
      clear hb3
      go_wp2_with fail
      go_ret
      exact ⟨rfl, HB3.out⟩
end Go.Proofs.Yteecfgdicckplaa
