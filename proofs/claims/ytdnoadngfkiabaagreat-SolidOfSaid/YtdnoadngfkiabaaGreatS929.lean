/-
  Contracts of the reference of layer 6 (7): Of, Right.
-/
import Derived.Test.YtdnoadngfkiabaaGreatS927
import Derived.Test.YtdnoadngfkiabaaGreatS928
import Derived.Test.YtdnoadngfkiabaaGreatS911
set_option linter.unusedVariables false
set_option maxRecDepth 100000
namespace Go.Proofs.YtdnoadngfkiabaaGreat
open Go.RowKit

theorem comb_or : CombOk 0 or := vcombine_or
/-- the form of one list. -/
theorem vform_one (A : Option Addr) (cap : Nat) (l : List Rc) (w : World) (h1 : RRow w A l) (hl : l.length ≤ 1000) (ha : ∀ r ∈ l, ROk r) :
    Calls Tryz.prog 42 #[.slice A l.length cap, .slice none 0 0, .int .i64 0] w (RcsIs (formL l) w) :=
  vForm_any 0 or rfl comb_or A cap none 0 l [] w h1 (RRow.nil _ _) hl (Nat.zero_le _) ha (fun r hr => by cases hr)
set_option maxHeartbeats 16000000 in
theorem vof_any (A : Option Addr) (cap : Nat) (l : List Rc) (w : World) (h1 : RRow w A l) (hl : l.length ≤ 1099511627776) : Calls Tryz.prog 88 #[.slice A l.length cap] w (ResIs (ofR l) w) := by
  have H1 := Lib.hid h1; clear h1
  have HB0 := Lib.hid (Below.refl w.heap.size w)
  go_enter Tryz.func88, Tryz.ntmps88
  go_wp2
  go_loopw [4] (fun i wr => ∃ (k : Nat), k ≤ l.length ∧ i = .int .i64 k ∧ Hid (Below w.heap.size w wr) ∧ ∀ j (h : j < l.length), j < k → ROk l[j]) (fun i _ => l.length - (intOf i).toNat)
  case atStart => exact ⟨0, Nat.zero_le _, rfl, HB0, fun j h hj => absurd hj (Nat.not_lt_zero _)⟩
  case round =>
    clear HB0
    obtain ⟨k, hk, rfl, HB, ht⟩ := hrel
    have HT := Lib.hid ht; clear ht
    by_cases hlt : k < l.length
    · obtain ⟨b1, o1, rfl, hb1, hv1⟩ := H1.out (by omega)
      obtain ⟨x0, x1, x2, x3⟩ := hv1 k hlt
      have wc := fun o => HB.out.cell (p := ⟨b1, o, none⟩) hb1
      have x0 := (wc _).trans x0; have x1 := (wc _).trans x1; have x2 := (wc _).trans x2; have x3 := (wc _).trans x3
      have hbw : b1 < wr.heap.size := Nat.lt_of_lt_of_le hb1 HB.out.size
      have hbs := HB.out.size
      clear hv1 wc
      have i0 : (0 : Int) ≤ (k : Int) := by omega
      have i1 : (k : Int) < (l.length : Int) := by omega
      obtain ⟨u, hu⟩ : ∃ u, u = l[k] := ⟨_, rfl⟩
      rw [← hu] at x0 x1 x2 x3
      have HU := Lib.hid hu; clear hu
      by_cases ok : ROk u
      · have oa : rokB ⟨u.X0, u.Y0, u.X1, u.Y1⟩ = true := (rokB_iff u).2 ok
        have OK := Lib.hid ok; clear ok
        go_wp2_with fail
        refine (vright_nd _ _ _ _ _).mono ?_
        rw [oa]
        rintro e w1 ⟨rfl, hb⟩
        have HB1 := Lib.hid (HB.out.trans (hb.mono HB.out.size)); clear hb
        go_wp2_with fail
        go_roundw
        case rel => exact ⟨k + 1, by omega, by go_num, HB1, fun j h hj => by
          by_cases e : j < k
          · exact HT.out j h e
          · obtain rfl : j = k := by omega
            rw [← HU.out]; exact OK.out⟩
        case measure => simp [intOf]; omega
      · have oa : rokB ⟨u.X0, u.Y0, u.X1, u.Y1⟩ = false := (rokB_no u).2 ok
        have NO : Hid (ofR l = ([], 1)) := Lib.hid (if_neg (fun h => ok (by rw [HU.out]; exact h _ (List.getElem_mem hlt))))
        clear ok
        go_wp2_with fail
        refine (vright_nd _ _ _ _ _).mono ?_
        rw [oa]
        rintro e w1 ⟨rfl, hb⟩
        have HB1 := Lib.hid (HB.out.trans (hb.mono HB.out.size)); clear hb
        go_wp2_with fail
        go_ret2
        exact ⟨.slice none 0 0, by rw [NO.out]; rfl, by rw [NO.out]; exact World.ownsRow_nil _ _ _ _, HB1.out⟩
    · obtain rfl : k = l.length := by omega
      have HALL : Hid (∀ r ∈ l, ROk r) := Lib.hid (fun r hr => by
        obtain ⟨j, hj, rfl⟩ := List.mem_iff_getElem.1 hr
        exact HT.out j hj hj)
      clear HT
      by_cases hbig : 400 < l.length
      · have s1 : (400 : Int) < (l.length : Int) := by omega
        have NO : Hid (ofR l = ([], 6)) := Lib.hid (by unfold ofR; rw [if_pos HALL.out, if_neg (by omega)])
        clear hbig
        go_wp2_with fail
        go_ret2
        exact ⟨.slice none 0 0, by rw [NO.out]; rfl, by rw [NO.out]; exact World.ownsRow_nil _ _ _ _, HB.out⟩
      · have s1 : ¬ (400 : Int) < (l.length : Int) := by omega
        have YES : Hid (ofR l = capR (formL l)) := Lib.hid (by unfold ofR; rw [if_pos HALL.out, if_pos (by omega)])
        have HF := Lib.hid (vform_one A cap l wr (H1.out.below HB.out) (by omega) HALL.out)
        obtain ⟨F, hF⟩ : ∃ F, F = formL l := ⟨_, rfl⟩
        rw [← hF] at YES HF
        clear hF hbig
        go_wp2_with fail
        refine HF.out.mono ?_
        rintro e1 w1 ⟨v1, rfl, h1, h2⟩
        have HB1 := Lib.hid (HB.out.trans (h2.mono HB.out.size))
        have HO := Lib.hid (own_base h1 HB.out.size)
        clear h1 h2
        obtain ⟨A6, c6, rfl, _⟩ := own_rects HO.out
        by_cases h200 : 200 < F.length
        · have s2 : (200 : Int) < (F.length : Int) := by omega
          have FIN : Hid (ResIs (ofR l) w (.returned (.tuple #[.slice none 0 0, .int .i64 6])) w1) := Lib.hid (by
            rw [YES.out]; unfold capR; rw [if_neg (by omega)]; exact ⟨_, rfl, World.ownsRow_nil _ _ _ _, HB1.out⟩)
          go_wp2_with fail
          go_ret2
          exact FIN.out
        · have s2 : ¬ (200 : Int) < (F.length : Int) := by omega
          have FIN : Hid (ResIs (ofR l) w (.returned (.tuple #[.slice A6 F.length c6, .int .i64 0])) w1) := Lib.hid (by
            rw [YES.out]; unfold capR; rw [if_pos (by omega)]; exact ⟨_, rfl, HO.out, HB1.out⟩)
          go_wp2_with fail
          go_ret2
          exact FIN.out
theorem reg_ofR {l : List Rc} (h : RegP l) : ofR l = (l, 0) := by
  have hok := form_ok h.1
  have h2 := h.2
  unfold ofR capR
  rw [if_pos hok, if_pos (by omega), (form_self hok).1 h.1, if_pos h.2]
theorem ofR_reg {l F : List Rc} (h : ofR l = (F, 0)) : (F = l) = RegP l := by
  unfold ofR at h
  split at h
  · rename_i hok
    split at h
    · unfold capR at h
      split at h
      · rename_i h4 h2
        obtain rfl : formL l = F := (Prod.mk.inj h).1
        refine propext ⟨fun e => ⟨(form_self hok).2 e, by rw [← e]; exact h2⟩, fun e => (form_self hok).1 e.1⟩
      · exact absurd (Prod.mk.inj h).2 (by decide)
    · exact absurd (Prod.mk.inj h).2 (by decide)
  · exact absurd (Prod.mk.inj h).2 (by decide)
theorem ofR_cases (l : List Rc) : (∃ F, ofR l = (F, 0)) ∨ ∃ e : Int, ofR l = ([], e) ∧ e ≠ 0 := by
  unfold ofR
  split
  · split
    · unfold capR
      split
      · exact Or.inl ⟨_, rfl⟩
      · exact Or.inr ⟨6, rfl, by decide⟩
    · exact Or.inr ⟨6, rfl, by decide⟩
  · exact Or.inr ⟨1, rfl, by decide⟩
set_option maxHeartbeats 16000000 in
theorem vRight_any (A : Option Addr) (cap : Nat) (l : List Rc) (w : World) (h1 : RRow w A l) (hl : l.length ≤ 1099511627776) : Calls Tryz.prog 61 #[.slice A l.length cap] w (RightIs l w) := by
  have H1 := Lib.hid h1
  have HO := Lib.hid (vof_any A cap l w h1 hl)
  clear h1
  rcases ofR_cases l with ⟨F, hF⟩ | ⟨er, hF, her⟩
  · rw [hF] at HO
    have HR := Lib.hid (ofR_reg hF)
    have hFl : F.length ≤ 200 := by
      unfold ofR capR at hF
      split at hF
      · split at hF
        · split at hF
          · rename_i h; obtain rfl := (Prod.mk.inj hF).1; exact h
          · exact absurd (Prod.mk.inj hF).2 (by decide)
        · exact absurd (Prod.mk.inj hF).2 (by decide)
      · exact absurd (Prod.mk.inj hF).2 (by decide)
    clear hF
    go_enter Tryz.func61, Tryz.ntmps61
    go_wp2_with fail
    refine HO.out.mono ?_
    rintro e1 w1 ⟨v1, rfl, h2, h3⟩
    obtain ⟨A6, c6, rfl, hrow, _⟩ := own_rects h2
    have HB := Lib.hid h3
    have HS := Lib.hid (vsame_any A6 c6 A cap F l w1 hrow (H1.out.below h3) (by simp only at *; omega) hl)
    clear h2 h3 hrow
    go_wp2_with fail
    refine HS.out.mono ?_
    rintro e2 w2 ⟨rfl, hb2⟩
    have FIN : Hid (RightIs l w (.returned (.bool (decide (F = l)))) w2) := Lib.hid ⟨_, by rw [decide_eq_true_iff, HR.out], rfl, HB.out.trans (hb2.mono HB.out.size)⟩
    clear hb2
    go_wp2_with fail
    go_ret
    exact FIN.out
  · rw [hF] at HO
    have d0 : (er == 0) = false := by simp [her]
    have d1 : decide (er = 0) = false := decide_eq_false her
    have HN : Hid (¬ RegP l) := Lib.hid (fun h => by rw [reg_ofR h] at hF; exact her (Prod.mk.inj hF).2.symm)
    clear hF
    go_enter Tryz.func61, Tryz.ntmps61
    go_wp2_with fail
    refine HO.out.mono ?_
    rintro e1 w1 ⟨v1, rfl, h2, h3⟩
    have FIN : Hid (RightIs l w (.returned (.bool false)) w1) := Lib.hid ⟨false, ⟨(fun h => by cases h), (fun h => absurd h HN.out)⟩, rfl, h3⟩
    clear h2 h3
    go_wp2_with fail
    go_ret
    exact FIN.out
theorem vRight_yes (A : Option Addr) (cap : Nat) (l : List Rc) (w : World) (h1 : RRow w A l) (hl : l.length ≤ 1099511627776) (h : RegP l) : Calls Tryz.prog 61 #[.slice A l.length cap] w (BlIs true w) :=
  (vRight_any A cap l w h1 hl).mono fun e w' ⟨b, hb, h'⟩ => by obtain rfl := hb.2 h; exact h'
theorem vRight_no (A : Option Addr) (cap : Nat) (l : List Rc) (w : World) (h1 : RRow w A l) (hl : l.length ≤ 1099511627776) (h : ¬ RegP l) : Calls Tryz.prog 61 #[.slice A l.length cap] w (BlIs false w) :=
  (vRight_any A cap l w h1 hl).mono fun e w' ⟨b, hb, h'⟩ => by
    cases b with
    | false => exact h'
    | true => exact absurd (hb.1 rfl) h
end Go.Proofs.YtdnoadngfkiabaaGreat
