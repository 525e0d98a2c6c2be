/-
  The walk of JournalLasts.
-/
import Derived.Test.YtkbffhlkbcdgnaaDoorJx
set_option linter.unusedVariables false
set_option maxRecDepth 100000
namespace Go.Proofs.YtkbffhlkbcdgnaaDoor
open Go.RowKit W

set_option maxHeartbeats 60000000 in
theorem jlasts_walk (A : Option Addr) (cap : Nat) (l : List JOp) (B : Option Addr) (cB : Nat) (keep : List Int) (w : World)
    (hl : l.length ≤ 9223372036854775807) (hok : ∀ x ∈ l, JOpOk x) (hA : Ops w A l) (hB : JRow w B keep) (hBl : keep.length ≤ 9223372036854775807) (ht : Tab w) :
    Calls Tryd.prog 3 #[.slice A l.length cap, .slice B keep.length cB] w fun e w' => e = .returned (.bool true) ∧ Below w.heap.size w w' := by
  obtain ⟨i0, hinf, hz0, hz1, hz2⟩ := info_parts infoStr
  have HT := Lib.hid ht; clear ht
  have HO := Lib.hid hok; clear hok
  have HA := Lib.hid hA; clear hA
  have HB := Lib.hid hB; clear hB
  go_enter Tryd.func3, Tryd.ntmps3
  go_wp2_with fail
  refine (jsmall_any w HT.out).mono ?_
  rintro e w1 ⟨rfl, b1⟩
  go_wp2_with fail
  refine (jfew_any A cap l w1 hl HO.out (HA.out.below b1)).mono ?_
  rintro e w2 ⟨b, rfl, hb, b12⟩
  have B2 := Lib.hid (b1.trans (b12.mono b1.size))
  clear b1 b12
  cases b with
  | false =>
    clear hb
    go_wp2
    go_ret
    exact ⟨rfl, B2.out⟩
  | true =>
  have HF := Lib.hid (hb rfl)
  clear hb
  by_cases h1 : 50 < keep.length
  · have h1' : (50 : Int) < (keep.length : Int) := by omega
    go_wp2
    go_ret
    exact ⟨rfl, B2.out⟩
  have h1' : (keep.length : Int) ≤ 50 := by omega
  have hl25 := HF.out.1
  go_wp2_with fail
  refine (hNew B2.out).mono ?_
  rintro e w4 ⟨r, L, rfl, hh, _, _⟩
  have H4 : Hid (LDisk w r 1 Dk.new (.slice none 0 0) (.slice none 0 0) w4) := Lib.hid ⟨L, 0, [], [], none, 0, none, 0, by omega, ⟨rfl, rfl, Nat.le_refl _, fun _ => rfl, ⟨List.nil_prefix, Torn.whole List.nil_prefix, Torn.whole List.nil_prefix⟩, (fun t h => nomatch h), by simp⟩, hh, TRow.nil, TRow.nil⟩
  clear hh B2
  go_wp2_with fail
  refine (ldisk_open H4.out (by omega)).mono ?_
  rintro e w5 (⟨c, hc, hcc, _, _⟩ | ⟨rj, all0, sure0, A1, ca0, S1, cs0, R0, rfl, ea, _, es, _, h5⟩)
  · exfalso
    have := (jopen_up Dk.up_new Dk.ok_new ok3 rfl).1
    omega
  have h5' : LInv w r 2 (.pointer (some ⟨rj, 0, none⟩)) (.slice none 0 0) (.slice none 0 0) w5 := by
    have h0 : all0 = [] := by
      cases all0 with
      | nil => rfl
      | cons t l0 => simp at ea
    have hR : R0 = [] := by
      obtain ⟨_, _, _, _, _, _, _, _, _, hp, _⟩ := h5
      rw [h0] at hp
      exact List.prefix_nil.1 hp
    subst hR
    exact h5.inv (A2 := none) (c2 := 0) (fun L d n v hj => ⟨hj, TRow.nil⟩) (Nat.le_refl _) (fun _ => rfl)
  have H5 := Lib.hid h5'
  clear h5 h5' ea es H4
  go_wp2
  go_loopw [7, 9, 10, 11] (fun j a s i wr => ∃ k : Nat, k ≤ l.length + 1 ∧ i = .int .i64 k ∧ Hid (LInv w r (k + 2) j a s wr)) (fun _ _ _ i _ => l.length + 1 - (intOf i).toNat)
  case atStart => exact ⟨0, Nat.zero_le _, rfl, H5⟩
  case round =>
    clear H5
    obtain ⟨k, hk, rfl, hI⟩ := hrel
    have hi0 : (0 : Int) ≤ (k : Int) := by omega
    by_cases hle : k ≤ l.length
    · have hle' : (k : Int) ≤ (l.length : Int) := by omega
      have hkk : k + 2 ≤ 100 := by omega
      by_cases hlt : k < l.length
      · obtain ⟨b, off, rfl, hb, hv⟩ := HA.out (by omega)
        obtain ⟨AK, ck, hzK, hr, hc⟩ := hv k hlt
        have hbel := hI.out.bel
        have v0 : ∀ o : Obj, (wr.alloc o).cell? ⟨b, off + k * 4 + 0, none⟩ = _ := fun o => ((below_alloc wr o).cell (p := ⟨b, off + k * 4 + 0, none⟩) (Nat.lt_of_lt_of_le hb hbel.size)).trans ((hbel.cell (p := ⟨b, off + k * 4 + 0, none⟩) hb).trans (hc 0 _ rfl))
        have v1 : ∀ o : Obj, (wr.alloc o).cell? ⟨b, off + k * 4 + 1, none⟩ = _ := fun o => ((below_alloc wr o).cell (p := ⟨b, off + k * 4 + 1, none⟩) (Nat.lt_of_lt_of_le hb hbel.size)).trans ((hbel.cell (p := ⟨b, off + k * 4 + 1, none⟩) hb).trans (hc 1 _ rfl))
        have v2 : ∀ o : Obj, (wr.alloc o).cell? ⟨b, off + k * 4 + 2, none⟩ = _ := fun o => ((below_alloc wr o).cell (p := ⟨b, off + k * 4 + 2, none⟩) (Nat.lt_of_lt_of_le hb hbel.size)).trans ((hbel.cell (p := ⟨b, off + k * 4 + 2, none⟩) hb).trans (hc 2 _ rfl))
        have v3 : ∀ o : Obj, (wr.alloc o).cell? ⟨b, off + k * 4 + 3, none⟩ = _ := fun o => ((below_alloc wr o).cell (p := ⟨b, off + k * 4 + 3, none⟩) (Nat.lt_of_lt_of_le hb hbel.size)).trans ((hbel.cell (p := ⟨b, off + k * 4 + 3, none⟩) hb).trans (hc 3 _ rfl))
        simp only [Nat.add_zero] at v0
        have hxo := HO.out l[k] (List.getElem_mem hlt)
        have ⟨f1, f2⟩ := HF.out.2 l[k] (List.getElem_mem hlt)
        have HXO := Lib.hid hxo
        have HR := Lib.hid hr
        clear hc hv hxo hr
        generalize l[k] = x at *
        obtain ⟨K, sx, nx, kx⟩ := x
        simp only at v0 v1 v2 v3 f1 f2
        have hi1 : (k : Int) < (l.length : Int) := by omega
        have hbl := hbel.size
        by_cases h0 : K = 0
        · subst h0

          rcases hI.out.shape with hj | ⟨rj, hj⟩
          · subst hj
            have hnx := hI.out.next
            go_wp2
            go_roundw
            case rel => exact ⟨k + 1, by omega, by go_num, Lib.hid (hnx.below (below_alloc _ _))⟩
            case measure => simp [intOf] <;> omega
          · subst hj
            obtain ⟨L1, d1, n1, all, sure, A2, ca, S2, cs, p1, p2, p3⟩ := hI.out
            rcases p3 with ⟨p3, _⟩ | ⟨rj', v1, R1, bad, p3, h6, rA, rS, q1, q2, q3⟩
            · cases p3
            cases p3
            have ea := p2.ea
            have es := p2.es
            subst ea
            subst es
            have h200R := forms_200 q1
            have hal := p2.len
            obtain ⟨d2, c, R2, b2, cj, ccase⟩ := lasts_append p2 h6.disk.ok (by omega) q3 (t := sx.data.toList) (by rw [list_size]; exact f1)
            have CJ := Lib.hid cj
            have P2 := Lib.hid p2
            have Q1 := Lib.hid q1
            have hcal := p2.hca
            have hnaN := p2.na
            obtain ⟨W1, hW1⟩ : ∃ W1, W1 = wr.alloc (.cells #[.int .i64 0, .string sx, .int .i64 nx, .slice AK kx.length ck] 34) := ⟨_, rfl⟩
            have hbx : Below wr.heap.size wr W1 := by rw [hW1]; exact below_alloc wr _
            have hob : OBox (MO r L1 rj v1) wr.heap.size #[.int .i64 0, .string sx, .int .i64 nx, .slice AK kx.length ck] W1 := ⟨by rw [hW1]; exact heap_alloc_new wr _, fun hm => by have := h6.lt hm; omega⟩
            have H6 := Lib.hid (h6.below hbx)
            have HOB := Lib.hid hob
            have HRA := Lib.hid (rA.below hbx)
            have HRS := Lib.hid (rS.below hbx)
            have HW1 := Lib.hid hW1
            clear p2 q1 q3 cj h6 rA rS hob hbx hI hW1
            go_wp2_with fail
            rw [← HW1.out]
            refine (jall_any H6.out.jrn (by omega)).mono ?_
            rintro e w7 ⟨vb, rfl, hvb, hb7⟩
            have hlow : ∀ b, vb.ownBlock = some b → ¬ MO r L1 rj v1 b := fun b hb hm => by
              have := (hvb.lt b hb).1
              have := H6.out.lt hm
              omega
            obtain ⟨Ab, cb, hvbe, hrb⟩ := TRow.of_own (O := MO r L1 rj v1) hvb hlow
            subst hvbe
            have H7 := Lib.hid (H6.out.below hb7)
            have HOB7 := Lib.hid (HOB.out.below hb7)
            have HRA7 := Lib.hid (HRA.out.fresh hb7 (fun b hb => (hvb.lt b hb).1))
            have HRS7 := Lib.hid (HRS.out.fresh hb7 (fun b hb => (hvb.lt b hb).1))
            have HVB7 := Lib.hid (ownBase hvb H6.out.bel.size)
            have HAP7 := Lib.hid hlow
            have HRB7 := Lib.hid hrb
            have o71 := HOB7.out.cell 1 (.string sx) rfl
            clear hvb hlow hrb hb7 H6 HOB HRA HRS HW1
            go_wp2_with fail
            refine (hAppend_is H7.out (by omega) in3 HT.out sx (by omega) (by omega) CJ.out).mono ?_
            rintro e w8 ⟨rfl, L2, v2, h8, k8⟩
            have H8 := Lib.hid h8
            have HOB8 := Lib.hid (HOB7.out.step k8)
            have HRA8 := Lib.hid (HRA7.out.step (k8.more (.slice Ab R1.length cb)))
            have HRS8 := Lib.hid (HRS7.out.step (k8.more (.slice Ab R1.length cb)))
            have HRB8 := Lib.hid (HRB7.out.step k8)
            have HVB8 := Lib.hid (ownKeep HVB7.out fun b hb => k8.fr.block b (brow_lt (ownKind HVB7.out hb).choose_spec) (HAP7.out b hb))
            have hap8 : ∀ b, (Value.slice Ab R1.length cb).ownBlock = some b → ¬ MO r L2 rj v2 b := fun b hb hm => by
              rcases k8.own b hm with h | h
              · exact HAP7.out b hb h
              · have := (HVB7.out.lt b hb).2
                omega
            have AP := Lib.hid hap8
            have hR2l : R2.length ≤ k + 3 := by
              rcases ccase with ⟨_, h, _⟩ | ⟨_, _, h, _⟩ | ⟨_, _, h, _⟩ <;> (rw [h]; try simp) <;> omega
            clear h8 k8 hap8 H7 HOB7 HRA7 HRS7 HRB7 HVB7 HAP7 o71 CJ
            go_wp2_with fail
            refine (jall_any H8.out.jrn (by omega)).mono ?_
            rintro e w9 ⟨va, rfl, hva, hb9⟩
            obtain ⟨Aa, cca, hvae, hraf⟩ := TRow.of_own (O := MOX r L2 rj v2 (.slice Ab R1.length cb)) hva (fun b hb hm => by
              have := (hva.lt b hb).1
              rcases hm with hm | hm
              · have := H8.out.lt hm
                omega
              · have := (HVB8.out.lt b hm).2
                omega)
            subst hvae
            have H9 := Lib.hid (H8.out.below hb9)
            have HOB9 := Lib.hid (HOB8.out.below hb9)
            have HRAll9 := Lib.hid (HRA8.out.below hb9)
            have HRS9 := Lib.hid (HRS8.out.below hb9)
            have HRB9 := Lib.hid (HRB8.out.below hb9)
            have HVB9 := Lib.hid (ownKeep HVB8.out fun b hb => hb9.block b (brow_lt (ownKind HVB8.out hb).choose_spec))
            have HRA9 := Lib.hid hraf
            have o91 := HOB9.out.cell 1 (.string sx) rfl
            have HD0 := Lib.hid (za_below w9 (.cells #[] 9))
            have oz1 : ∀ o : Obj, (w9.alloc o).drew.cell? ⟨wr.heap.size, 1, none⟩ = some (.string sx) := fun o => (HOB9.out.below (za_below w9 o)).cell 1 (.string sx) rfl
            have oz2 : ∀ o o2 : Obj, ((w9.alloc o).alloc o2).drew.cell? ⟨wr.heap.size, 1, none⟩ = some (.string sx) := fun o o2 => (HOB9.out.below (zb_below w9 o o2)).cell 1 (.string sx) rfl
            clear hva hb9 hraf H8 HOB8 HRA8 HRS8 HRB8 HVB8
            rcases ccase with ⟨rfl, rfl, rfl, hp⟩ | ⟨rfl, hRR, rfl, rfl, hp, hnf⟩ | ⟨rfl, hRR, rfl, rfl, hp⟩
            · have hqq : ∃ b, b = all.length := ⟨_, rfl⟩
              go_wp2_with fail
              refine (disky_no 7 w9 (by omega)).mono ?_
              rintro e w10 ⟨rfl, rfl⟩
              go_wp2_with fail
              refine (sameT_any Aa cca Ab cb _ w10 HRA9.out HRB9.out (by omega)).mono ?_
              rintro e w11 ⟨rfl, hb11⟩
              have HFIN : Hid (LInv w r (k + 3) (.pointer (some ⟨rj, 0, none⟩)) (.slice A2 all.length ca) (.slice S2 sure.length cs) w11) := Lib.hid ⟨L2, d2, _, _, _, A2, ca, S2, cs, by omega, P2.out.next hp, .inr ⟨rj, v2, _, true, rfl, H9.out.below hb11, HRAll9.out.less.below hb11, HRS9.out.less.below hb11, Q1.out, by omega, fun e => by cases e⟩⟩
              clear hb11 H9 HOB9 HRAll9 HRS9 HRB9 HVB9 HRA9 o91 oz1 oz2
              go_wp2
              go_roundw
              case rel => exact ⟨k + 1, by omega, by go_num, HFIN⟩
              case measure => simp [intOf] <;> omega
            · have hRR' := hRR.symm
              subst hRR'
              have HNF := Lib.hid hnf
              have HM0 := Lib.hid hcal
              cases A2 with
              | none =>
                as_aux_lemma =>
                  obtain rfl : ca = 0 := hnaN rfl
                  have hall : all = [] := List.eq_nil_of_length_eq_zero (by omega)
                  subst hall
                  have HM3 : Hid (0 + 1 ≤ maxLen) := Lib.hid (by unfold maxLen; omega)
                  have HM4 : Hid ((0 + 1) * 16 ≤ 140737488355328) := Lib.hid (by omega)
                  go_wp2
                  go_region_law (first | (refine step_append_none (by rfl) _ _ _ (by rfl) w9.heap.size 9 i0 1 Tryd.underlying32 hinf _ 0 [] (by rfl) ((World.ownsRow_made w9 #[] 0 (Nat.le_refl _) (Nat.zero_le _) (by simp)).drew) (by rfl) ?_) | (refine step_append_none (by rfl) _ _ _ (by rfl) w9.heap.size 9 i0 1 Tryd.underlying32 hinf _ 0 [] (by rfl) (((World.ownsRow_made w9 #[] 0 (Nat.le_refl _) (Nat.zero_le _) (by simp)).alloc _).drew) (by rfl) ?_) | (refine step_append_none (by rfl) _ _ _ (by rfl) w9.heap.size 9 i0 1 Tryd.underlying32 hinf _ 0 [] (by rfl) (zo2 w9 _ _) (by rfl) ?_) | (refine step_app (by rfl) _ _ _ (by rfl) w9 9 i0 (.string ⟨#[]⟩) 16 Tryd.underlying32 hinf hz0 hz1 hz2 rfl _ 0 [] (by rfl) (((World.ownsRow_made w9 #[] 0 (Nat.le_refl _) (Nat.zero_le _) (by simp)).alloc _).drew) ((zb_below w9 _ _)) _ 1 1 [.string sx] (by rfl) (by rfl) (World.news_of_block (cs := #[.string sx]) (t := 9) (fr := (0, 0)) (zb_new w9 _ _)) (fun x hx => by simp at hx; subst hx; rfl) HM3.out HM4.out ?_; intro v2n w2n hown2 hB2 hg2; have HO2 := Lib.hid hown2; have HB2 := Lib.hid hB2; clear hown2 hB2 hg2) | (refine step_app (by rfl) _ _ _ (by rfl) w9 9 i0 (.string ⟨#[]⟩) 16 Tryd.underlying32 hinf hz0 hz1 hz2 rfl _ 0 [] (by rfl) (zo2 w9 _ _) ((zb_below w9 _ _)) _ 1 1 [.string sx] (by rfl) (by rfl) (World.news_of_block (cs := #[.string sx]) (t := 9) (fr := (0, 0)) (zc_new w9 _ _)) (fun x hx => by simp at hx; subst hx; rfl) HM3.out HM4.out ?_; intro v2n w2n hown2 hB2 hg2; have HO2 := Lib.hid hown2; have HB2 := Lib.hid hB2; clear hown2 hB2 hg2) | fail)
                  all_goals
                    have hown2 : w2n.ownsRow w9.heap.size 9 1 v2n (([] : List (List UInt8)) ++ [sx.data.toList]).length ((([] : List (List UInt8)) ++ [sx.data.toList]).map vStr) := by
                      have h := HO2.out
                      simpa [vStr, bs] using h
                    obtain ⟨An, cn, hvn, hrn⟩ := TRow.of_own (O := MOX r L2 rj v2 (.slice Ab ([] : List (List UInt8)).length cb)) hown2 (fun b hb hm => by
                      have := (hown2.lt b hb).1
                      rcases hm with hm | hm
                      · have := H9.out.lt hm
                        omega
                      · have := (HVB9.out.lt b hm).2
                        omega)
                    subst hvn
                    have hcn := own_cap hown2
                    have hAn : An = none → cn = 0 := fun h => by
                      obtain ⟨_, _, e2, _⟩ := hrn (by simp)
                      rw [h] at e2; cases e2
                    have H10 := Lib.hid (H9.out.below HB2.out)
                    have HOB10 := Lib.hid (HOB9.out.below HB2.out)
                    have HRN := Lib.hid hrn
                    have HRS10 := Lib.hid (HRS9.out.below HB2.out)
                    have HRA10 := Lib.hid (HRA9.out.below HB2.out)
                    have HRB10 := Lib.hid (HRB9.out.below HB2.out)
                    have HVB10 := Lib.hid (ownKeep HVB9.out fun b hb => HB2.out.block b (brow_lt (ownKind HVB9.out hb).choose_spec))
                    have HLL : Hid (LLists (k + 3) d2 (.slice An (([] : List (List UInt8)) ++ [sx.data.toList]).length cn) (.slice S2 sure.length cs) (([] : List (List UInt8)) ++ [sx.data.toList]) sure An cn S2 cs) := Lib.hid ⟨rfl, rfl, hcn, hAn, hp, fun t ht => by
                      rcases List.mem_append.1 ht with ht | ht
                      · exact P2.out.a200 t ht
                      · simp only [List.mem_singleton] at ht; subst ht; rw [list_size]; exact f1, by have := P2.out.len; simp <;> omega⟩
                    have oN1 := HOB10.out.cell 1 (.string sx) rfl
                    have hlen : ((([] : List (List UInt8)) ++ [sx.data.toList]).length : Int) = (([] : List (List UInt8)).length : Int) + 1 := by simp
                    clear hown2 hrn hcn hAn HO2 HB2 H9 HOB9 HRA9 HRS9 HRB9 HVB9 oz1 oz2

                    have hbz := H10.out.bel.size
                    go_wp2_with (at_builtin; refine wpList_append_want (by first | rfl | simp [Region.wanted, yielded]) _ _ 32 rfl w.heap.size 9 i0 (.string ⟨#[]⟩) 1 16 Tryd.underlying32 hinf hz0 hz1 hz2 rfl (by decide) _ _ _ rfl (HVB10.out.alloc _) ⟨w2n.heap.size, 0, none⟩ 1 1 [.string sx] rfl rfl ?qc1 ?qc2 ?qc3 ?qc4 ?qc5 ?_)
                    case qc1 =>
                      intro j x hj
                      match j, hj with
                      | 0, hj => simp at hj; subst hj; simp [Addr.add]
                    case qc2 => intro x hx; simp at hx; subst hx; rfl
                    case qc3 => unfold maxLen; omega
                    case qc4 => omega
                    case qc5 => simp; omega
                    intro vx w11 hownx hgx _
                    have hba : Below w2n.heap.size w2n (w2n.alloc (.cells #[.string sx] 9)) := (Below.refl _ _).alloc (Nat.le_refl _) _
                    have h11 := (H10.out.below hba).beside (HVB10.out.alloc _) (Nat.le_refl _) AP.out hgx
                    have hms : MStep (MOX r L2 rj v2 (.slice Ab ([] : List (List UInt8)).length cb)) (MO r L2 rj v2) w2n w11 := ⟨⟨hgx.os.trans hba.os, hgx.tape.trans hba.tape, hgx.output.trans hba.output, Nat.le_trans hba.size hgx.size, fun i hi hn => (hgx.block i (Nat.lt_of_lt_of_le hi hba.size) (fun e => hn (.inr e.symm))).trans (hba.block i hi)⟩, fun b hb => .inl (.inl hb)⟩
                    have hownx2 : w11.ownsRow w.heap.size 9 1 vx (([] : List (List UInt8)) ++ [sx.data.toList]).length ((([] : List (List UInt8)) ++ [sx.data.toList]).map vStr) := by
                      simpa [vStr, bs] using hownx
                    obtain ⟨Ax, cx, hvx, hrx⟩ := TRow.of_own (O := fun _ => False) hownx2 (fun _ _ h => h)
                    subst hvx
                    have H11 := Lib.hid h11
                    have HRX := Lib.hid hrx
                    have HRA11 := Lib.hid (HRA10.out.step hms)
                    have HRN11 := Lib.hid (HRN.out.step hms)
                    have HRS11 := Lib.hid (HRS10.out.step hms)
                    clear hownx hownx2 hgx hba h11 hms hrx H10 HOB10 HRN HRS10 HRA10 HRB10 HVB10
                    go_wp2_with fail
                    refine (sameT_len Aa cca Ax cx (([] : List (List UInt8)) ++ [sx.data.toList]) w11 HRA11.out HRX.out (by omega) (by simp) (by simp)).mono ?_
                    rintro e w12 ⟨rfl, hb12⟩
                    have HFIN : Hid (LInv w r (k + 3) (.pointer (some ⟨rj, 0, none⟩)) (.slice An (([] : List (List UInt8)) ++ [sx.data.toList]).length cn) (.slice S2 sure.length cs) w12) := Lib.hid ⟨L2, d2, _, _, _, An, cn, S2, cs, by omega, HLL.out, .inr ⟨rj, v2, _, false, rfl, H11.out.below hb12, HRN11.out.below hb12, HRS11.out.below hb12, HLL.out.a200, by omega, fun _ => ⟨rfl, HNF.out⟩⟩⟩
                    clear hb12 H11 HRA11 HRN11 HRS11 HRX HLL
                    go_wp2
                    go_roundw
                    case rel => exact ⟨k + 1, by omega, by go_num, by simpa using HFIN⟩
                    case measure => simp [intOf] <;> omega
              | some ad =>
                as_aux_lemma =>
                  have HNW : Hid (∀ w', Below w9.heap.size w9 w' → ∀ j u, (all.map vStr)[j]? = some u → w'.cell? (ad.add j) = some u) := Lib.hid fun w' hb j u hu => by
                    obtain ⟨hj, hju⟩ := List.getElem?_eq_some_iff.1 hu
                    rw [List.length_map] at hj
                    obtain ⟨b0, off0, e0, hl0, _, hc0⟩ := (HRAll9.out.below hb) (by omega)
                    simp only [Option.some.injEq] at e0
                    subst e0
                    have hadd : (⟨b0, off0, none⟩ : Addr).add j = ⟨b0, off0 + j, none⟩ := by unfold Addr.add; split <;> simp_all
                    rw [hadd, hc0 j hj, ← hju]
                    simp
                  have HM1 : Hid (0 + all.length ≤ maxLen) := Lib.hid (by unfold maxLen; omega)
                  have HM2 : Hid ((0 + all.length) * 16 ≤ 140737488355328) := Lib.hid (by omega)
                  have HM3 : Hid (0 + all.length + 1 ≤ maxLen) := Lib.hid (by unfold maxLen; omega)
                  have HM4 : Hid ((0 + all.length + 1) * 16 ≤ 140737488355328) := Lib.hid (by omega)
                  go_wp2
                  go_region_law (first | (refine step_app (by rfl) _ _ _ (by rfl) w9 9 i0 (.string ⟨#[]⟩) 16 Tryd.underlying32 hinf hz0 hz1 hz2 rfl _ 0 [] (by rfl) ((World.ownsRow_made w9 #[] 0 (Nat.le_refl _) (Nat.zero_le _) (by simp)).drew) HD0.out ad all.length ca (all.map vStr) (by rfl) (by simp) (HNW.out _ HD0.out) (one_strs all) HM1.out HM2.out ?_; intro v1n w1n hown1 hB1 hg1; have HO1 := Lib.hid hown1; have HB1 := Lib.hid hB1; have q1n := (HOB9.out.below hB1).cell 1 (.string sx) rfl; clear hown1 hB1 hg1) | (refine step_app (by rfl) _ _ _ (by rfl) w9 9 i0 (.string ⟨#[]⟩) 16 Tryd.underlying32 hinf hz0 hz1 hz2 rfl _ 0 [] (by rfl) (((World.ownsRow_made w9 #[] 0 (Nat.le_refl _) (Nat.zero_le _) (by simp)).alloc _).drew) (zb_below w9 _ _) ad all.length ca (all.map vStr) (by rfl) (by simp) (HNW.out _ (zb_below w9 _ _)) (one_strs all) HM1.out HM2.out ?_; intro v1n w1n hown1 hB1 hg1; have HC83 := Lib.hid ((hg1.block (w9.heap.size + 1) (by simp) (by simp [Value.ownBlock])).trans (zb_new w9 _ _)); have HO1 := Lib.hid hown1; have HB1 := Lib.hid hB1; have q1n := (HOB9.out.below hB1).cell 1 (.string sx) rfl; clear hown1 hB1 hg1) | (refine step_app (by rfl) _ _ _ (by rfl) w9 9 i0 (.string ⟨#[]⟩) 16 Tryd.underlying32 hinf hz0 hz1 hz2 rfl _ 0 [] (by rfl) (zo2 w9 _ _) (zb_below w9 _ _) ad all.length ca (all.map vStr) (by rfl) (by simp) (HNW.out _ (zb_below w9 _ _)) (one_strs all) HM1.out HM2.out ?_; intro v1n w1n hown1 hB1 hg1; have HC83 := Lib.hid ((hg1.block w9.heap.size (by simp; omega) (by simp [Value.ownBlock])).trans (zc_new w9 _ _)); have HO1 := Lib.hid hown1; have HB1 := Lib.hid hB1; have q1n := (HOB9.out.below hB1).cell 1 (.string sx) rfl; clear hown1 hB1 hg1) | (refine step_app (by rfl) _ _ _ (by rfl) w9 9 i0 (.string ⟨#[]⟩) 16 Tryd.underlying32 hinf hz0 hz1 hz2 rfl _ (0 + all.length) ([] ++ all.map vStr) (by rfl) (HO1.out) (HB1.out) _ 1 1 [.string sx] (by rfl) (by rfl) (World.news_of_block (cs := #[.string sx]) (t := 9) (fr := (0, 0)) HC83.out) (fun x hx => by simp at hx; subst hx; rfl) HM3.out HM4.out ?_; intro v2n w2n hown2 hB2 hg2; have HO2 := Lib.hid hown2; have HB2 := Lib.hid hB2; clear hown2 hB2 hg2) | (refine step_app (by rfl) _ _ _ (by rfl) w9 9 i0 (.string ⟨#[]⟩) 16 Tryd.underlying32 hinf hz0 hz1 hz2 rfl _ (0 + all.length) ([] ++ all.map vStr) (by rfl) (HO1.out.alloc _) (bal HB1.out _) _ 1 1 [.string sx] (by rfl) (by rfl) (World.news_of_block (cs := #[.string sx]) (t := 9) (fr := (0, 0)) (heap_alloc_new w1n _)) (fun x hx => by simp at hx; subst hx; rfl) HM3.out HM4.out ?_; intro v2n w2n hown2 hB2 hg2; have HO2 := Lib.hid hown2; have HB2 := Lib.hid hB2; clear hown2 hB2 hg2) | fail)
                  all_goals
                    have hown2 : w2n.ownsRow w9.heap.size 9 1 v2n (all ++ [sx.data.toList]).length ((all ++ [sx.data.toList]).map vStr) := by
                      have h := HO2.out
                      simpa [vStr, bs] using h
                    obtain ⟨An, cn, hvn, hrn⟩ := TRow.of_own (O := MOX r L2 rj v2 (.slice Ab all.length cb)) hown2 (fun b hb hm => by
                      have := (hown2.lt b hb).1
                      rcases hm with hm | hm
                      · have := H9.out.lt hm
                        omega
                      · have := (HVB9.out.lt b hm).2
                        omega)
                    subst hvn
                    have hcn := own_cap hown2
                    have hAn : An = none → cn = 0 := fun h => by
                      obtain ⟨_, _, e2, _⟩ := hrn (by simp)
                      rw [h] at e2; cases e2
                    have H10 := Lib.hid (H9.out.below HB2.out)
                    have HOB10 := Lib.hid (HOB9.out.below HB2.out)
                    have HRN := Lib.hid hrn
                    have HRS10 := Lib.hid (HRS9.out.below HB2.out)
                    have HRA10 := Lib.hid (HRA9.out.below HB2.out)
                    have HRB10 := Lib.hid (HRB9.out.below HB2.out)
                    have HVB10 := Lib.hid (ownKeep HVB9.out fun b hb => HB2.out.block b (brow_lt (ownKind HVB9.out hb).choose_spec))
                    have HLL : Hid (LLists (k + 3) d2 (.slice An (all ++ [sx.data.toList]).length cn) (.slice S2 sure.length cs) (all ++ [sx.data.toList]) sure An cn S2 cs) := Lib.hid ⟨rfl, rfl, hcn, hAn, hp, fun t ht => by
                      rcases List.mem_append.1 ht with ht | ht
                      · exact P2.out.a200 t ht
                      · simp only [List.mem_singleton] at ht; subst ht; rw [list_size]; exact f1, by have := P2.out.len; simp <;> omega⟩
                    have oN1 := HOB10.out.cell 1 (.string sx) rfl
                    have hlen : ((all ++ [sx.data.toList]).length : Int) = (all.length : Int) + 1 := by simp
                    clear hown2 hrn hcn hAn HO2 HB2 H9 HOB9 HRA9 HRS9 HRB9 HVB9 oz1 oz2

                    have hbz := H10.out.bel.size
                    go_wp2_with (at_builtin; refine wpList_append_want (by first | rfl | simp [Region.wanted, yielded]) _ _ 32 rfl w.heap.size 9 i0 (.string ⟨#[]⟩) 1 16 Tryd.underlying32 hinf hz0 hz1 hz2 rfl (by decide) _ _ _ rfl (HVB10.out.alloc _) ⟨w2n.heap.size, 0, none⟩ 1 1 [.string sx] rfl rfl ?qc1 ?qc2 ?qc3 ?qc4 ?qc5 ?_)
                    case qc1 =>
                      intro j x hj
                      match j, hj with
                      | 0, hj => simp at hj; subst hj; simp [Addr.add]
                    case qc2 => intro x hx; simp at hx; subst hx; rfl
                    case qc3 => unfold maxLen; omega
                    case qc4 => omega
                    case qc5 => simp; omega
                    intro vx w11 hownx hgx _
                    have hba : Below w2n.heap.size w2n (w2n.alloc (.cells #[.string sx] 9)) := (Below.refl _ _).alloc (Nat.le_refl _) _
                    have h11 := (H10.out.below hba).beside (HVB10.out.alloc _) (Nat.le_refl _) AP.out hgx
                    have hms : MStep (MOX r L2 rj v2 (.slice Ab all.length cb)) (MO r L2 rj v2) w2n w11 := ⟨⟨hgx.os.trans hba.os, hgx.tape.trans hba.tape, hgx.output.trans hba.output, Nat.le_trans hba.size hgx.size, fun i hi hn => (hgx.block i (Nat.lt_of_lt_of_le hi hba.size) (fun e => hn (.inr e.symm))).trans (hba.block i hi)⟩, fun b hb => .inl (.inl hb)⟩
                    have hownx2 : w11.ownsRow w.heap.size 9 1 vx (all ++ [sx.data.toList]).length ((all ++ [sx.data.toList]).map vStr) := by
                      simpa [vStr, bs] using hownx
                    obtain ⟨Ax, cx, hvx, hrx⟩ := TRow.of_own (O := fun _ => False) hownx2 (fun _ _ h => h)
                    subst hvx
                    have H11 := Lib.hid h11
                    have HRX := Lib.hid hrx
                    have HRA11 := Lib.hid (HRA10.out.step hms)
                    have HRN11 := Lib.hid (HRN.out.step hms)
                    have HRS11 := Lib.hid (HRS10.out.step hms)
                    clear hownx hownx2 hgx hba h11 hms hrx H10 HOB10 HRN HRS10 HRA10 HRB10 HVB10
                    go_wp2_with fail
                    refine (sameT_len Aa cca Ax cx (all ++ [sx.data.toList]) w11 HRA11.out HRX.out (by omega) (by simp) (by simp)).mono ?_
                    rintro e w12 ⟨rfl, hb12⟩
                    have HFIN : Hid (LInv w r (k + 3) (.pointer (some ⟨rj, 0, none⟩)) (.slice An (all ++ [sx.data.toList]).length cn) (.slice S2 sure.length cs) w12) := Lib.hid ⟨L2, d2, _, _, _, An, cn, S2, cs, by omega, HLL.out, .inr ⟨rj, v2, _, false, rfl, H11.out.below hb12, HRN11.out.below hb12, HRS11.out.below hb12, HLL.out.a200, by omega, fun _ => ⟨rfl, HNF.out⟩⟩⟩
                    clear hb12 H11 HRA11 HRN11 HRS11 HRX HLL
                    go_wp2
                    go_roundw
                    case rel => exact ⟨k + 1, by omega, by go_num, by simpa using HFIN⟩
                    case measure => simp [intOf] <;> omega
            · have hRR' := hRR.symm
              subst hRR'
              go_wp2_with fail
              refine (disky_any 8 w9 (.inl rfl)).mono ?_
              rintro e w10 ⟨rfl, hw10⟩
              have hw10' := hw10.symm
              subst hw10'
              have HM0 := Lib.hid hcal
              cases A2 with
              | none =>
                as_aux_lemma =>
                  obtain rfl : ca = 0 := hnaN rfl
                  have hall : all = [] := List.eq_nil_of_length_eq_zero (by omega)
                  subst hall
                  have HM3 : Hid (0 + 1 ≤ maxLen) := Lib.hid (by unfold maxLen; omega)
                  have HM4 : Hid ((0 + 1) * 16 ≤ 140737488355328) := Lib.hid (by omega)
                  go_wp2
                  go_region_law (first | (refine step_append_none (by rfl) _ _ _ (by rfl) w9.heap.size 9 i0 1 Tryd.underlying32 hinf _ 0 [] (by rfl) ((World.ownsRow_made w9 #[] 0 (Nat.le_refl _) (Nat.zero_le _) (by simp)).drew) (by rfl) ?_) | (refine step_append_none (by rfl) _ _ _ (by rfl) w9.heap.size 9 i0 1 Tryd.underlying32 hinf _ 0 [] (by rfl) (((World.ownsRow_made w9 #[] 0 (Nat.le_refl _) (Nat.zero_le _) (by simp)).alloc _).drew) (by rfl) ?_) | (refine step_append_none (by rfl) _ _ _ (by rfl) w9.heap.size 9 i0 1 Tryd.underlying32 hinf _ 0 [] (by rfl) (zo2 w9 _ _) (by rfl) ?_) | (refine step_app (by rfl) _ _ _ (by rfl) w9 9 i0 (.string ⟨#[]⟩) 16 Tryd.underlying32 hinf hz0 hz1 hz2 rfl _ 0 [] (by rfl) (((World.ownsRow_made w9 #[] 0 (Nat.le_refl _) (Nat.zero_le _) (by simp)).alloc _).drew) ((zb_below w9 _ _)) _ 1 1 [.string sx] (by rfl) (by rfl) (World.news_of_block (cs := #[.string sx]) (t := 9) (fr := (0, 0)) (zb_new w9 _ _)) (fun x hx => by simp at hx; subst hx; rfl) HM3.out HM4.out ?_; intro v2n w2n hown2 hB2 hg2; have HO2 := Lib.hid hown2; have HB2 := Lib.hid hB2; clear hown2 hB2 hg2) | (refine step_app (by rfl) _ _ _ (by rfl) w9 9 i0 (.string ⟨#[]⟩) 16 Tryd.underlying32 hinf hz0 hz1 hz2 rfl _ 0 [] (by rfl) (zo2 w9 _ _) ((zb_below w9 _ _)) _ 1 1 [.string sx] (by rfl) (by rfl) (World.news_of_block (cs := #[.string sx]) (t := 9) (fr := (0, 0)) (zc_new w9 _ _)) (fun x hx => by simp at hx; subst hx; rfl) HM3.out HM4.out ?_; intro v2n w2n hown2 hB2 hg2; have HO2 := Lib.hid hown2; have HB2 := Lib.hid hB2; clear hown2 hB2 hg2) | fail)
                  all_goals
                    have hown2 : w2n.ownsRow w9.heap.size 9 1 v2n (([] : List (List UInt8)) ++ [sx.data.toList]).length ((([] : List (List UInt8)) ++ [sx.data.toList]).map vStr) := by
                      have h := HO2.out
                      simpa [vStr, bs] using h
                    obtain ⟨An, cn, hvn, hrn⟩ := TRow.of_own (O := MOX r L2 rj v2 (.slice Ab ([] : List (List UInt8)).length cb)) hown2 (fun b hb hm => by
                      have := (hown2.lt b hb).1
                      rcases hm with hm | hm
                      · have := H9.out.lt hm
                        omega
                      · have := (HVB9.out.lt b hm).2
                        omega)
                    subst hvn
                    have hcn := own_cap hown2
                    have hAn : An = none → cn = 0 := fun h => by
                      obtain ⟨_, _, e2, _⟩ := hrn (by simp)
                      rw [h] at e2; cases e2
                    have H10 := Lib.hid (H9.out.below HB2.out)
                    have HOB10 := Lib.hid (HOB9.out.below HB2.out)
                    have HRN := Lib.hid hrn
                    have HRS10 := Lib.hid (HRS9.out.below HB2.out)
                    have HRA10 := Lib.hid (HRA9.out.below HB2.out)
                    have HRB10 := Lib.hid (HRB9.out.below HB2.out)
                    have HVB10 := Lib.hid (ownKeep HVB9.out fun b hb => HB2.out.block b (brow_lt (ownKind HVB9.out hb).choose_spec))
                    have HLL : Hid (LLists (k + 3) d2 (.slice An (([] : List (List UInt8)) ++ [sx.data.toList]).length cn) (.slice S2 sure.length cs) (([] : List (List UInt8)) ++ [sx.data.toList]) sure An cn S2 cs) := Lib.hid ⟨rfl, rfl, hcn, hAn, hp, fun t ht => by
                      rcases List.mem_append.1 ht with ht | ht
                      · exact P2.out.a200 t ht
                      · simp only [List.mem_singleton] at ht; subst ht; rw [list_size]; exact f1, by have := P2.out.len; simp <;> omega⟩
                    have oN1 := HOB10.out.cell 1 (.string sx) rfl
                    have hlen : ((([] : List (List UInt8)) ++ [sx.data.toList]).length : Int) = (([] : List (List UInt8)).length : Int) + 1 := by simp
                    clear hown2 hrn hcn hAn HO2 HB2 H9 HOB9 HRA9 HRS9 HRB9 HVB9 oz1 oz2

                    go_wp2_with fail
                    refine (sameT_any Aa cca Ab cb _ w2n HRA10.out HRB10.out (by omega)).mono ?_
                    rintro e w11 ⟨rfl, hb11⟩
                    have HFIN : Hid (LInv w r (k + 3) (.pointer (some ⟨rj, 0, none⟩)) (.slice An (([] : List (List UInt8)) ++ [sx.data.toList]).length cn) (.slice S2 sure.length cs) w11) := Lib.hid ⟨L2, d2, _, _, _, An, cn, S2, cs, by omega, HLL.out, .inr ⟨rj, v2, _, true, rfl, H10.out.below hb11, HRN.out.less.below hb11, HRS10.out.less.below hb11, Q1.out, by omega, fun e => by cases e⟩⟩
                    clear hb11 H10 HOB10 HRN HRS10 HRA10 HRB10 HVB10 HLL
                    go_wp2
                    go_roundw
                    case rel => exact ⟨k + 1, by omega, by go_num, by simpa using HFIN⟩
                    case measure => simp [intOf] <;> omega
              | some ad =>
                as_aux_lemma =>
                  have HNW : Hid (∀ w', Below w9.heap.size w9 w' → ∀ j u, (all.map vStr)[j]? = some u → w'.cell? (ad.add j) = some u) := Lib.hid fun w' hb j u hu => by
                    obtain ⟨hj, hju⟩ := List.getElem?_eq_some_iff.1 hu
                    rw [List.length_map] at hj
                    obtain ⟨b0, off0, e0, hl0, _, hc0⟩ := (HRAll9.out.below hb) (by omega)
                    simp only [Option.some.injEq] at e0
                    subst e0
                    have hadd : (⟨b0, off0, none⟩ : Addr).add j = ⟨b0, off0 + j, none⟩ := by unfold Addr.add; split <;> simp_all
                    rw [hadd, hc0 j hj, ← hju]
                    simp
                  have HM1 : Hid (0 + all.length ≤ maxLen) := Lib.hid (by unfold maxLen; omega)
                  have HM2 : Hid ((0 + all.length) * 16 ≤ 140737488355328) := Lib.hid (by omega)
                  have HM3 : Hid (0 + all.length + 1 ≤ maxLen) := Lib.hid (by unfold maxLen; omega)
                  have HM4 : Hid ((0 + all.length + 1) * 16 ≤ 140737488355328) := Lib.hid (by omega)
                  go_wp2
                  go_region_law (first | (refine step_app (by rfl) _ _ _ (by rfl) w9 9 i0 (.string ⟨#[]⟩) 16 Tryd.underlying32 hinf hz0 hz1 hz2 rfl _ 0 [] (by rfl) ((World.ownsRow_made w9 #[] 0 (Nat.le_refl _) (Nat.zero_le _) (by simp)).drew) HD0.out ad all.length ca (all.map vStr) (by rfl) (by simp) (HNW.out _ HD0.out) (one_strs all) HM1.out HM2.out ?_; intro v1n w1n hown1 hB1 hg1; have HO1 := Lib.hid hown1; have HB1 := Lib.hid hB1; have q1n := (HOB9.out.below hB1).cell 1 (.string sx) rfl; clear hown1 hB1 hg1) | (refine step_app (by rfl) _ _ _ (by rfl) w9 9 i0 (.string ⟨#[]⟩) 16 Tryd.underlying32 hinf hz0 hz1 hz2 rfl _ 0 [] (by rfl) (((World.ownsRow_made w9 #[] 0 (Nat.le_refl _) (Nat.zero_le _) (by simp)).alloc _).drew) (zb_below w9 _ _) ad all.length ca (all.map vStr) (by rfl) (by simp) (HNW.out _ (zb_below w9 _ _)) (one_strs all) HM1.out HM2.out ?_; intro v1n w1n hown1 hB1 hg1; have HC83 := Lib.hid ((hg1.block (w9.heap.size + 1) (by simp) (by simp [Value.ownBlock])).trans (zb_new w9 _ _)); have HO1 := Lib.hid hown1; have HB1 := Lib.hid hB1; have q1n := (HOB9.out.below hB1).cell 1 (.string sx) rfl; clear hown1 hB1 hg1) | (refine step_app (by rfl) _ _ _ (by rfl) w9 9 i0 (.string ⟨#[]⟩) 16 Tryd.underlying32 hinf hz0 hz1 hz2 rfl _ 0 [] (by rfl) (zo2 w9 _ _) (zb_below w9 _ _) ad all.length ca (all.map vStr) (by rfl) (by simp) (HNW.out _ (zb_below w9 _ _)) (one_strs all) HM1.out HM2.out ?_; intro v1n w1n hown1 hB1 hg1; have HC83 := Lib.hid ((hg1.block w9.heap.size (by simp; omega) (by simp [Value.ownBlock])).trans (zc_new w9 _ _)); have HO1 := Lib.hid hown1; have HB1 := Lib.hid hB1; have q1n := (HOB9.out.below hB1).cell 1 (.string sx) rfl; clear hown1 hB1 hg1) | (refine step_app (by rfl) _ _ _ (by rfl) w9 9 i0 (.string ⟨#[]⟩) 16 Tryd.underlying32 hinf hz0 hz1 hz2 rfl _ (0 + all.length) ([] ++ all.map vStr) (by rfl) (HO1.out) (HB1.out) _ 1 1 [.string sx] (by rfl) (by rfl) (World.news_of_block (cs := #[.string sx]) (t := 9) (fr := (0, 0)) HC83.out) (fun x hx => by simp at hx; subst hx; rfl) HM3.out HM4.out ?_; intro v2n w2n hown2 hB2 hg2; have HO2 := Lib.hid hown2; have HB2 := Lib.hid hB2; clear hown2 hB2 hg2) | (refine step_app (by rfl) _ _ _ (by rfl) w9 9 i0 (.string ⟨#[]⟩) 16 Tryd.underlying32 hinf hz0 hz1 hz2 rfl _ (0 + all.length) ([] ++ all.map vStr) (by rfl) (HO1.out.alloc _) (bal HB1.out _) _ 1 1 [.string sx] (by rfl) (by rfl) (World.news_of_block (cs := #[.string sx]) (t := 9) (fr := (0, 0)) (heap_alloc_new w1n _)) (fun x hx => by simp at hx; subst hx; rfl) HM3.out HM4.out ?_; intro v2n w2n hown2 hB2 hg2; have HO2 := Lib.hid hown2; have HB2 := Lib.hid hB2; clear hown2 hB2 hg2) | fail)
                  all_goals
                    have hown2 : w2n.ownsRow w9.heap.size 9 1 v2n (all ++ [sx.data.toList]).length ((all ++ [sx.data.toList]).map vStr) := by
                      have h := HO2.out
                      simpa [vStr, bs] using h
                    obtain ⟨An, cn, hvn, hrn⟩ := TRow.of_own (O := MOX r L2 rj v2 (.slice Ab all.length cb)) hown2 (fun b hb hm => by
                      have := (hown2.lt b hb).1
                      rcases hm with hm | hm
                      · have := H9.out.lt hm
                        omega
                      · have := (HVB9.out.lt b hm).2
                        omega)
                    subst hvn
                    have hcn := own_cap hown2
                    have hAn : An = none → cn = 0 := fun h => by
                      obtain ⟨_, _, e2, _⟩ := hrn (by simp)
                      rw [h] at e2; cases e2
                    have H10 := Lib.hid (H9.out.below HB2.out)
                    have HOB10 := Lib.hid (HOB9.out.below HB2.out)
                    have HRN := Lib.hid hrn
                    have HRS10 := Lib.hid (HRS9.out.below HB2.out)
                    have HRA10 := Lib.hid (HRA9.out.below HB2.out)
                    have HRB10 := Lib.hid (HRB9.out.below HB2.out)
                    have HVB10 := Lib.hid (ownKeep HVB9.out fun b hb => HB2.out.block b (brow_lt (ownKind HVB9.out hb).choose_spec))
                    have HLL : Hid (LLists (k + 3) d2 (.slice An (all ++ [sx.data.toList]).length cn) (.slice S2 sure.length cs) (all ++ [sx.data.toList]) sure An cn S2 cs) := Lib.hid ⟨rfl, rfl, hcn, hAn, hp, fun t ht => by
                      rcases List.mem_append.1 ht with ht | ht
                      · exact P2.out.a200 t ht
                      · simp only [List.mem_singleton] at ht; subst ht; rw [list_size]; exact f1, by have := P2.out.len; simp <;> omega⟩
                    have oN1 := HOB10.out.cell 1 (.string sx) rfl
                    have hlen : ((all ++ [sx.data.toList]).length : Int) = (all.length : Int) + 1 := by simp
                    clear hown2 hrn hcn hAn HO2 HB2 H9 HOB9 HRA9 HRS9 HRB9 HVB9 oz1 oz2

                    go_wp2_with fail
                    refine (sameT_any Aa cca Ab cb _ w2n HRA10.out HRB10.out (by omega)).mono ?_
                    rintro e w11 ⟨rfl, hb11⟩
                    have HFIN : Hid (LInv w r (k + 3) (.pointer (some ⟨rj, 0, none⟩)) (.slice An (all ++ [sx.data.toList]).length cn) (.slice S2 sure.length cs) w11) := Lib.hid ⟨L2, d2, _, _, _, An, cn, S2, cs, by omega, HLL.out, .inr ⟨rj, v2, _, true, rfl, H10.out.below hb11, HRN.out.less.below hb11, HRS10.out.less.below hb11, Q1.out, by omega, fun e => by cases e⟩⟩
                    clear hb11 H10 HOB10 HRN HRS10 HRA10 HRB10 HVB10 HLL
                    go_wp2
                    go_roundw
                    case rel => exact ⟨k + 1, by omega, by go_num, by simpa using HFIN⟩
                    case measure => simp [intOf] <;> omega
        by_cases h01 : K = 1
        · subst h01
          rcases hI.out.shape with hj | ⟨rj, hj⟩
          · subst hj
            have hnx := hI.out.next
            go_wp2
            go_roundw
            case rel => exact ⟨k + 1, by omega, by go_num, Lib.hid (hnx.below (below_alloc _ _))⟩
            case measure => simp [intOf] <;> omega
          · subst hj
            have H6 := Lib.hid (linv_sync (hI.out.below (below_alloc wr (.cells #[.int .i64 1, .string sx, .int .i64 nx, .slice AK kx.length ck] 34))) hkk)
            clear hI
            go_wp2_with fail
            refine H6.out.mono ?_
            rintro e w7 (⟨c, hc, rfl, h7⟩ | ⟨rfl, L7, d7, n7, v7, all, A2, ca, ea, y1, y2, y3, y4, y5, y6, y7, y8⟩)
            · have H7 := Lib.hid h7
              have hcb : (c == 0) = false := by simpa using hc
              clear h7 H6
              go_wp2
              go_roundw
              case rel => exact ⟨k + 1, by omega, by go_num, H7⟩
              case measure => simp [intOf] <;> omega
            · subst ea
              have Y4 := Lib.hid y4
              have Y5 := Lib.hid y5
              have Y6 := Lib.hid y6
              have Y7 := Lib.hid y7
              clear y4 y5 y6 y7 H6
              go_wp2_with fail
              refine (hAll Y4.out (by omega)).mono ?_
              rintro e w9 ⟨An, cn, rfl, hcn, hrn, h9, hb9⟩
              have HFIN : Hid (LInv w r (k + 3) (.pointer (some ⟨rj, 0, none⟩)) (.slice A2 all.length ca) (.slice An all.length cn) w9) := Lib.hid ⟨L7, d7, n7, all, all, A2, ca, An, cn, by omega, ⟨rfl, rfl, y1, y2, JPI.of_kept Y6.out, Y7.out, by omega⟩, .inr ⟨rj, v7, all, false, rfl, h9, Y5.out.below hb9, hrn, Y7.out, by omega, fun _ => ⟨rfl, Y6.out.now⟩⟩⟩
              clear h9 hrn hb9 Y4 Y5 Y6 Y7
              go_wp2
              go_roundw
              case rel => exact ⟨k + 1, by omega, by go_num, HFIN⟩
              case measure => simp [intOf] <;> omega
        by_cases h02 : K = 2
        · subst h02
          have H6 := Lib.hid (linv_lose (hI.out.below (below_alloc wr (.cells #[.int .i64 2, .string sx, .int .i64 nx, .slice AK kx.length ck] 34))) HXO.out.n)
          clear hI
          go_wp2_with fail
          refine H6.out.mono ?_
          rintro e w7 ⟨rfl, h7⟩
          have H7 := Lib.hid h7
          clear h7 H6
          go_wp2
          go_roundw
          case rel => exact ⟨k + 1, by omega, by go_num, H7⟩
          case measure => simp [intOf] <;> omega
        by_cases h03 : K = 3
        · subst h03
          have H6 := Lib.hid (linv_arm (hI.out.below (below_alloc wr (.cells #[.int .i64 3, .string sx, .int .i64 nx, .slice AK kx.length ck] 34))) HXO.out.n ck HR.out (by show kx.length ≤ 60; omega))
          clear hI
          go_wp2_with fail
          refine H6.out.mono ?_
          rintro e w7 ⟨rfl, h7⟩
          have H7 := Lib.hid h7
          clear h7 H6
          go_wp2
          go_roundw
          case rel => exact ⟨k + 1, by omega, by go_num, H7⟩
          case measure => simp [intOf] <;> omega
        by_cases h04 : K = 4
        · as_aux_lemma =>
            subst h04
            obtain ⟨d6, h6⟩ := (hI.out.below (below_alloc wr (.cells #[.int .i64 4, .string sx, .int .i64 nx, .slice AK kx.length ck] 34))).disk
            have H6 := Lib.hid h6
            clear h6 hI

            go_wp2_with fail
            refine (ldisk_crash H6.out hkk ck HR.out (by show kx.length ≤ 60; omega)).mono ?_
            rintro e w6 ⟨rfl, h6⟩
            have H6 := Lib.hid h6
            clear h6

            go_wp2_with fail
            refine (ldisk_start H6.out).mono ?_
            rintro e w7 ⟨rfl, h7⟩
            clear H6

            have HD7 := Lib.hid h7
            have HZ := Lib.hid True.intro
            clear h7
            go_wp2_with fail
            refine (ldisk_open HD7.out hkk).mono ?_
            rintro e w8 (⟨c, hc, hcc, rfl, h8⟩ | ⟨rj, all, sure, A2, ca, S2, cs, R, rfl, ea, hca, es, hal, h8⟩)
            · have HL8 := Lib.hid h8
              clear h8 HD7 HZ hcc
              go_wp2_with fail
              refine (disky_any c w8 hc).mono ?_
              rintro e w9 ⟨rfl, rfl⟩
              go_wp2
              go_roundw
              case rel => exact ⟨k + 1, by omega, by go_num, HL8⟩
              case measure => simp [intOf] <;> omega
            · subst ea
              subst es
              obtain ⟨L8, d8, n8, v8, x1, x2, x3, x4, x5, x6, x7, x8, x9⟩ := h8
              have X2 := Lib.hid x2
              have X3 := Lib.hid x3
              have X4 := Lib.hid x4
              have X5 := Lib.hid x5
              have X6 := Lib.hid x6
              have X7 := Lib.hid x7
              have X8 := Lib.hid x8
              clear x2 x3 x4 x5 x6 x7 x8 HD7 HZ
              go_wp2_with fail
              refine (hAll2 X2.out (by omega)).mono ?_
              rintro e w9 ⟨An, cn, rfl, hcn, hAn, hrn, h9, hb9⟩
              have H9 := Lib.hid h9
              have HRN := Lib.hid hrn
              have HA9 := Lib.hid (X3.out.below hb9)
              have HS9 := Lib.hid (X4.out.below hb9)
              clear h9 hrn hb9 X2 X3 X4
              go_wp2_with fail
              refine (begins_any A2 ca An cn all R w9 HA9.out HRN.out (by omega) hca X6.out).mono ?_
              rintro e w10 ⟨rfl, hb10⟩
              have H10 := Lib.hid (H9.out.below hb10)
              have HRN10 := Lib.hid (HRN.out.below hb10)
              have HS10 := Lib.hid (HS9.out.below hb10)
              clear hb10 H9 HRN HA9 HS9
              go_wp2_with fail
              refine (begins_any An cn S2 cs R sure w10 HRN10.out HS10.out (by omega) hcn X7.out).mono ?_
              rintro e w11 ⟨rfl, hb11⟩
              have HFIN : Hid (LInv w r (k + 3) (.pointer (some ⟨rj, 0, none⟩)) (.slice An R.length cn) (.slice An R.length cn) w11) := Lib.hid ⟨L8, d8, n8, R, R, An, cn, An, cn, by omega, ⟨rfl, rfl, hcn, hAn, JPI.of_kept X5.out, X8.out, by omega⟩, .inr ⟨rj, v8, R, false, rfl, H10.out.below hb11, HRN10.out.below hb11, HRN10.out.below hb11, X8.out, by omega, fun _ => ⟨rfl, X5.out.now⟩⟩⟩
              clear hb11 H10 HRN10 HS10 X5 X6 X7 X8
              go_wp2
              go_roundw
              case rel => exact ⟨k + 1, by omega, by go_num, HFIN⟩
              case measure => simp [intOf] <;> omega
        by_cases h05 : K = 5
        · as_aux_lemma =>
            subst h05
            obtain ⟨d6, h6⟩ := (hI.out.below (below_alloc wr (.cells #[.int .i64 5, .string sx, .int .i64 nx, .slice AK kx.length ck] 34))).disk
            have H6 := Lib.hid h6
            clear h6 hI

            go_wp2_with fail
            refine (ldisk_start H6.out).mono ?_
            rintro e w7 ⟨rfl, h7⟩
            clear H6

            have HD7 := Lib.hid h7
            have HZ := Lib.hid True.intro
            clear h7
            go_wp2_with fail
            refine (ldisk_open HD7.out hkk).mono ?_
            rintro e w8 (⟨c, hc, hcc, rfl, h8⟩ | ⟨rj, all, sure, A2, ca, S2, cs, R, rfl, ea, hca, es, hal, h8⟩)
            · have HL8 := Lib.hid h8
              clear h8 HD7 HZ hcc
              go_wp2_with fail
              refine (disky_any c w8 hc).mono ?_
              rintro e w9 ⟨rfl, rfl⟩
              go_wp2
              go_roundw
              case rel => exact ⟨k + 1, by omega, by go_num, HL8⟩
              case measure => simp [intOf] <;> omega
            · subst ea
              subst es
              obtain ⟨L8, d8, n8, v8, x1, x2, x3, x4, x5, x6, x7, x8, x9⟩ := h8
              have X2 := Lib.hid x2
              have X3 := Lib.hid x3
              have X4 := Lib.hid x4
              have X5 := Lib.hid x5
              have X6 := Lib.hid x6
              have X7 := Lib.hid x7
              have X8 := Lib.hid x8
              clear x2 x3 x4 x5 x6 x7 x8 HD7 HZ
              go_wp2_with fail
              refine (hAll2 X2.out (by omega)).mono ?_
              rintro e w9 ⟨An, cn, rfl, hcn, hAn, hrn, h9, hb9⟩
              have H9 := Lib.hid h9
              have HRN := Lib.hid hrn
              have HA9 := Lib.hid (X3.out.below hb9)
              have HS9 := Lib.hid (X4.out.below hb9)
              clear h9 hrn hb9 X2 X3 X4
              go_wp2_with fail
              refine (begins_any A2 ca An cn all R w9 HA9.out HRN.out (by omega) hca X6.out).mono ?_
              rintro e w10 ⟨rfl, hb10⟩
              have H10 := Lib.hid (H9.out.below hb10)
              have HRN10 := Lib.hid (HRN.out.below hb10)
              have HS10 := Lib.hid (HS9.out.below hb10)
              clear hb10 H9 HRN HA9 HS9
              go_wp2_with fail
              refine (begins_any An cn S2 cs R sure w10 HRN10.out HS10.out (by omega) hcn X7.out).mono ?_
              rintro e w11 ⟨rfl, hb11⟩
              have HFIN : Hid (LInv w r (k + 3) (.pointer (some ⟨rj, 0, none⟩)) (.slice An R.length cn) (.slice An R.length cn) w11) := Lib.hid ⟨L8, d8, n8, R, R, An, cn, An, cn, by omega, ⟨rfl, rfl, hcn, hAn, JPI.of_kept X5.out, X8.out, by omega⟩, .inr ⟨rj, v8, R, false, rfl, H10.out.below hb11, HRN10.out.below hb11, HRN10.out.below hb11, X8.out, by omega, fun _ => ⟨rfl, X5.out.now⟩⟩⟩
              clear hb11 H10 HRN10 HS10 X5 X6 X7 X8
              go_wp2
              go_roundw
              case rel => exact ⟨k + 1, by omega, by go_num, HFIN⟩
              case measure => simp [intOf] <;> omega
        have g0 : (K == 0) = false := by simpa using h0
        have g1 : (K == 1) = false := by simpa using h01
        have g2 : (K == 2) = false := by simpa using h02
        have g3 : (K == 3) = false := by simpa using h03
        have g4 : (K == 4) = false := by simpa using h04
        have g5 : (K == 5) = false := by simpa using h05
        have hnx := hI.out.next
        go_wp2
        go_roundw
        case rel => exact ⟨k + 1, by omega, by go_num, Lib.hid (hnx.below (below_alloc _ _))⟩
        case measure => simp [intOf] <;> omega
      · as_aux_lemma =>
          obtain rfl : k = l.length := by omega
          obtain ⟨d6, h6⟩ := (hI.out.below (below_alloc wr (.cells #[.int .i64 4, .string ⟨#[]⟩, .int .i64 0, .slice B keep.length cB] 34))).disk
          have H6 := Lib.hid h6
          have OB6 : Hid (OBox (fun _ => False) wr.heap.size #[.int .i64 4, .string ⟨#[]⟩, .int .i64 0, .slice B keep.length cB] (wr.alloc (.cells #[.int .i64 4, .string ⟨#[]⟩, .int .i64 0, .slice B keep.length cB] 34))) := Lib.hid ⟨heap_alloc_new wr _, fun h => h⟩
          clear h6 hI
          go_wp2_with fail
          refine (ldisk_lose2 H6.out in0 OB6.out).mono ?_
          rintro e w5 ⟨rfl, h5, ob5⟩
          have H5 := Lib.hid h5
          have OB5 := Lib.hid ob5
          clear h5 ob5 H6 OB6
          go_wp2_with fail
          refine (ldisk_arm2 H5.out in0 OB5.out).mono ?_
          rintro e w4x ⟨rfl, h4, ob4⟩
          have H6 := Lib.hid h4
          have o40 := ob4.cell 0 (.int .i64 4) rfl
          have o43 := ob4.cell 3 (.slice B keep.length cB) rfl
          clear h4 ob4 H5 OB5
          go_wp2_with fail
          refine (ldisk_crash H6.out (by omega) cB HB.out (by omega)).mono ?_
          rintro e w6 ⟨rfl, h6⟩
          have H6c := Lib.hid h6
          clear h6 H6 o40 o43
          have hupl := up_last d6 keep
          go_wp2_with fail
          refine (ldisk_start H6c.out).mono ?_
          rintro e w7 ⟨rfl, h7⟩
          clear H6c
          have hkk : l.length + 2 ≤ 100 := by omega
          generalize (((d6.lose 0).arm 0 []).crash keep).start = d7 at *

          have HD7 := Lib.hid h7
          have HZ := Lib.hid (show Dk.Up d7 ∧ d7.lost = 0 from hupl)
          clear h7
          go_wp2_with fail
          refine (ldisk_open HD7.out hkk).mono ?_
          rintro e w8 (⟨c, hc, hcc, rfl, h8⟩ | ⟨rj, all, sure, A2, ca, S2, cs, R, rfl, ea, hca, es, hal, h8⟩)
          · exfalso
            have h1 := jopen_last ok3 HD7.out.ok HZ.out.1 HZ.out.2
            omega
          · subst ea
            subst es
            obtain ⟨L8, d8, n8, v8, x1, x2, x3, x4, x5, x6, x7, x8, x9⟩ := h8
            have X2 := Lib.hid x2
            have X3 := Lib.hid x3
            have X4 := Lib.hid x4
            have X5 := Lib.hid x5
            have X6 := Lib.hid x6
            have X7 := Lib.hid x7
            have X8 := Lib.hid x8
            clear x2 x3 x4 x5 x6 x7 x8 HD7 HZ
            go_wp2_with fail
            refine (hAll2 X2.out (by omega)).mono ?_
            rintro e w9 ⟨An, cn, rfl, hcn, hAn, hrn, h9, hb9⟩
            have H9 := Lib.hid h9
            have HRN := Lib.hid hrn
            have HA9 := Lib.hid (X3.out.below hb9)
            have HS9 := Lib.hid (X4.out.below hb9)
            clear h9 hrn hb9 X2 X3 X4
            go_wp2_with fail
            refine (begins_any A2 ca An cn all R w9 HA9.out HRN.out (by omega) hca X6.out).mono ?_
            rintro e w10 ⟨rfl, hb10⟩
            have H10 := Lib.hid (H9.out.below hb10)
            have HRN10 := Lib.hid (HRN.out.below hb10)
            have HS10 := Lib.hid (HS9.out.below hb10)
            clear hb10 H9 HRN HA9 HS9
            go_wp2_with fail
            refine (begins_any An cn S2 cs R sure w10 HRN10.out HS10.out (by omega) hcn X7.out).mono ?_
            rintro e w11 ⟨rfl, hb11⟩
            have HFIN : Hid (LInv w r (l.length + 3) (.pointer (some ⟨rj, 0, none⟩)) (.slice An R.length cn) (.slice An R.length cn) w11) := Lib.hid ⟨L8, d8, n8, R, R, An, cn, An, cn, by omega, ⟨rfl, rfl, hcn, hAn, JPI.of_kept X5.out, X8.out, by omega⟩, .inr ⟨rj, v8, R, false, rfl, H10.out.below hb11, HRN10.out.below hb11, HRN10.out.below hb11, X8.out, by omega, fun _ => ⟨rfl, X5.out.now⟩⟩⟩
            clear hb11 H10 HRN10 HS10 X5 X6 X7 X8
            go_wp2
            go_roundw
            case rel => exact ⟨l.length + 1, by omega, by go_num, HFIN⟩
            case measure => simp [intOf] <;> omega
    · obtain rfl : k = l.length + 1 := by omega
      have HBZ := Lib.hid hI.out.bel
      clear hI
      go_wp2
      go_ret
      exact ⟨rfl, HBZ.out⟩

end Go.Proofs.YtkbffhlkbcdgnaaDoor
