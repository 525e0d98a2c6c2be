/-
  The reference's journal (4): Append over the model.
-/
import Derived.Test.YtbpkcgkcamkggaaGreatDoorT945
import Derived.Laws.AppendOwnNone
set_option linter.unusedVariables false
set_option maxRecDepth 100000
namespace Go.Proofs.YtbpkcgkcamkggaaGreatDoor
open Go.RowKit W

section
variable {rk r B : Nat} {f : Int} {R : List (List UInt8)} {bad : Bool} {O : Nat → Prop} {d : Dk} {k : Nat} {w w' : World}
/-- a record more, in a new row. -/
theorem KAt.added (h : KAt rk r B f R false O w) (hO : ∀ b, O b → b < w.heap.size) (hB : B ≤ w.heap.size) {v' : Value} {s : List UInt8} (hb : Below w.heap.size w w') (hown : w'.ownsRow w.heap.size 9 1 v' (R.length + 1) (R.map vStr ++ [vStr s])) :
    KAt rk r B f (R ++ [s]) false O (w'.setCell ⟨rk, 2, none⟩ v') ∧ QFr B w (w'.setCell ⟨rk, 2, none⟩ v') ∧ (∀ {d : Dk} {k : Nat}, RD r B d k w → RD r B d k (w'.setCell ⟨rk, 2, none⟩ v')) := by
  obtain ⟨v, h1, h2, h3, h4⟩ := h.ex
  have h1' := (hb.block _ (brow_lt h1)).trans h1
  have e : (R ++ [s]).map vStr = R.map vStr ++ [vStr s] := by simp
  refine ⟨⟨⟨v', ?_, ?_, h3, fun b hbb c => ?_⟩, h.ge⟩, (QFr.of_below hb).trans (QFr.of_jrn (grown_one _ _ _ _) h.ge h1'), fun hd => (hd.below hb).qjrn h1' (grown_one _ _ _ _)⟩
  · simp [World.setCell, Array.getElem?_modify, h1']
  · rw [e, List.length_append]
    refine ownKeep (own_le hown hB) fun g hg => Below.heap_setCell _ _ _ _ (fun e => ?_)
    exact other_kind hown h1' (by decide) (by rw [hg, e])
  · have := (hown.lt b hbb).1
    have := hO b c
    omega

set_option maxHeartbeats 16000000 in
theorem qappend_any (hd : RD r B d k w) (h : KAt rk r B f R bad O w) (hk : k ≤ 300) (hB : B ≤ w.heap.size) (hO : ∀ b, O b → b < w.heap.size) (s : ByteArray) (hs : s.size ≤ 200) (hR : (forms R).length ≤ 16777216) :
    Calls Tryz.prog 13 #[.pointer (some ⟨rk, 0, none⟩), .string s] w (QLeft r B f (jappend d f R bad s.data.toList).1 (k + 1) rk (jappend d f R bad s.data.toList).2.2.1 (jappend d f R bad s.data.toList).2.2.2 O (jappend d f R bad s.data.toList).2.1 w) := by
  obtain ⟨A, cap, c0, c1, c2, c3, hz, hrow⟩ := h.cells
  have hls := list_size s
  cases bad with
  | true =>
    have HP : Hid (QLeft r B f (jappend d f R true s.data.toList).1 (k + 1) rk (jappend d f R true s.data.toList).2.2.1 (jappend d f R true s.data.toList).2.2.2 O (jappend d f R true s.data.toList).2.1 w (.returned (.int .i64 7)) w) := Lib.hid ⟨rfl, hd.mono (by omega), h, QFr.refl _ _⟩
    clear hd h c0 c1 c2 hz hrow
    go_enter Tryz.func13, Tryz.ntmps13
    go_wp2
    go_ret
    exact HP.out
  | false =>
    have h20 : (s.size : Int) ≤ 20000 := by omega
    have h20l : ¬ 20000 < s.data.toList.length := by omega
    have hfl := form_len s.data.toList (by omega)
    obtain ⟨A', cap', hve, htr⟩ := TRow.of_own (O := fun _ => False) hrow (fun _ _ h => h)
    cases hve
    have HF0 := Lib.hid (qforms_any A cap R w htr (by omega))
    have HFM := Lib.hid (fun w' => qform_any s w' (by omega))
    have HD := Lib.hid hd
    have HJ := Lib.hid h
    have HO := Lib.hid hO
    have HFL := Lib.hid hfl
    have HLS := Lib.hid hls
    have HL2 := Lib.hid h20l
    clear hd h hO hrow htr hfl hls h20l
    go_enter Tryz.func13, Tryz.ntmps13
    go_wp2_with fail
    refine HF0.out.mono ?_
    rintro e w1 ⟨t, rfl, ht, hb1⟩
    have HTZ : Hid (t.size = (forms R).length) := Lib.hid (by rw [← list_size, ht])
    have HB1 := Lib.hid hb1
    clear ht hb1 HF0 c0 c1 c2 c3 hz
    go_wp2_with fail
    refine (HFM.out w1).mono ?_
    rintro e w2 ⟨u, rfl, hu, hb2⟩
    have HUZ : Hid (u.size = (form s.data.toList).length) := Lib.hid (by rw [← list_size, hu])
    have HB2 := Lib.hid (HB1.out.trans (hb2.mono HB1.out.size))
    have hts : t.size ≤ 16777216 := by have := HTZ.out; omega
    have hus : u.size ≤ 300 := by have := HUZ.out; have := HFL.out; have := HLS.out; omega
    clear hu hb2 HB1
    by_cases hfull : 1048576 < t.size + u.size
    · have HP : Hid (QLeft r B f (jappend d f R false s.data.toList).1 (k + 1) rk (jappend d f R false s.data.toList).2.2.1 (jappend d f R false s.data.toList).2.2.2 O (jappend d f R false s.data.toList).2.1 w (.returned (.int .i64 6)) w2) := Lib.hid (by
        rw [jappend_full HL2.out (by have := HTZ.out; have := HUZ.out; omega)]
        exact ⟨rfl, (HD.out.below HB2.out).mono (by omega), HJ.out.below HB2.out, QFr.of_below HB2.out⟩)
      have hfull' : (1048576 : Int) < (t.size : Int) + (u.size : Int) := by omega
      clear HB2 HD HJ HFM
      go_wp2
      go_ret
      exact HP.out
    · have hfull' : (t.size : Int) + (u.size : Int) ≤ 1048576 := by omega
      have hb0 : Below w2.heap.size w2 w2.drew := ⟨rfl, rfl, rfl, Nat.le_refl _, fun _ _ => rfl⟩
      have HB0 := Lib.hid (HB2.out.trans (hb0.mono HB2.out.size))
      have HD2 := Lib.hid (HD.out.below HB0.out)
      have HJ2 := Lib.hid (HJ.out.below HB0.out)
      have HSZ : Hid (w.heap.size ≤ w2.drew.heap.size) := Lib.hid HB0.out.size
      have HQ2 := Lib.hid (QFr.of_below (B := B) HB0.out)
      have HWR : Hid (∀ (w3 : World) (u3 : ByteArray), RD r B d k w3 → u3.data.toList = form s.data.toList → Calls Tryz.prog 42 #[.pointer (some ⟨r, 0, none⟩), .int .i64 f, .int .i64 (t.size : Int), .string u3] w3 (RDLeft r B (d.write f ((forms R).length : Int) (form s.data.toList)).1 (k + 1) (.int .i64 (d.write f ((forms R).length : Int) (form s.data.toList)).2) w3)) := Lib.hid (fun w3 u3 h3 hu3 => by
        have hz3 : u3.size ≤ 300 := by rw [← list_size, hu3]; have := HFL.out; have := HLS.out; omega
        have := rd_write h3 hk f (t.size : Int) (by unfold In64; omega) u3 hz3
        rw [hu3] at this
        have e := HTZ.out
        rw [← e]
        exact this)
      obtain ⟨A2, cap2, d0, d1, d2, d3, dz, _⟩ := HJ2.out.cells
      have hk3 : ∀ w3, Below w2.drew.heap.size w2.drew w3 → RD r B d k w3 ∧ KAt rk r B f R false O w3 ∧ QFr B w w3 ∧ w.heap.size ≤ w3.heap.size ∧ w3.cell? ⟨rk, 0, none⟩ = some (.pointer (some ⟨r, 0, none⟩)) ∧ w3.cell? ⟨rk, 1, none⟩ = some (.int .i64 f) := fun w3 hb => by
        have hj := HJ2.out.below hb
        obtain ⟨_, _, g0, g1, _⟩ := hj.cells
        exact ⟨HD2.out.below hb, hj, HQ2.out.trans (QFr.of_below hb), Nat.le_trans HSZ.out hb.size, g0, g1⟩
      have HK3 := Lib.hid hk3
      clear hb0 HD HJ HB2 HB0 hk3 HD2 HJ2 HQ2 HSZ d2 d3 dz
      go_wp2
      go_region_law (first
        | (go_simp; go_at_call 41; (with_reducible refine (HFM.out _).mono ?_); rintro e w3 ⟨u3, rfl, hu3, hb3⟩; obtain ⟨g1, g2, g3, g4, g5, g6⟩ := HK3.out w3 hb3; have H3 := Lib.hid g1; have J3 := Lib.hid g2; have Q3 := Lib.hid g3; have S3 := Lib.hid g4; have HW3 := Lib.hid (HWR.out w3 u3 g1 hu3); clear g1 g2 g3 g4 hu3 hb3)
        | (go_simp; go_at_call 42; (with_reducible refine HW3.out.mono ?_); rintro e w4 ⟨rfl, h4, k4⟩; have H4 := Lib.hid h4; have J4 := Lib.hid (J3.out.rfr k4); have Q4 := Lib.hid (Q3.out.trans (QFr.of_r k4)); have S4 := Lib.hid (Nat.le_trans S3.out k4.size); clear h4 k4))
      all_goals
        clear HWR HFM HK3 HW3 H3 J3 Q3 S3
        by_cases hc : (d.write f ((forms R).length : Int) (form s.data.toList)).2 = 0
        · have HE := Lib.hid (jappend_ok HL2.out (by have := HTZ.out; have := HUZ.out; omega) hc)
          rw [hc]
          have hRl : R.length ≤ (forms R).length := forms_count
          have hRl2 : R.length ≤ 16777216 := by omega
          obtain ⟨i0, hi0, hz0, hz1, hz2⟩ := info_parts infoStr
          obtain ⟨v, k1, k2, k3, k5⟩ := J4.out.ex
          have kc2 : w4.cell? ⟨rk, 2, none⟩ = some v := by rw [Lib.cell_of_heap k1]; rfl
          have hfin : ∀ w6 v6, Below w4.heap.size w4 w6 → w6.ownsRow w4.heap.size 9 1 v6 (R.length + 1) (R.map vStr ++ [vStr s.data.toList]) → QLeft r B f (jappend d f R false s.data.toList).1 (k + 1) rk (jappend d f R false s.data.toList).2.2.1 (jappend d f R false s.data.toList).2.2.2 O (jappend d f R false s.data.toList).2.1 w (.returned (.int .i64 0)) (w6.setCell ⟨rk, 2, none⟩ v6) := fun w6 v6 hb6 ho6 => by
            obtain ⟨y1, y2, y3⟩ := J4.out.added (fun b hb => by have := HO.out b hb; have := S4.out; omega) (by have := S4.out; omega) hb6 ho6
            rw [HE.out]
            exact ⟨rfl, y3 H4.out, y1, Q4.out.trans y2⟩
          have hrk : ∀ w6, Below w4.heap.size w4 w6 → w6.frozen? ⟨rk, 2, none⟩ = false ∧ w6.cell? ⟨rk, 2, none⟩ = some v := fun w6 hb6 => by
            have h6 := (hb6.block _ (brow_lt k1)).trans k1
            exact ⟨Lib.frozen_of_heap h6 2, by rw [Lib.cell_of_heap h6]; rfl⟩
          have hba : Below w4.heap.size w4 (w4.alloc (.cells #[] 9)) := (Below.refl _ _).alloc (Nat.le_refl _) _
          have ⟨a1, a2⟩ := hrk _ hba
          have HFIN := Lib.hid hfin
          have HRK := Lib.hid hrk
          have es : [Value.string s] = [vStr s.data.toList] := by simp [vStr, bs]
          have ES := Lib.hid es
          have K1 := Lib.hid k1
          have K2 := Lib.hid k2
          have HBA := Lib.hid hba
          have hown0 : (w4.alloc (.cells #[] 9)).ownsRow w4.heap.size 9 1 (.slice (some ⟨w4.heap.size, 0, none⟩) 0 0) 0 [] := World.ownsRow_lit w4 #[] 0 (Nat.le_refl _) (Nat.zero_le _) rfl
          have HO0 := Lib.hid hown0
          clear hfin hrk es k1 k2 k3 k5 hc hba hown0 HE H4 J4 Q4 S4 HO HFL HTZ HUZ hRl hfull hfull'
          go_wp2_with (at_builtin; revert hk)
          intro hk
          rcases K2.out.2 with ⟨hv, hl0⟩ | ⟨g, cg, cur, hv, hg1, hg2, hg3⟩
          · subst hv
            have hRn : R = [] := List.eq_nil_of_length_eq_zero (by omega)
            subst hRn
            clear K2
            refine wpList_append_own_none rfl _ _ 46 rfl w4.heap.size 9 i0 1 Tryz.underlying46 hi0 _ 0 [] rfl HO0.out rfl ?_
            generalize hV : (Value.slice (some ⟨w4.heap.size, 0, none⟩) 0 0) = v5 at HO0 ⊢
            clear hV a1 a2
            generalize hW : w4.alloc (.cells #[] 9) = w5 at HO0 HBA ⊢
            clear hW
            have HO5 := HO0
            have HB5 := HBA
            have hsz5 := HBA.out.size
            clear HO0 HBA
            go_wp2_with (at_builtin; refine wpList_append_own _ rfl _ _ 46 rfl w4.heap.size 9 i0 (.string ⟨#[]⟩) 1 16 Tryz.underlying46 hi0 hz0 hz1 hz2 rfl (by decide) _ _ _ rfl (HO5.out.alloc _) ⟨w5.heap.size, 0, none⟩ 1 1 [.string s] rfl rfl ?c1 ?c2 ?c3 ?c4 ?c5 ?_)
            case c1 =>
              intro j x hj
              match j, hj with
              | 0, hj => simp at hj; subst hj; simp [Addr.add]
            case c2 => intro x hx; simp at hx; subst hx; rfl
            case c3 => unfold maxLen; omega
            case c4 => omega
            case c5 => simp; omega
            intro v6 w6 hown' hgrow _
            obtain ⟨A6, cp6, hv6, _⟩ := own_parts hown'
            subst hv6
            have hb6 : Below w4.heap.size w4 w6 := (HB5.out.alloc (by omega) _).grown hgrow (by simp; omega) (fun k hk => (HO5.out.lt k hk).1)
            have HP := Lib.hid (HFIN.out w6 _ hb6 (by rw [ES.out] at hown'; simpa using hown'))
            obtain ⟨q1, q2⟩ := HRK.out w6 hb6
            clear hown' hgrow hb6 HFIN HRK kc2 HO5 HB5
            go_wp2
            go_ret
            exact HP.out
          · subst hv
            have hsrc : ∀ j u, (R.map vStr)[j]? = some u → (w4.alloc (.cells #[] 9)).cell? ((⟨g, 0, none⟩ : Addr).add j) = some u := fun j u hu => by
              have := K2.out.cells (g := g) rfl
              exact Lib.cell?_alloc_some _ (by simpa using this j u hu)
            have HSRC := Lib.hid hsrc
            clear hg1 hg2 hg3 hsrc
            refine wpList_append_own _ rfl _ _ 46 rfl w4.heap.size 9 i0 (.string ⟨#[]⟩) 1 16 Tryz.underlying46 hi0 hz0 hz1 hz2 rfl (by decide) _ 0 [] rfl HO0.out ⟨g, 0, none⟩ R.length cg (R.map vStr) rfl (by simp) HSRC.out (one_strs R) ?b3 ?b4 ?b5 ?_
            case b3 => unfold maxLen; omega
            case b4 => omega
            case b5 => simp
            intro v5 w5 hown5 hgrow5 _
            have hb5 : Below w4.heap.size w4 w5 := HBA.out.grown hgrow5 (by simp) (fun k hk => (HO0.out.lt k hk).1)
            simp only [Nat.zero_add, List.nil_append] at hown5
            have HB5 := Lib.hid hb5
            have HO5 := Lib.hid hown5
            have hsz5 := hb5.size
            clear hown5 hgrow5 hb5 HO0 HBA a1 a2 HSRC
            go_wp2_with (at_builtin; refine wpList_append_own _ rfl _ _ 46 rfl w4.heap.size 9 i0 (.string ⟨#[]⟩) 1 16 Tryz.underlying46 hi0 hz0 hz1 hz2 rfl (by decide) _ _ _ rfl (HO5.out.alloc _) ⟨w5.heap.size, 0, none⟩ 1 1 [.string s] rfl rfl ?c1 ?c2 ?c3 ?c4 ?c5 ?_)
            case c1 =>
              intro j x hj
              match j, hj with
              | 0, hj => simp at hj; subst hj; simp [Addr.add]
            case c2 => intro x hx; simp at hx; subst hx; rfl
            case c3 => unfold maxLen; omega
            case c4 => omega
            case c5 => simp; omega
            intro v6 w6 hown' hgrow _
            obtain ⟨A6, cp6, hv6, _⟩ := own_parts hown'
            subst hv6
            have hb6 : Below w4.heap.size w4 w6 := (HB5.out.alloc (by omega) _).grown hgrow (by simp; omega) (fun k hk => (HO5.out.lt k hk).1)
            have HP := Lib.hid (HFIN.out w6 _ hb6 (by rw [ES.out] at hown'; exact hown'))
            obtain ⟨q1, q2⟩ := HRK.out w6 hb6
            clear hown' hgrow hb6 HFIN HRK kc2 HO5 HB5
            go_wp2
            go_ret
            exact HP.out
        · have HE := Lib.hid (jappend_err HL2.out (by have := HTZ.out; have := HUZ.out; omega) hc)
          obtain ⟨_, _, g0, g1, g2, g3, gz, _⟩ := J4.out.cells
          have gz3 := gz 3
          have hcb : ((d.write f ((forms R).length : Int) (form s.data.toList)).2 != 0) = true := by simpa using hc
          have HP : Hid (QLeft r B f (jappend d f R false s.data.toList).1 (k + 1) rk (jappend d f R false s.data.toList).2.2.1 (jappend d f R false s.data.toList).2.2.2 O (jappend d f R false s.data.toList).2.1 w (.returned (.int .i64 (d.write f ((forms R).length : Int) (form s.data.toList)).2)) (w4.setCell ⟨rk, 3, none⟩ (.bool true))) := Lib.hid (by
            rw [HE.out]
            obtain ⟨y1, y2, y3⟩ := J4.out.mark true
            exact ⟨rfl, y3 H4.out, y1, Q4.out.trans y2⟩)
          clear HE H4 J4 Q4 S4 gz g0 g1 g2
          generalize (d.write f ((forms R).length : Int) (form s.data.toList)).2 = c at *
          go_wp2
          go_ret
          exact HP.out
end

end Go.Proofs.YtbpkcgkcamkggaaGreatDoor
