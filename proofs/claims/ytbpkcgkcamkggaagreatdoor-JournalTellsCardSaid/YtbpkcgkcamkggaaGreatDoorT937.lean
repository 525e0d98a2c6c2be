/-
  The program's journal (5): Append; Len, Get.
-/
import Derived.Test.YtbpkcgkcamkggaaGreatDoorT936
set_option linter.unusedVariables false
set_option maxRecDepth 100000
namespace Go.Proofs.YtbpkcgkcamkggaaGreatDoor
open Go.RowKit W

section
variable {rj : Nat} {v : Value} {r : Nat} {f : Int} {R : List (List UInt8)} {bad : Bool} {w : World}

theorem jappend_range {d : Dk} {s : List UInt8} (h : 20000 < s.length) : jappend d f R false s = (d, 3, R, false) := by
  unfold jappend; rw [if_neg (by decide), if_pos h]
theorem jappend_full {d : Dk} {s : List UInt8} (h : ¬ 20000 < s.length) (h2 : 1048576 < (forms R).length + (form s).length) : jappend d f R false s = (d, 6, R, false) := by
  unfold jappend; rw [if_neg (by decide), if_neg h, if_pos h2]
theorem jappend_err {d : Dk} {s : List UInt8} (h : ¬ 20000 < s.length) (h2 : ¬ 1048576 < (forms R).length + (form s).length) (h3 : (d.write f ((forms R).length : Int) (form s)).2 ≠ 0) :
    jappend d f R false s = ((d.write f ((forms R).length : Int) (form s)).1, (d.write f ((forms R).length : Int) (form s)).2, R, true) := by
  unfold jappend; rw [if_neg (by decide), if_neg h, if_neg h2, if_pos h3]
theorem jappend_ok {d : Dk} {s : List UInt8} (h : ¬ 20000 < s.length) (h2 : ¬ 1048576 < (forms R).length + (form s).length) (h3 : (d.write f ((forms R).length : Int) (form s)).2 = 0) :
    jappend d f R false s = ((d.write f ((forms R).length : Int) (form s)).1, 0, R ++ [s], false) := by
  unfold jappend; rw [if_neg (by decide), if_neg h, if_neg h2, if_neg (fun c => c h3)]

/-- a record more: what an append to the slice and two stores leave. -/
theorem JAt.added (h : JAt rj v r f R false w) {w2 : World} {v' : Value} {s : List UInt8} (hown : w2.ownsRow 0 9 1 v' (R.length + 1) (R.map vStr ++ [vStr s])) (hg : w.grownBy w2 v.ownBlock) (hl : ∀ b, v'.ownBlock = some b → v.ownBlock = some b ∨ w.heap.size ≤ b) (len : Int) (hlen : len = ((forms (R ++ [s])).length : Int)) :
    JAt rj v' r f (R ++ [s]) false ((w2.setCell ⟨rj, 2, none⟩ v').setCell ⟨rj, 3, none⟩ (.int .i64 len)) ∧ PFr (JOwn rj v) w ((w2.setCell ⟨rj, 2, none⟩ v').setCell ⟨rj, 3, none⟩ (.int .i64 len)) := by
  subst hlen
  have hne : v.ownBlock ≠ some rj := other_kind h.row h.cell (by decide)
  have hc2 : w2.heap[rj]? = some (.cells #[.pointer (some ⟨r, 0, none⟩), .int .i64 f, v, .int .i64 ((forms R).length : Int), .bool false] 74 (0, 0)) := (hg.block rj (h.lt (.inl rfl)) (fun e => hne e.symm)).trans h.cell
  refine ⟨⟨?_, ?_⟩, ?_⟩
  · simp [World.setCell, Array.getElem?_modify, hc2]
  · have e : (R ++ [s]).map vStr = R.map vStr ++ [vStr s] := by simp
    rw [e, List.length_append]
    refine ownKeep hown fun b hb => ?_
    have hbn : b ≠ rj := fun e => other_kind hown hc2 (by decide) (by rw [hb, e])
    rw [Below.heap_setCell _ _ _ _ (fun e => hbn e), Below.heap_setCell _ _ _ _ (fun e => hbn e)]
  · have k1 : PFr (JOwn rj v) w w2 := PFr.of_grown hg (fun b e => .inr e)
    have k2 : PFr (JOwn rj v) w2 (w2.setCell ⟨rj, 2, none⟩ v') := PFr.of_grown (grownOne _ _ _ _) (fun b e => .inl (by injection e with e; exact e.symm))
    have k3 : PFr (JOwn rj v) (w2.setCell ⟨rj, 2, none⟩ v') ((w2.setCell ⟨rj, 2, none⟩ v').setCell ⟨rj, 3, none⟩ (.int .i64 ((forms (R ++ [s])).length : Int))) := PFr.of_grown (grownOne _ _ _ _) (fun b e => .inl (by injection e with e; exact e.symm))
    exact (k1.trans k2 (fun b hb => .inl hb)).trans k3 (fun b hb => .inl hb)

set_option maxHeartbeats 8000000 in
theorem jappend_any {L : Lay} {d : Dk} {n : Nat} (hd : DAt r L d n w) (h : JAt rj v r f R bad w) (hn : n ≤ 137438953472) (h64 : In64 f) (ht : Tab w) (s : ByteArray) (hs : s.size ≤ 1073741824) (hR : (forms R).length ≤ 16777216) :
    Calls Tryz.prog 12 #[.pointer (some ⟨rj, 0, none⟩), .string s] w (JLeft r L rj v f (jappend d f R bad s.data.toList).1 (n + s.size + 50) (jappend d f R bad s.data.toList).2.2.1 (jappend d f R bad s.data.toList).2.2.2 (jappend d f R bad s.data.toList).2.1 w) := by
  obtain ⟨c0, c1, c2, c3, c4, hz⟩ := h.cells
  have hls := list_size s
  cases bad with
  | true =>
    have HP : Hid (JLeft r L rj v f (jappend d f R true s.data.toList).1 (n + s.size + 50) (jappend d f R true s.data.toList).2.2.1 (jappend d f R true s.data.toList).2.2.2 (jappend d f R true s.data.toList).2.1 w (.returned (.int .i64 7)) w) := Lib.hid ⟨rfl, L, v, hd.mono (by omega), h, KvS.refl _ _, MStep.refl _ _⟩
    clear hd h c0 c1 c2 c3 hz
    go_enter Tryz.func12, Tryz.ntmps12
    go_wp2
    go_ret
    exact HP.out
  | false =>
    by_cases h20 : 20000 < s.size
    · have HP : Hid (JLeft r L rj v f (jappend d f R false s.data.toList).1 (n + s.size + 50) (jappend d f R false s.data.toList).2.2.1 (jappend d f R false s.data.toList).2.2.2 (jappend d f R false s.data.toList).2.1 w (.returned (.int .i64 3)) w) := Lib.hid (by
        rw [jappend_range (by rw [hls]; exact h20)]
        exact ⟨rfl, L, v, hd.mono (by omega), h, KvS.refl _ _, MStep.refl _ _⟩)
      have h20' : (20000 : Int) < (s.size : Int) := by omega
      clear hd h c0 c1 c2 c3 hz
      go_enter Tryz.func12, Tryz.ntmps12
      go_wp2
      go_ret
      exact HP.out
    · have h20' : (s.size : Int) ≤ 20000 := by omega
      have h20l : ¬ 20000 < s.data.toList.length := by rw [hls]; exact h20
      have hfl := form_len s.data.toList (by omega)
      rw [hls] at hfl
      have HD := Lib.hid hd
      have HJ := Lib.hid h
      have HF := Lib.hid (jform_any s w hs ht)
      clear hd h c0 c1 c2 c3 hz ht
      go_enter Tryz.func12, Tryz.ntmps12
      go_wp2_with fail
      refine HF.out.mono ?_
      rintro e w1 ⟨t, rfl, htl, hb1⟩
      have htz : t.size = (form s.data.toList).length := by rw [← list_size, htl]
      have HD1 := Lib.hid (HD.out.below hb1)
      have HJ1 := Lib.hid (HJ.out.below hb1)
      have HB1 := Lib.hid hb1
      have HTL := Lib.hid htl
      obtain ⟨c0, c1, c2, c3, c4, hz⟩ := HJ1.out.cells
      clear hb1 htl HF HD HJ
      have hz0 := hz 0
      by_cases hfull : 1048576 < (forms R).length + t.size
      · have HP : Hid (JLeft r L rj v f (jappend d f R false s.data.toList).1 (n + s.size + 50) (jappend d f R false s.data.toList).2.2.1 (jappend d f R false s.data.toList).2.2.2 (jappend d f R false s.data.toList).2.1 w (.returned (.int .i64 6)) w1) := Lib.hid (by
          rw [jappend_full h20l (by omega)]
          exact ⟨rfl, L, v, HD1.out.mono (by omega), HJ1.out, KvS.refl _ _, MStep.of_below HB1.out⟩)
        have hfull' : (1048576 : Int) < ((forms R).length : Int) + (t.size : Int) := by omega
        clear hz HD1 HJ1 HB1 HTL
        go_wp2
        go_ret
        exact HP.out
      · have hfull' : ((forms R).length : Int) + (t.size : Int) ≤ 1048576 := by omega
        have hb0 : Below w1.heap.size w1 w1.drew := ⟨rfl, rfl, rfl, Nat.le_refl _, fun _ _ => rfl⟩
        have HD2 := Lib.hid (HD1.out.below hb0)
        have HJ2 := Lib.hid (HJ1.out.below hb0)
        have hw := mWrite HD2.out hn h64 (a := ((forms R).length : Int)) (by unfold In64; omega) t (by omega)
        rw [HTL.out] at hw
        have HM := Lib.hid hw
        have HB2 := Lib.hid (HB1.out.trans (hb0.mono HB1.out.size))
        clear hw hb0 HD1 HJ1 HB1 hz hz0
        go_wp2
        go_region_law (first | (go_simp; go_at_call 30; (with_reducible refine HM.out.mono ?_); rintro e w4 ⟨rfl, L4, h4, k4⟩; have H4 := Lib.hid h4; have K4 := Lib.hid k4; clear h4 k4))
        all_goals
          have hj4 := HJ2.out.far HD2.out K4.out
          by_cases hc : (d.write f ((forms R).length : Int) (form s.data.toList)).2 = 0
          · have hE := jappend_ok h20l (by omega) hc
            have HE := Lib.hid hE
            obtain ⟨A, cap, hv, _⟩ := own_parts hj4.row
            subst hv
            obtain ⟨d0, d1, d2, d3, d4, dz⟩ := hj4.cells
            have HJ4 := Lib.hid hj4
            have hRl : R.length ≤ (forms R).length := forms_count
            obtain ⟨i0, hi0, hz0, hz1, hz2⟩ := info_parts infoStr
            have hjl := hj4.lt (.inl rfl)
            have hne := other_kind hj4.row hj4.cell (by decide)
            have HN := Lib.hid hne
            have hcl := forms_snoc R s.data.toList
            have hcll := congrArg List.length hcl
            rw [List.length_append] at hcll
            clear hE hj4 dz d0 d1 d4 c0 c1 c2 c3 c4 hne hcl
            rw [hc]
            go_wp2_with (at_builtin; refine wpList_append_lies _ rfl _ _ 46 rfl 0 9 i0 (.string ⟨#[]⟩) 1 16 Tryz.underlying46 hi0 hz0 hz1 hz2 rfl (by decide) _ _ _ rfl (HJ4.out.row.alloc _) ⟨w4.heap.size, 0, none⟩ 1 1 [.string s] rfl rfl ?qc1 ?qc2 (by decide) ?qc3 ?qc4 ?qc5 (w4.heap.size + 1) ?qc6 ?_)
            case qc1 =>
              intro j x hj
              match j, hj with
              | 0, hj => simp at hj; subst hj; simp [Addr.add]
            case qc2 => intro x hx; simp at hx; subst hx; rfl
            case qc3 => unfold maxLen; omega
            case qc4 => omega
            case qc5 => simp
            case qc6 => simp
            intro g capg w6 hown' hgrow hat hlt
            have hba : Below w4.heap.size w4 (w4.alloc (.cells #[.string s] 9)) := (Below.refl _ _).alloc (Nat.le_refl _) _
            have hj5 := HJ4.out.below hba
            have es : [Value.string s] = [vStr s.data.toList] := by simp [vStr, bs]
            rw [es] at hown'
            have hnew : ∀ b, (Value.slice (some ⟨g, 0, none⟩) (R.length + 1) capg).ownBlock = some b → (Value.slice A R.length cap).ownBlock = some b ∨ (w4.alloc (.cells #[.string s] 9)).heap.size ≤ b := fun b hb => by
              simp only [Value.ownBlock, Option.some.injEq] at hb
              subst hb
              rcases hat with h1 | h1
              · exact .inl h1
              · right; rw [h1]; simp
            have hc6 := (hgrow.block rj (hj5.lt (.inl rfl)) (fun e => HN.out e.symm)).trans hj5.cell
            have d63 : w6.cell? ⟨rj, 3, none⟩ = some (.int .i64 ((forms R).length : Int)) := by rw [Lib.cell_of_heap hc6]; rfl
            have d62 : w6.cell? ⟨rj, 2, none⟩ = some (.slice A R.length cap) := by rw [Lib.cell_of_heap hc6]; rfl
            have f62 : w6.frozen? ⟨rj, 2, none⟩ = false := Lib.frozen_of_heap hc6 2
            have f63 : w6.frozen? ⟨rj, 3, none⟩ = false := Lib.frozen_of_heap hc6 3
            have HP : Hid (JLeft r L rj (.slice A R.length cap) f (jappend d f R false s.data.toList).1 (n + s.size + 50) (jappend d f R false s.data.toList).2.2.1 (jappend d f R false s.data.toList).2.2.2 (jappend d f R false s.data.toList).2.1 w (.returned (.int .i64 0)) ((w6.setCell ⟨rj, 2, none⟩ (.slice (some ⟨g, 0, none⟩) (R.length + 1) capg)).setCell ⟨rj, 3, none⟩ (.int .i64 (((forms R).length : Int) + ((form s.data.toList).length : Int))))) := Lib.hid (by
              rw [HE.out]
              obtain ⟨j6, k6⟩ := hj5.added hown' hgrow hnew (((forms R).length : Int) + ((form s.data.toList).length : Int)) (by omega)
              have hd5 := (H4.out.below hba)
              exact ⟨rfl, L4, _, (hd5.jfar hj5 k6).mono (by omega), j6, KvS.of K4.out HB2.out.size, (MStep.of_below HB2.out).trans ((MStep.disk K4.out rj _).trans ((MStep.of_below hba).trans (MStep.jrn k6 hnew r L4)))⟩)
            clear hown' hgrow hat hlt hba hj5 es hnew hc6 HE H4 HJ4 HN K4
            go_wp2
            go_ret
            exact HP.out
          · have hE := jappend_err h20l (by omega) hc
            have HE := Lib.hid hE
            obtain ⟨d0, d1, d2, d3, d4, dz⟩ := hj4.cells
            have dz4 := dz 4
            have HJ4 := Lib.hid hj4
            have hcb : ((d.write f ((forms R).length : Int) (form s.data.toList)).2 != 0) = true := by simpa using hc
            clear hE hj4 dz
            have HP : Hid (JLeft r L rj v f (jappend d f R false s.data.toList).1 (n + s.size + 50) (jappend d f R false s.data.toList).2.2.1 (jappend d f R false s.data.toList).2.2.2 (jappend d f R false s.data.toList).2.1 w (.returned (.int .i64 (d.write f ((forms R).length : Int) (form s.data.toList)).2)) (w4.setCell ⟨rj, 4, none⟩ (.bool true))) := Lib.hid (by
              rw [HE.out]
              obtain ⟨hj5, k5⟩ := HJ4.out.mark true
              exact ⟨rfl, L4, v, (H4.out.jfar HJ4.out k5).mono (by omega), hj5, KvS.of K4.out HB2.out.size, (MStep.of_below HB2.out).trans ((MStep.disk K4.out rj v).trans (MStep.jrn k5 (fun b hb => .inl hb) r L4))⟩)
            clear HE H4 HJ4
            generalize (d.write f ((forms R).length : Int) (form s.data.toList)).2 = c at *
            go_wp2
            go_ret
            exact HP.out

set_option maxHeartbeats 1000000 in
theorem jlen_any (h : JAt rj v r f R bad w) (hR : R.length ≤ 1099511627776) : Calls Tryz.prog 31 #[.pointer (some ⟨rj, 0, none⟩)] w fun e w' => e = .returned (.int .i64 (R.length : Int)) ∧ w' = w := by
  obtain ⟨A, cap, rfl, _⟩ := own_parts h.row
  obtain ⟨c0, c1, c2, c3, c4, hz⟩ := h.cells
  clear h c0 c1 c3 c4 hz
  go_enter Tryz.func31, Tryz.ntmps31
  go_wp2
  go_ret
  exact ⟨rfl, rfl⟩

set_option maxHeartbeats 1000000 in
theorem jget_in (h : JAt rj v r f R bad w) (hR : R.length ≤ 1099511627776) (i : Nat) (hi : i < R.length) : Calls Tryz.prog 32 #[.pointer (some ⟨rj, 0, none⟩), .int .i64 (i : Int)] w fun e w' => e = .returned (vStr R[i]) ∧ w' = w := by
  obtain ⟨A, cap, rfl, hA⟩ := own_parts h.row
  obtain ⟨g, rfl, hg, hcell⟩ := hA (by omega)
  obtain ⟨c0, c1, c2, c3, c4, hz⟩ := h.cells
  have hci : w.cell? ⟨g, i, none⟩ = some (vStr R[i]) := by
    rw [hcell i (by omega)]
    simp [hi]
  have hi0 : (0 : Int) ≤ (i : Int) := by omega
  have hi1 : (i : Int) < (R.length : Int) := by omega
  clear h c0 c1 c3 c4 hz hcell
  generalize vStr R[i] = u at *
  go_enter Tryz.func32, Tryz.ntmps32
  go_wp2
  go_ret
  exact ⟨rfl, rfl⟩

end

end Go.Proofs.YtbpkcgkcamkggaaGreatDoor
