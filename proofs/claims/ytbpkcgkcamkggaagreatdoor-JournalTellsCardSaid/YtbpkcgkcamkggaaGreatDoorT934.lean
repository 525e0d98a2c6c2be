/-
  The program's journal (2): parse.
-/
import Derived.Test.YtbpkcgkcamkggaaGreatDoorT933
import Derived.Test.YtbpkcgkcamkggaaGreatDoorT913
import Derived.Deep.RegionHeld3
import Derived.WalkMore
set_option linter.unusedVariables false
set_option maxRecDepth 100000
namespace Go.Proofs.YtbpkcgkcamkggaaGreatDoor
open Go.RowKit W

theorem infoStr : (Tryz.prog.info? 9).map (fun i => (i.zero, i.size, i.bytes)) = some (some (.string ⟨#[]⟩), 1, 16) := by kernel_rfl

/-- what parse leaves: the records, in memory of their own, and the bytes of their forms. -/
def ParsePost (s : ByteArray) (w : World) (e : Ending) (w' : World) : Prop :=
  ∃ v, e = .returned (.tuple #[v, .int .i64 ((forms (recs s.data.toList)).length : Int)]) ∧ w'.ownsRow w.heap.size 9 1 v (recs s.data.toList).length ((recs s.data.toList).map vStr) ∧ Below w.heap.size w w'

/-- between two records. -/
structure PInv (s : ByteArray) (q : Nat) (v : Value) (R : List (List UInt8)) (s2 : ByteArray) (w wr : World) : Prop where
  eq : s.data.toList = forms R ++ s2.data.toList
  ok : ∀ t ∈ R, t.length ≤ 20000
  rdr : RdrAt 109 q s2 false wr
  own : wr.ownsRow w.heap.size 9 1 v R.length (R.map vStr)
  bel : Below w.heap.size w wr
  ge : w.heap.size ≤ q
  ne : v.ownBlock ≠ some q

theorem PInv.on {s : ByteArray} {q : Nat} {v : Value} {R : List (List UInt8)} {s2 : ByteArray} {w wr w' : World} (h : PInv s q v R s2 w wr) (hg : wr.grownBy w' (some q)) :
    w'.ownsRow w.heap.size 9 1 v R.length (R.map vStr) ∧ Below w.heap.size w w' :=
  ⟨ownKeep h.own fun b hb => hg.block b (brow_lt (ownKind h.own hb).choose_spec) (fun e => h.ne (by rw [hb, e])), h.bel.trans (below_of_grown hg h.bel.size h.ge)⟩
theorem PInv.len {s : ByteArray} {q : Nat} {v : Value} {R : List (List UInt8)} {s2 : ByteArray} {w wr : World} (h : PInv s q v R s2 w wr) : s.size = (forms R).length + s2.size := by
  have := congrArg List.length h.eq
  rw [List.length_append, list_size, list_size] at this
  exact this
theorem PInv.done {s : ByteArray} {q : Nat} {v : Value} {R : List (List UInt8)} {s2 : ByteArray} {w wr w' : World} (h : PInv s q v R s2 w wr) (hs : s.size ≤ 16777216) (hg : wr.grownBy w' (some q)) (hn : rdRec s2.data.toList = none) :
    ParsePost s w (.returned (.tuple #[v, .int .i64 ((forms R).length : Int)])) w' := by
  have e : recs s.data.toList = R := recs_eq (by rw [list_size]; unfold maxI; omega) ⟨h.eq, h.ok, hn⟩
  obtain ⟨h1, h2⟩ := h.on hg
  unfold ParsePost
  rw [e]
  exact ⟨v, rfl, h1, h2⟩

theorem rdRec_text {l : List UInt8} (h : rdText l = none) : rdRec l = none := by unfold rdRec; rw [h]
theorem rdRec_num {l t r : List UInt8} (h : rdText l = some (t, r)) (h2 : rdNum r = none) : rdRec l = none := by unfold rdRec; rw [h]; simp only; rw [h2]
theorem rdRec_bad {l t r r2 : List UInt8} {n : Int} (h : rdText l = some (t, r)) (h2 : rdNum r = some (n, r2)) (h3 : ¬ (t.length ≤ 20000 ∧ n = (rsum t : Int))) : rdRec l = none := by
  unfold rdRec; rw [h]; simp only; rw [h2]; simp only; exact if_neg h3
theorem rdRec_good {l t r r2 : List UInt8} {n : Int} (h : rdText l = some (t, r)) (h2 : rdNum r = some (n, r2)) (h3 : t.length ≤ 20000) (h4 : n = (rsum t : Int)) : rdRec l = some (t, r2) := by
  unfold rdRec; rw [h]; simp only; rw [h2]; simp only; exact if_pos ⟨h3, h4⟩
theorem rdNum_nil : rdNum [] = none := by decide +kernel

set_option maxHeartbeats 8000000 in
theorem jparse_any (s : ByteArray) (w : World) (hs : s.size ≤ 16777216) :
    Calls Tryz.prog 34 #[.string s] w (ParsePost s w) := by
  obtain ⟨i0, hi0, hz0, hz1, hz2⟩ := info_parts infoStr
  go_enter Tryz.func34, Tryz.ntmps34
  go_wp2
  go_step3
  go_wp2_with fail
  refine (W.open_any s w).mono ?_
  rintro e w1 ⟨rfl, hw1⟩
  have hI0 : Hid (PInv s w.heap.size (.slice none 0 0) [] s w w1) := Lib.hid (by
    subst hw1
    exact ⟨by simp [forms], (fun t h => nomatch h), by unfold RdrAt; exact heap_alloc_new w _, World.ownsRow_nil _ _ _ _, (Below.refl _ _).alloc (Nat.le_refl _) _, Nat.le_refl _, by simp [Value.ownBlock]⟩)
  clear hw1
  generalize hq : w.heap.size = q at *
  have hqe := Lib.hid hq
  clear hq
  go_wp2
  go_step3
  go_wp2
  go_loopw [4, 5, 7, 8, 15] (fun v n _ _ _ wr => ∃ (R : List (List UInt8)) (s2 : ByteArray), n = .int .i64 ((forms R).length : Int) ∧ Hid (PInv s q v R s2 w wr)) (fun _ n _ _ _ _ => s.size - (intOf n).toNat)
  case atStart => exact ⟨[], s, rfl, hI0⟩
  case round =>
    clear hI0
    obtain ⟨R, s2, rfl, hI⟩ := hrel
    have hlen := hI.out.len
    have hT := textR_any q s2 false _ hI.out.rdr (by omega)
    cases hx : rdText s2.data.toList with
    | none =>
      rw [hx] at hT
      have HT := Lib.hid hT
      have HX := Lib.hid (rdRec_text hx)
      clear hT hx
      go_wp2_with fail
      refine HT.out.mono ?_
      rintro e w2 ⟨rfl, ⟨s3, hs3, hr3⟩, hg2⟩
      obtain rfl := empty_of hs3
      have hN := numR_any q ⟨#[]⟩ true w2 hr3 (by decide)
      rw [show rdNum (⟨#[]⟩ : ByteArray).data.toList = none from rdNum_nil] at hN
      have HN := Lib.hid hN
      have HG := Lib.hid hg2
      clear hN hs3 hr3 hg2 HT
      go_wp2_with fail
      refine HN.out.mono ?_
      rintro e w3 ⟨rfl, ⟨s4, hs4, hr4⟩, hg3⟩
      obtain rfl := empty_of hs4
      have HR := Lib.hid hr4
      have HG3 := Lib.hid (grown_trans HG.out hg3)
      clear hs4 hr4 hg3 HG HN
      go_wp2_with fail
      refine (jfailed_any q _ true w3 HR.out (by decide)).mono ?_
      rintro e w4 ⟨he, rfl⟩
      obtain rfl : e = .returned (.bool true) := he
      go_wp2
      try rw [Exit.noGoto_ret]
      go_ret2
      exact hI.out.done hs HG3.out HX.out
    | some x =>
      obtain ⟨t, r1⟩ := x
      rw [hx] at hT
      obtain ⟨u, hu⟩ : ∃ u : ByteArray, u = bs t := ⟨_, rfl⟩
      have hut : u.data.toList = t := by rw [hu]; rfl
      have hT2 : Calls Tryz.prog 54 #[.pointer (some ⟨q, 0, none⟩)] wr (After 109 q (.string u) r1 false wr) := by rw [hu]; exact hT
      subst hut
      have HT := Lib.hid hT2
      have HX := Lib.hid hx
      have huz : u.size ≤ s2.size := by
        have h1 := (rdText_iff _ (by rw [list_size]; unfold maxI; omega) _ _).1 hx
        have h2 := congrArg List.length h1
        have h3 := eText_len u.data.toList
        rw [List.length_append, list_size] at h2
        rw [list_size] at h3
        by_cases c : u.size ≤ 9223372036854775807
        · have := h3 c; omega
        · unfold eText at h2
          simp at h2
          omega
      clear hT hT2 hx hu
      go_wp2_with fail
      refine HT.out.mono ?_
      rintro e w2 ⟨rfl, ⟨s3, hs3, hr3⟩, hg2⟩
      subst hs3
      have hs3z : s3.size ≤ s2.size := by
        have h1 := (rdText_iff _ (by rw [list_size]; unfold maxI; omega) _ _).1 HX.out
        have h2 := congrArg List.length h1
        rw [List.length_append, list_size, list_size] at h2
        omega
      have hN := numR_any q s3 false w2 hr3 (by omega)
      have HG := Lib.hid hg2
      clear hr3 hg2 HT
      cases hy : rdNum s3.data.toList with
      | none =>
        rw [hy] at hN
        have HN := Lib.hid hN
        have HY := Lib.hid (rdRec_num HX.out hy)
        clear hN hy HX
        go_wp2_with fail
        refine HN.out.mono ?_
        rintro e w3 ⟨rfl, ⟨s4, hs4, hr4⟩, hg3⟩
        obtain rfl := empty_of hs4
        have HR := Lib.hid hr4
        have HG3 := Lib.hid (grown_trans HG.out hg3)
        clear hs4 hr4 hg3 HG HN
        go_wp2_with fail
        refine (jfailed_any q _ true w3 HR.out (by decide)).mono ?_
        rintro e w4 ⟨he, rfl⟩
        obtain rfl : e = .returned (.bool true) := he
        go_wp2
        try rw [Exit.noGoto_ret]
        go_ret2
        exact hI.out.done hs HG3.out HY.out
      | some y =>
        obtain ⟨n, r2⟩ := y
        rw [hy] at hN
        have HN := Lib.hid hN
        have HY := Lib.hid hy
        clear hN hy
        go_wp2_with fail
        refine HN.out.mono ?_
        rintro e w3 ⟨rfl, ⟨s4, hs4, hr4⟩, hg3⟩
        subst hs4
        have hs4z : s4.size ≤ s3.size := by
          have h1 := ((rdNum_iff _ _ _).1 HY.out).1
          have h2 := congrArg List.length h1
          rw [List.length_append, list_size, list_size] at h2
          omega
        have HR := Lib.hid hr4
        have HG3 := Lib.hid (grown_trans HG.out hg3)
        clear hr4 hg3 HG HN
        go_wp2_with fail
        refine (jfailed_any q s4 false w3 HR.out (by omega)).mono ?_
        rintro e w4 ⟨he, rfl⟩
        obtain rfl : e = .returned (.bool false) := he.trans (by simp)
        by_cases h20 : 20000 < u.size
        · have HZ := Lib.hid (rdRec_bad HX.out HY.out (fun h => by have := h.1; rw [list_size] at this; omega))
          have h20' : (20000 : Int) < (u.size : Int) := by omega
          clear HX HY
          go_wp2
          try rw [Exit.noGoto_ret]
          go_ret2
          exact hI.out.done hs HG3.out HZ.out
        · have h20' : (u.size : Int) ≤ 20000 := by omega
          go_wp2_with fail
          refine (jsum_any u w4 (by omega)).mono ?_
          rintro e w5 ⟨rfl, rfl⟩
          have hSl := rsum_lt u.data.toList
          by_cases hn : n = (rsum u.data.toList : Int)
          · have hgood := rdRec_good HX.out HY.out (by rw [list_size]; omega) hn
            obtain ⟨hform, _⟩ := (rdRec_iff _ (by rw [list_size]; unfold maxI; omega) _ _).1 hgood
            have hform2 := congrArg List.length hform
            have hpos := form_pos u.data.toList
            rw [List.length_append, list_size, list_size] at hform2
            subst hn
            clear hgood
            have HF := Lib.hid hform
            obtain ⟨hown, hbel⟩ := hI.out.on HG3.out
            have HI := hI
            have hge := hI.out.ge
            have hne := hI.out.ne
            have hbz := hbel.size
            have hRl : R.length ≤ (forms R).length := forms_count
            have HO := Lib.hid hown
            have HB := Lib.hid hbel
            clear hform hown hbel HX HY hI
            generalize hS : rsum u.data.toList = S at *
            clear hS
            go_wp2_with (at_builtin; refine wpList_append_own _ rfl _ _ 46 rfl w.heap.size 9 i0 (.string ⟨#[]⟩) 1 16 Tryz.underlying46 hi0 hz0 hz1 hz2 rfl (by decide) _ _ _ rfl (HO.out.alloc _) ⟨w5.heap.size, 0, none⟩ 1 1 [.string u] rfl rfl ?c1 ?c2 ?c3 ?c4 ?c5 ?_)
            case c1 =>
              intro j x hj
              match j, hj with
              | 0, hj => simp at hj; subst hj; simp [Addr.add]
            case c2 => intro x hx; simp at hx; subst hx; rfl
            case c3 => unfold maxLen; omega
            case c4 => omega
            case c5 => simp; omega
            intro v' w6 hown' hgrow _
            have hql := HR.out.lt
            have hr6 : RdrAt 109 q s4 false w6 := by
              unfold RdrAt
              rw [hgrow.block q (by simp; omega) (fun e => hne e.symm), Lib.alloc_old w5 _ q hql]
              exact HR.out
            have HR6 := Lib.hid hr6
            have hI6 : PInv s q v' (R ++ [u.data.toList]) s4 w w6 := by
              refine ⟨?_, ?_, hr6, ?_, ?_, hge, ?_⟩
              · rw [HI.out.eq, HF.out, forms_snoc, List.append_assoc]
              · intro x hx
                rcases List.mem_append.1 hx with hx | hx
                · exact HI.out.ok x hx
                · simp only [List.mem_singleton] at hx; subst hx; rw [list_size]; omega
              · have e : (R ++ [u.data.toList]).map vStr = R.map vStr ++ [Value.string u] := by simp [vStr, bs]
                rw [e, List.length_append]
                exact hown'
              · exact (HB.out.alloc (by omega) _).grown hgrow (by simp; omega) (fun k hk => (HO.out.lt k hk).1)
              · exact other_kind hown' hr6 (by decide)
            have HI6 := Lib.hid hI6
            clear hr6 hI6 hown' hgrow HO HB HR HF HG3
            go_wp2_with fail
            refine (W.left_any q s4 false w6 HR6.out).mono ?_
            rintro e w7 ⟨rfl, rfl⟩
            go_wp2
            go_roundw
            case rel => exact ⟨R ++ [u.data.toList], s4, congrArg (Value.int .i64) (by have := HI6.out.len; omega), HI6⟩
            case measure => simp [intOf]; omega
          · have HZ := Lib.hid (rdRec_bad HX.out HY.out (fun h => hn h.2))
            have hnb : (n != (rsum u.data.toList : Int)) = true := by simpa using hn
            clear HX HY
            generalize (rsum u.data.toList : Int) = S at *
            go_wp2
            try rw [Exit.noGoto_ret]
            go_ret2
            exact hI.out.done hs HG3.out HZ.out

end Go.Proofs.YtbpkcgkcamkggaaGreatDoor
