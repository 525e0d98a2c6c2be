/-
  The reference's journal (2): Records.
-/
import Derived.Test.YtbpkcgkcamkggaaGreatDoorT943
set_option linter.unusedVariables false
set_option maxRecDepth 100000
namespace Go.Proofs.YtbpkcgkcamkggaaGreatDoor
open Go.RowKit W

/-- what Records leaves: the records, in memory of their own. -/
def RecsPost (s : ByteArray) (w : World) (e : Ending) (w' : World) : Prop :=
  ∃ v, e = .returned v ∧ w'.ownsRow w.heap.size 9 1 v (recs s.data.toList).length ((recs s.data.toList).map vStr) ∧ Below w.heap.size w w'

/-- between two records. -/
structure QInv (s : ByteArray) (q : Nat) (v : Value) (R : List (List UInt8)) (s2 : ByteArray) (w wr : World) : Prop where
  eq : s.data.toList = forms R ++ s2.data.toList
  ok : ∀ t ∈ R, t.length ≤ 20000
  rdr : RdrAt 99 q s2 false wr
  own : wr.ownsRow w.heap.size 9 1 v R.length (R.map vStr)
  bel : Below w.heap.size w wr
  ge : w.heap.size ≤ q
  ne : v.ownBlock ≠ some q

theorem QInv.on {s : ByteArray} {q : Nat} {v : Value} {R : List (List UInt8)} {s2 : ByteArray} {w wr w' : World} (h : QInv s q v R s2 w wr) (hg : wr.grownBy w' (some q)) :
    w'.ownsRow w.heap.size 9 1 v R.length (R.map vStr) ∧ Below w.heap.size w w' :=
  ⟨ownKeep h.own fun b hb => hg.block b (brow_lt (ownKind h.own hb).choose_spec) (fun e => h.ne (by rw [hb, e])), h.bel.trans (below_of_grown hg h.bel.size h.ge)⟩
theorem QInv.len {s : ByteArray} {q : Nat} {v : Value} {R : List (List UInt8)} {s2 : ByteArray} {w wr : World} (h : QInv s q v R s2 w wr) : s.size = (forms R).length + s2.size := by
  have := congrArg List.length h.eq
  rw [List.length_append, list_size, list_size] at this
  exact this
theorem QInv.done {s : ByteArray} {q : Nat} {v : Value} {R : List (List UInt8)} {s2 : ByteArray} {w wr w' : World} (h : QInv s q v R s2 w wr) (hs : s.size ≤ 16777216) (hg : wr.grownBy w' (some q)) (hn : rdRec s2.data.toList = none) :
    RecsPost s w (.returned v) w' := by
  have e : recs s.data.toList = R := recs_eq (by rw [list_size]; unfold maxI; omega) ⟨h.eq, h.ok, hn⟩
  obtain ⟨h1, h2⟩ := h.on hg
  unfold RecsPost
  rw [e]
  exact ⟨v, rfl, h1, h2⟩

/-- a slice's length. -/
def lenOf : Value → Nat
  | .slice _ n _ => n
  | _ => 0
theorem lenOf_own {w : World} {B e size n : Nat} {v : Value} {xs : List Value} (h : w.ownsRow B e size v n xs) : lenOf v = n := by
  obtain ⟨A, cap, rfl, _⟩ := own_parts h
  rfl

set_option maxHeartbeats 8000000 in
theorem qrecords_any (s : ByteArray) (w : World) (hs : s.size ≤ 16777216) :
    Calls Tryz.prog 37 #[.string s] w (RecsPost s w) := by
  obtain ⟨i0, hi0, hz0, hz1, hz2⟩ := info_parts infoStr
  go_enter Tryz.func37, Tryz.ntmps37
  go_wp2_with fail
  refine (W.ropen_any s w).mono ?_
  rintro e w1 ⟨rfl, hw1⟩
  have hI0 : Hid (QInv s w.heap.size (.slice none 0 0) [] s w w1) := Lib.hid (by
    subst hw1
    exact ⟨by simp [forms], (fun t h => nomatch h), by unfold RdrAt; exact heap_alloc_new w _, World.ownsRow_nil _ _ _ _, (Below.refl _ _).alloc (Nat.le_refl _) _, Nat.le_refl _, by simp [Value.ownBlock]⟩)
  clear hw1
  generalize hq : w.heap.size = q at *
  have hqe := Lib.hid hq
  clear hq
  go_wp2
  go_loopw [3, 5, 6] (fun v _ _ wr => ∃ (R : List (List UInt8)) (s2 : ByteArray), Hid (QInv s q v R s2 w wr)) (fun v _ _ _ => s.size - lenOf v)
  case atStart => exact ⟨[], s, hI0⟩
  case round =>
    clear hI0
    obtain ⟨R, s2, hI⟩ := hrel
    have hlen := hI.out.len
    by_cases h0 : s2.size = 0
    · have hem := empty_of (List.eq_nil_of_length_eq_zero (by rw [list_size]; exact h0))
      subst hem
      have h0' : ((⟨#[]⟩ : ByteArray).size : Int) = 0 := by omega
      have hnil : Hid (rdRec (⟨#[]⟩ : ByteArray).data.toList = none) := Lib.hid rdRec_nil
      go_wp2_with fail
      refine (W.rleft_any q ⟨#[]⟩ false _ hI.out.rdr).mono ?_
      rintro e w2 ⟨rfl, hw2⟩
      subst hw2
      go_wp2
      go_ret
      exact hI.out.done hs ⟨rfl, rfl, rfl, Nat.le_refl _, fun _ _ _ => rfl⟩ hnil.out
    have h0' : (0 : Int) < (s2.size : Int) := by omega
    go_wp2_with fail
    refine (W.rleft_any q s2 false _ hI.out.rdr).mono ?_
    rintro e w2 ⟨rfl, hw2⟩
    subst hw2
    have hT := rtextR_any q s2 false (fun e => nomatch e) _ hI.out.rdr (by omega)
    cases hx : rdText s2.data.toList with
    | none =>
      rw [hx] at hT
      have HT := Lib.hid hT
      have HX := Lib.hid (rdRec_text hx)
      clear hT hx
      go_wp2_with fail
      refine HT.out.mono ?_
      rintro e w2 ⟨rfl, ⟨s3, hs3, hr3⟩, hg2⟩
      obtain rfl := empty_of hs3
      have hN := rnumR_any q ⟨#[]⟩ true w2 hr3 (by decide)
      rw [show rdNum (⟨#[]⟩ : ByteArray).data.toList = none from rdNum_nil] at hN
      have HN := Lib.hid hN
      have HG := Lib.hid hg2
      clear hN hs3 hr3 hg2 HT
      go_wp2_with fail
      refine HN.out.mono ?_
      rintro e w3 ⟨rfl, ⟨s4, hs4, hr4⟩, hg3⟩
      obtain rfl := empty_of hs4
      have b4 := hr4.cell1
      have HG3 := Lib.hid (grown_trans HG.out hg3)
      clear hs4 hr4 hg3 HG HN
      go_wp2
      go_ret
      exact hI.out.done hs HG3.out HX.out
    | some x =>
      obtain ⟨t, r1⟩ := x
      rw [hx] at hT
      obtain ⟨u, hu⟩ : ∃ u : ByteArray, u = bs t := ⟨_, rfl⟩
      have hut : u.data.toList = t := by rw [hu]; rfl
      have hT2 : Calls Tryz.prog 62 #[.pointer (some ⟨q, 0, none⟩)] wr (After 99 q (.string u) r1 false wr) := by rw [hu]; exact hT
      subst hut
      have HT := Lib.hid hT2
      have HX := Lib.hid hx
      have huz : u.size ≤ s2.size := by
        have h1 := (rdText_iff _ (by rw [list_size]; unfold maxI; omega) _ _).1 hx
        have h2 := congrArg List.length h1
        have h3 := eText_len u.data.toList
        rw [List.length_append, list_size] at h2
        rw [list_size] at h3
        by_cases c : u.size ≤ 9223372036854775807
        · have := h3 c; omega
        · unfold eText at h2
          simp at h2
          omega
      clear hT hT2 hx hu
      go_wp2_with fail
      refine HT.out.mono ?_
      rintro e w2 ⟨rfl, ⟨s3, hs3, hr3⟩, hg2⟩
      subst hs3
      have hs3z : s3.size ≤ s2.size := by
        have h1 := (rdText_iff _ (by rw [list_size]; unfold maxI; omega) _ _).1 HX.out
        have h2 := congrArg List.length h1
        rw [List.length_append, list_size, list_size] at h2
        omega
      have hN := rnumR_any q s3 false w2 hr3 (by omega)
      have HG := Lib.hid hg2
      clear hr3 hg2 HT
      cases hy : rdNum s3.data.toList with
      | none =>
        rw [hy] at hN
        have HN := Lib.hid hN
        have HY := Lib.hid (rdRec_num HX.out hy)
        clear hN hy HX
        go_wp2_with fail
        refine HN.out.mono ?_
        rintro e w3 ⟨rfl, ⟨s4, hs4, hr4⟩, hg3⟩
        obtain rfl := empty_of hs4
        have b4 := hr4.cell1
        have HG3 := Lib.hid (grown_trans HG.out hg3)
        clear hs4 hr4 hg3 HG HN
        go_wp2
        go_ret
        exact hI.out.done hs HG3.out HY.out
      | some y =>
        obtain ⟨n, r2⟩ := y
        rw [hy] at hN
        have HN := Lib.hid hN
        have HY := Lib.hid hy
        clear hN hy
        go_wp2_with fail
        refine HN.out.mono ?_
        rintro e w3 ⟨rfl, ⟨s4, hs4, hr4⟩, hg3⟩
        subst hs4
        have hs4z : s4.size ≤ s3.size := by
          have h1 := ((rdNum_iff _ _ _).1 HY.out).1
          have h2 := congrArg List.length h1
          rw [List.length_append, list_size, list_size] at h2
          omega
        have b4 := hr4.cell1
        have HR := Lib.hid hr4
        have HG3 := Lib.hid (grown_trans HG.out hg3)
        clear hr4 hg3 HG HN
        by_cases h20 : 20000 < u.size
        · have HZ := Lib.hid (rdRec_bad HX.out HY.out (fun h => by have := h.1; rw [list_size] at this; omega))
          have h20' : (20000 : Int) < (u.size : Int) := by omega
          clear HX HY
          go_wp2
          go_ret
          exact hI.out.done hs HG3.out HZ.out
        · have h20' : (u.size : Int) ≤ 20000 := by omega
          go_wp2_with fail
          refine (qsum_any u w3 (by omega)).mono ?_
          rintro e w5 ⟨rfl, hw5⟩
          subst hw5
          have hSl := rsum_lt u.data.toList
          by_cases hn : n = (rsum u.data.toList : Int)
          · have hgood := rdRec_good HX.out HY.out (by rw [list_size]; omega) hn
            obtain ⟨hform, _⟩ := (rdRec_iff _ (by rw [list_size]; unfold maxI; omega) _ _).1 hgood
            have hform2 := congrArg List.length hform
            have hpos := form_pos u.data.toList
            rw [List.length_append, list_size, list_size] at hform2
            subst hn
            clear hgood
            have HF := Lib.hid hform
            obtain ⟨hown, hbel⟩ := hI.out.on HG3.out
            have HI := hI
            have hge := hI.out.ge
            have hne := hI.out.ne
            have hbz := hbel.size
            have hRl : R.length ≤ (forms R).length := forms_count
            have hlv := lenOf_own hI.out.own
            have HO := Lib.hid hown
            have HB := Lib.hid hbel
            clear hform hown hbel HX HY hI b4
            generalize hS : rsum u.data.toList = S at *
            clear hS
            go_wp2_with (at_builtin; refine wpList_append_own _ rfl _ _ 46 rfl w.heap.size 9 i0 (.string ⟨#[]⟩) 1 16 Tryz.underlying46 hi0 hz0 hz1 hz2 rfl (by decide) _ _ _ rfl (HO.out.alloc _) ⟨w5.heap.size, 0, none⟩ 1 1 [.string u] rfl rfl ?c1 ?c2 ?c3 ?c4 ?c5 ?_)
            case c1 =>
              intro j x hj
              match j, hj with
              | 0, hj => simp at hj; subst hj; simp [Addr.add]
            case c2 => intro x hx; simp at hx; subst hx; rfl
            case c3 => unfold maxLen; omega
            case c4 => omega
            case c5 => simp; omega
            intro v' w6 hown' hgrow _
            have hql := HR.out.lt
            have hr6 : RdrAt 99 q s4 false w6 := by
              unfold RdrAt
              rw [hgrow.block q (by simp; omega) (fun e => hne e.symm), Lib.alloc_old w5 _ q hql]
              exact HR.out
            have hlv' := lenOf_own hown'
            have hI6 : QInv s q v' (R ++ [u.data.toList]) s4 w w6 := by
              refine ⟨?_, ?_, hr6, ?_, ?_, hge, ?_⟩
              · rw [HI.out.eq, HF.out, forms_snoc, List.append_assoc]
              · intro x hx
                rcases List.mem_append.1 hx with hx | hx
                · exact HI.out.ok x hx
                · simp only [List.mem_singleton] at hx; subst hx; rw [list_size]; omega
              · have e : (R ++ [u.data.toList]).map vStr = R.map vStr ++ [Value.string u] := by simp [vStr, bs]
                rw [e, List.length_append]
                exact hown'
              · exact (HB.out.alloc (by omega) _).grown hgrow (by simp; omega) (fun k hk => (HO.out.lt k hk).1)
              · exact other_kind hown' hr6 (by decide)
            have HI6 := Lib.hid hI6
            clear hr6 hI6 hown' hgrow HO HB HR HF HG3
            go_wp2
            go_roundw
            case rel => exact ⟨R ++ [u.data.toList], s4, HI6⟩
            case measure => simp only [hlv, hlv']; omega
          · have HZ := Lib.hid (rdRec_bad HX.out HY.out (fun h => hn h.2))
            have hnb : (n != (rsum u.data.toList : Int)) = true := by simpa using hn
            clear HX HY
            generalize (rsum u.data.toList : Int) = S at *
            go_wp2
            go_ret
            exact hI.out.done hs HG3.out HZ.out

end Go.Proofs.YtbpkcgkcamkggaaGreatDoor
