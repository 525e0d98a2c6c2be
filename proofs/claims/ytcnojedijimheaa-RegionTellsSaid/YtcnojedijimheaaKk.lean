/-
  Contracts of the program's layer 6 (18): Parts, in general.
-/
import Derived.Test.YtcnojedijimheaaKj
import Derived.Test.YtcnojedijimheaaHu
import Derived.Deep.Onto
import Derived.Test.YtcnojedijimheaaHv
set_option linter.unusedVariables false
set_option maxRecDepth 100000
namespace Go.Proofs.Ytcnojedijimheaa
open Go.RowKit

theorem made_bool (n : Nat) : madeCells #[.bool false] (n * 1) = (bcells (List.replicate n false)).toArray := by
  apply Array.ext
  · simp [madeCells, bcells]
  · intro i h1 h2
    simp [madeCells, bcells, Nat.mod_one]
theorem mkBs (n : Nat) (h : n ≤ 200) (w : World) : Sem.run Try.prog (Instr.makeSlice 69 (.int .i64 (n : Int)) (.int .i64 (n : Int))) w = .ok (.slice (some ⟨w.heap.size, 0, none⟩) n n) (w.alloc (.cells (bcells (List.replicate n false)).toArray 4)) := by
  obtain ⟨i, hi, hz, hs, hb⟩ := info_parts infoBool
  have hr := run_make (P := Try.prog) w 69 4 i _ (by first | rfl | kernel_rfl) hi hz .i64 .i64 n n (by omega) (Int.le_refl _) (by rw [hb]; omega) (by omega)
  rw [hs] at hr
  simp only [Int.toNat_natCast, Value.cells] at hr
  rw [made_bool] at hr
  exact hr
/-- the lists of the parts so far. -/
structure PL (rb n : Nat) (R : List Bool) (L : List (List Rc)) (Vs : List Value) (vp : Value) (w wr : World) : Prop where
  own : wr.ownsRow w.heap.size 22 1 vp L.length Vs
  rows : ∀ j (h : j < L.length), ∃ v, Vs[j]? = some v ∧ wr.ownsRow w.heap.size 41 4 v L[j].length (rcells L[j])
  flags : wr.ownsRow rb 4 1 (.slice (some ⟨rb, 0, none⟩) n n) n (bcells R)
  bel : Below w.heap.size w wr
section
variable {rb n : Nat} {R : List Bool} {L : List (List Rc)} {Vs : List Value} {vp : Value} {w wr w' : World}
theorem PL.go (h : PL rb n R L Vs vp w wr) (hb : Below wr.heap.size wr w') : PL rb n R L Vs vp w w' :=
  ⟨own_go h.own hb, fun j hj => by obtain ⟨v, h1, h2⟩ := h.rows j hj; exact ⟨v, h1, own_go h2 hb⟩, own_go h.flags hb, h.bel.trans (hb.mono h.bel.size)⟩
theorem PL.grow {R' : List Bool} (h : PL rb n R L Vs vp w wr) (hg : wr.grownBy w' (some rb)) (hf : w'.ownsRow rb 4 1 (.slice (some ⟨rb, 0, none⟩) n n) n (bcells R')) (hr : w.heap.size ≤ rb) : PL rb n R' L Vs vp w w' := by
  have far : ∀ {e s m : Nat} {v : Value} {xs : List Value}, e ≠ 4 → wr.ownsRow w.heap.size e s v m xs → w'.ownsRow w.heap.size e s v m xs := fun hne ho =>
    own_stays ho (fun g hgg => hg.block g (ho.lt g hgg).2 (fun e => by
      exact own_apart ho h.flags hne g hgg (by rw [e]; rfl)))
  exact ⟨far (by decide) h.own, fun j hj => by obtain ⟨v, h1, h2⟩ := h.rows j hj; exact ⟨v, h1, far (by decide) h2⟩, hf,
    ⟨hg.os.trans h.bel.os, hg.tape.trans h.bel.tape, hg.output.trans h.bel.output, Nat.le_trans h.bel.size hg.size, fun i hi => (hg.block i (Nat.lt_of_lt_of_le hi h.bel.size) (fun e => by injection e with e; omega)).trans (h.bel.block i hi)⟩⟩
theorem PL.add {M : List Rc} {v v' : Value} (h : PL rb n R L Vs vp w wr) (hown : w'.ownsRow w.heap.size 22 1 v' (L.length + 1) (Vs ++ [v])) (hg : wr.grownBy w' vp.ownBlock) (hn : wr.ownsRow w.heap.size 41 4 v M.length (rcells M)) : PL rb n R (L ++ [M]) (Vs ++ [v]) v' w w' := by
  have hl : Vs.length = L.length := by have := h.own.1; omega
  refine ⟨by rw [List.length_append]; exact hown, fun j hj => ?_, own_kept h.own h.flags (by decide) hg, Below.grown h.bel hg h.bel.size (fun k hk => (h.own.lt k hk).1)⟩
  by_cases e : j < L.length
  · obtain ⟨u, h1, h2⟩ := h.rows j e
    rw [List.getElem_append_left e, List.getElem?_append_left (by omega)]
    exact ⟨u, h1, own_kept h.own h2 (by decide) hg⟩
  · have hj' : j = L.length := by simp at hj; omega
    subst hj'
    refine ⟨v, by rw [List.getElem?_append_right (by omega), hl]; simp, ?_⟩
    have : (L ++ [M])[L.length]'hj = M := by simp
    rw [this]
    exact own_kept h.own hn (by decide) hg
end
/-- what Parts returns: a list of lists that can be read. -/
def PartsRes (L : List (List Rc)) (w : World) (e : Ending) (w' : World) : Prop := ∃ vp Vs, e = .returned vp ∧ w'.ownsRow w.heap.size 22 1 vp L.length Vs ∧ (∀ j (h : j < L.length), ∃ v, Vs[j]? = some v ∧ w'.ownsRow w.heap.size 41 4 v L[j].length (rcells L[j])) ∧ Below w.heap.size w w'
noncomputable def partsL (k : Nat) (a : List Rc) : List (List Rc) := (partsN a k).2.map fun p => (ofR p).1
noncomputable def partsR (a : List Rc) : List (List Rc) := partsL a.length a
theorem partsL_yes {a : List Rc} {k : Nat} (c : (partsN a k).1.getD k true = false) : (partsN a (k + 1)).1 = (connM a k (partsN a k).1).1 ∧ partsL (k + 1) a = partsL k a ++ [(ofR (connM a k (partsN a k).1).2).1] := by
  have e : partsN a (k + 1) = ((connM a k (partsN a k).1).1, (partsN a k).2 ++ [(connM a k (partsN a k).1).2]) := by
    show (if (partsN a k).1.getD k true = false then _ else _) = _
    rw [if_pos c]
  unfold partsL
  rw [e]
  simp
theorem partsL_no {a : List Rc} {k : Nat} (c : ¬ (partsN a k).1.getD k true = false) : (partsN a (k + 1)).1 = (partsN a k).1 ∧ partsL (k + 1) a = partsL k a := by
  have e : partsN a (k + 1) = partsN a k := by
    show (if (partsN a k).1.getD k true = false then _ else _) = _
    rw [if_neg c]
  unfold partsL
  rw [e]
  exact ⟨rfl, rfl⟩
set_option maxHeartbeats 16000000 in
theorem gparts_any (A : Option Addr) (cap : Nat) (a : List Rc) (w : World) (h : RIn w A cap a) (hr : RegP a) : Calls Try.prog 31 #[.slice A a.length cap] w (PartsRes (partsR a) w) := by
  have RA := Lib.hid (gright_yes A cap a w h.row h.len h.room h.room2 hr)
  have HROW := Lib.hid h.row
  have hal := hr.2
  clear h hr
  have hmk := mkBs a.length hal
  obtain ⟨i0, hi9, hz0, hz1, hz2⟩ := info_parts infoRects
  have HZ : Hid (∀ w1 : World, Below w.heap.size w w1 → PL w1.heap.size a.length (partsN a 0).1 (partsL 0 a) [] (.slice none 0 0) w (w1.alloc (.cells (bcells (List.replicate a.length false)).toArray 4))) := Lib.hid (fun w1 hb => by
    refine ⟨World.ownsRow_nil _ _ _ _, fun j hj => by simp [partsL, partsN] at hj, ?_, hb.alloc hb.size _⟩
    have hl := World.ownsRow_lit (base := w1.heap.size) w1 (bcells (List.replicate a.length false)).toArray a.length (Nat.le_refl _) (by unfold maxLen; omega) (e := 4) (size := 1) (by simp [bcells])
    exact hl)
  generalize (bcells (List.replicate a.length false)).toArray = Z at *
  go_enter Try.func31, Try.ntmps31
  go_wp2_with fail
  refine RA.out.mono ?_
  rintro e1 w1 ⟨rfl, hb⟩
  have HB1 := Lib.hid hb; clear hb RA
  have P0 := Lib.hid (HZ.out w1 HB1.out)
  go_wp2_with fail
  clear hmk HZ
  have hrbw := HB1.out.size
  generalize hrbe : w1.heap.size = rb at *
  have HRBE := Lib.hid hrbe; clear hrbe
  go_loopw [3, 16] (fun p i wr => ∃ (k : Nat) (vp : Value) (Vs : List Value), k ≤ a.length ∧ i = .int .i64 k ∧ vp = p ∧ Hid (PL rb a.length (partsN a k).1 (partsL k a) Vs vp w wr)) (fun _ i _ => a.length - (intOf i).toNat)
  case atStart => exact ⟨0, _, [], by omega, rfl, rfl, P0⟩
  case round =>
    clear P0
    obtain ⟨k, vp, Vs, hk, rfl, rfl, HP⟩ := hrel
    by_cases hlt : k < a.length
    · obtain ⟨b1, o1, rfl, hb1, _⟩ := HROW.out (by omega)
      have j0 : (0 : Int) ≤ (k : Int) := by omega
      have j1 : (k : Int) < (a.length : Int) := by omega
      have hlen := partsN_len a k
      have hfl := HP.out.flags.cellAt k (by omega)
      have hflag : wr.cell? ⟨rb, k, none⟩ = some (.bool ((partsN a k).1.getD k true)) := by
        rw [hfl]; unfold bcells; rw [List.getElem?_map, List.getElem?_eq_getElem (by rw [hlen]; exact hlt), getD_in _ _ (by rw [hlen]; exact hlt)]; rfl
      clear hfl
      by_cases c : (partsN a k).1.getD k true = false
      · have hpl := partsL_yes c
        have HNX := Lib.hid hpl
        have HC := Lib.hid (gconn_any b1 o1 cap rb a (partsN a k).1 k wr (HROW.out.below HP.out.bel) hlt (by omega) (by omega) HP.out.flags c)
        have hcl := (connM_len hlen c).2
        rw [c] at hflag
        have hpk : (partsL k a).length ≤ k := by unfold partsL; rw [List.length_map]; exact partsN_le a k
        generalize connM a k (partsN a k).1 = S at *
        generalize (partsN a k).1 = R at *
        generalize partsL k a = L at *
        clear c hpl hlen
        go_wp2_with fail
        refine HC.out.mono ?_
        rintro e w2 ⟨vq, rfl, hco⟩
        have HCO := Lib.hid hco; clear hco hflag HC
        have HP2 := Lib.hid (HP.out.grow HCO.out.grown HCO.out.flags hrbw)
        obtain ⟨A2, c2, rfl, hpr, _⟩ := own_rects HCO.out.part
        have HOF := Lib.hid (gof_any A2 c2 S.2 w2 hpr (by omega))
        clear hpr HCO HP
        go_wp2_with fail
        refine HOF.out.mono ?_
        rintro e w3 hf
        obtain ⟨A3, c3, rfl, how3, hb3⟩ := hf.parts
        have HP3 := Lib.hid (HP2.out.go hb3)
        have HN3 := Lib.hid (World.ownsRow.mono how3 (by exact HP2.out.bel.size) : w3.ownsRow w.heap.size 41 4 (.slice A3 (ofR S.2).1.length c3) (ofR S.2).1.length (rcells (ofR S.2).1))
        clear hf hb3 HOF how3 HP2
        generalize (ofR S.2).1 = M at *
        generalize (ofR S.2).2 = e3 at *
        obtain ⟨n3, hn3⟩ : ∃ n3, n3 = M.length := ⟨_, rfl⟩
        rw [← hn3] at HN3
        rw [← hn3]
        have HM := Lib.hid hn3; clear hn3
        have hsz3 := HP3.out.bel.size
        have HO3 := Lib.hid HP3.out.own
        go_wp2_with (at_builtin; refine wpList_append_own _ rfl _ _ 29 rfl w.heap.size 22 i0 (.slice none 0 0) 1 24 Try.underlying29 hi9 hz0 hz1 hz2 rfl (by decide) _ _ _ rfl (HO3.out.alloc _) ⟨w3.heap.size, 0, none⟩ 1 1 [.slice A3 n3 c3] rfl rfl ?c1 ?c2 ?c3 ?c4 ?c5 ?_)
        case c1 =>
          intro t u ht
          match t, ht with
          | 0, ht => simp at ht; subst ht; simp [Addr.add]
        case c2 => intro u hu; simp at hu; subst hu; rfl
        case c3 => unfold maxLen; omega
        case c4 => omega
        case c5 => simp; omega
        intro v' w4 hown' hgr _
        have HP4 : Hid (PL rb a.length (partsN a (k + 1)).1 (partsL (k + 1) a) (Vs ++ [.slice A3 n3 c3]) v' w w4) := Lib.hid (by
          rw [HNX.out.1, HNX.out.2]
          have hz := HP3.out.go ((Below.refl w3.heap.size w3).alloc (Nat.le_refl _) (.cells #[.slice A3 n3 c3] 22))
          refine hz.add hown' hgr ?_
          rw [← HM.out]
          exact own_go HN3.out ((Below.refl w3.heap.size w3).alloc (Nat.le_refl _) (.cells #[.slice A3 n3 c3] 22)))
        clear hown' hgr HO3 HN3 HP3
        go_wp2_with fail
        go_roundw
        case rel => exact ⟨k + 1, _, _, by omega, by go_num, rfl, HP4⟩
        case measure => simp [intOf]; omega
      · have hpl := partsL_no c
        have HP4 : Hid (PL rb a.length (partsN a (k + 1)).1 (partsL (k + 1) a) Vs vp w wr) := Lib.hid (by rw [hpl.1, hpl.2]; exact HP.out)
        rw [Bool.not_eq_false] at c
        rw [c] at hflag
        clear c hpl HP hlen
        go_wp2_with fail
        go_roundw
        case rel => exact ⟨k + 1, _, _, by omega, by go_num, rfl, HP4⟩
        case measure => simp [intOf]; omega
    · obtain rfl : k = a.length := by omega
      go_wp2_with fail
      go_ret
      exact ⟨_, _, rfl, HP.out.own, HP.out.rows, HP.out.bel⟩
end Go.Proofs.Ytcnojedijimheaa
