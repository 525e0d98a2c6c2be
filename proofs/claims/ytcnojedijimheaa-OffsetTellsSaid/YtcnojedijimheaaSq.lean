/-
  Contracts of the program's layer 8 (13): Within.
-/
import Derived.Test.YtcnojedijimheaaSn
import Derived.Test.YtcnojedijimheaaSk
set_option linter.unusedVariables false
set_option maxRecDepth 100000
namespace Go.Proofs.Ytcnojedijimheaa
open Go.RowKit

/-- a list of lists at a slice, each of them as contracts ask it. -/
def LIn (w : World) (A : Option Addr) (LL : List (List Rc)) : Prop := 0 < LL.length → ∃ b off, A = some ⟨b, off, none⟩ ∧ b < w.heap.size ∧ ∀ j (h : j < LL.length), ∃ Aj cj, w.cell? ⟨b, off + j, none⟩ = some (.slice Aj LL[j].length cj) ∧ RIn w Aj cj LL[j]
theorem LIn.below {w w' : World} {A : Option Addr} {LL : List (List Rc)} (h : LIn w A LL) (hb : Below w.heap.size w w') : LIn w' A LL := fun h0 => by
  obtain ⟨b, off, rfl, hl, hc⟩ := h h0
  refine ⟨b, off, rfl, Nat.lt_of_lt_of_le hl hb.size, fun j hj => ?_⟩
  obtain ⟨Aj, cj, h1, h2⟩ := hc j hj
  exact ⟨Aj, cj, (hb.cell (p := ⟨b, off + j, none⟩) hl).trans h1, h2.below hb⟩
def NearP (a : List Rc) (d : Int) (b : List Rc) : Prop := (gapM a b).2 = true ∧ (gapM a b).1 ≤ d
noncomputable instance (a : List Rc) (d : Int) (b : List Rc) : Decidable (NearP a d b) := Classical.propDecidable _
noncomputable def winK (a : List Rc) (d : Int) (LL : List (List Rc)) (k : Nat) : List Int := ((List.range k).filter (fun (i : Nat) => decide (NearP a d (LL.getD i [])))).map (fun (i : Nat) => (i : Int))
theorem winK_zero (a : List Rc) (d : Int) (LL : List (List Rc)) : winK a d LL 0 = [] := rfl
theorem winK_next (a : List Rc) (d : Int) (LL : List (List Rc)) (k : Nat) (h : k < LL.length) : winK a d LL (k + 1) = winK a d LL k ++ if NearP a d LL[k] then [(k : Int)] else [] := by
  unfold winK
  rw [List.range_succ, List.filter_append, List.map_append]
  congr 1
  have e : LL.getD k [] = LL[k] := by simp [List.getD, h]
  by_cases c : NearP a d LL[k]
  · have hd : decide (NearP a d (LL.getD k [])) = true := decide_eq_true (by rw [e]; exact c)
    rw [if_pos c, List.filter_cons, if_pos hd, List.filter_nil]; rfl
  · have hd : ¬ decide (NearP a d (LL.getD k [])) = true := by rw [e]; simpa using c
    rw [if_neg c, List.filter_cons, if_neg hd, List.filter_nil]; rfl
theorem winK_len (a : List Rc) (d : Int) (LL : List (List Rc)) (k : Nat) : (winK a d LL k).length ≤ k := by
  unfold winK
  rw [List.length_map]
  exact Nat.le_trans (List.length_filter_le _ _) (by simp)
theorem icells_snoc1 (l : List Int) (x : Int) : icells (l ++ [x]) = icells l ++ [.int .i64 x] := by simp [icells]
def WinIs (X : List Int) (w : World) (e : Ending) (w' : World) : Prop := ∃ (A : Option Addr) (c : Nat), e = .returned (.slice A X.length c) ∧ IRow w' A X ∧ Below w.heap.size w w'
set_option maxHeartbeats 16000000 in
theorem ywithin_any (A1 : Option Addr) (c1 : Nat) (A2 : Option Addr) (c2 : Nat) (a : List Rc) (LL : List (List Rc)) (d : Int) (w : World) (ha : RIn w A1 c1 a) (hL : LIn w A2 LL) (hlen : LL.length ≤ 1073741824) :
    Calls Try.prog 24 #[.slice A1 a.length c1, .slice A2 LL.length c2, .int .i64 d] w (WinIs (winK a d LL LL.length) w) := by
  obtain ⟨i0, hi9, hz0, hz1, hz2⟩ := info_parts infoInt
  have HA := Lib.hid ha; have HL := Lib.hid hL
  clear ha hL
  have K0 : Hid (OwnI (.slice none 0 0) (winK a d LL 0) w w) := Lib.hid ⟨World.ownsRow_nil _ _ _ _, Below.refl _ _⟩
  go_enter Try.func24, Try.ntmps24
  go_wp2
  go_loopw [7, 8, 9, 10, 11, 14] (fun v _ _ _ _ i wr => ∃ (k : Nat) (v0 : Value), k ≤ LL.length ∧ i = .int .i64 k ∧ v0 = v ∧ Hid (OwnI v0 (winK a d LL k) w wr)) (fun _ _ _ _ _ i _ => LL.length - (intOf i).toNat)
  case atStart => exact ⟨0, _, Nat.zero_le _, rfl, rfl, K0⟩
  case round =>
    clear K0
    obtain ⟨k, v0, hk, rfl, rfl, HO⟩ := hrel
    by_cases hlt : k < LL.length
    · obtain ⟨b1, o1, rfl, hb1, hv1⟩ := HL.out (by omega)
      obtain ⟨Aj, cj, x0, hrow⟩ := hv1 k hlt
      have x0 := (HO.out.bel.cell (p := ⟨b1, o1 + k, none⟩) hb1).trans x0
      have j0 : (0 : Int) ≤ (k : Int) := by omega
      have j1 : (k : Int) < (LL.length : Int) := by omega
      have HN := Lib.hid (winK_next a d LL k hlt)
      have hln := winK_len a d LL k
      have HG := Lib.hid (ygap_any A1 c1 Aj cj a LL[k] wr (HA.out.below HO.out.bel) (hrow.below HO.out.bel))
      clear hv1 hrow
      obtain ⟨b, hb⟩ : ∃ b, b = LL[k] := ⟨_, rfl⟩
      rw [← hb] at x0 HN HG
      clear hb
      have HNP : Hid (NearP a d b ↔ (gapM a b).2 = true ∧ (gapM a b).1 ≤ d) := Lib.hid Iff.rfl
      obtain ⟨X, hX⟩ : ∃ X, X = winK a d LL k := ⟨_, rfl⟩
      rw [← hX] at HO HN hln
      clear hX
      generalize gapM a b = gm at *
      obtain ⟨gn, gb⟩ := gm
      simp only [] at HNP
      go_wp2_with fail
      refine HG.out.mono ?_
      rintro e1 w1 ⟨rfl, hb2⟩
      have HO1 := Lib.hid (own_step HO.out hb2)
      have hbs := HO1.out.bel.size
      clear hb2 HO HG x0
      simp only []
      cases gb with
      | false =>
        rw [if_neg (fun h => by have := (HNP.out.1 h).1; cases this), List.append_nil] at HN
        have HO2 : Hid (OwnI v0 (winK a d LL (k + 1)) w w1) := Lib.hid (by rw [HN.out]; exact HO1.out)
        clear HN HO1 HNP
        go_wp2_with fail
        go_roundw
        case rel => exact ⟨k + 1, v0, by omega, by go_num, rfl, HO2⟩
        case measure => simp [intOf]; omega
      | true =>
        by_cases c : gn ≤ d
        · rw [if_pos (HNP.out.2 ⟨rfl, c⟩)] at HN
          have HOWN := Lib.hid HO1.out.own
          clear HNP
          go_wp2_with (at_builtin; refine wpList_append_own _ rfl _ _ 35 rfl w.heap.size 3 i0 (.int .i64 0) 1 8 Try.underlying35 hi9 hz0 hz1 hz2 rfl (by decide) _ _ _ rfl (HOWN.out.alloc _) ⟨w1.heap.size, 0, none⟩ 1 1 [.int .i64 (k : Int)] rfl rfl ?c1 ?c2 ?c3 ?c4 ?c5 ?_)
          case c1 =>
            intro t z ht
            match t, ht with
            | 0, ht => simp at ht; subst ht; simp [Addr.add]
          case c2 => intro z hz; simp at hz; subst hz; rfl
          case c3 => unfold maxLen; omega
          case c4 => omega
          case c5 => simp; omega
          intro v4 w4 hown4 hgr4 _
          have HO4 : Hid (OwnI v4 (winK a d LL (k + 1)) w w4) := Lib.hid (by
            rw [HN.out]
            refine own_grow (own_step HO1.out ((Below.refl _ _).alloc (Nat.le_refl _) (.cells #[.int .i64 (k : Int)] 3))) ?_ hgr4
            rw [icells_snoc1, List.length_append]; exact hown4)
          clear hown4 hgr4 HOWN HO1 HN
          go_wp2_with fail
          go_roundw
          case rel => exact ⟨k + 1, v4, by omega, by go_num, rfl, HO4⟩
          case measure => simp [intOf]; omega
        · rw [if_neg (fun h => c (HNP.out.1 h).2), List.append_nil] at HN
          have HO2 : Hid (OwnI v0 (winK a d LL (k + 1)) w w1) := Lib.hid (by rw [HN.out]; exact HO1.out)
          clear HN HO1 HNP
          go_wp2_with fail
          go_roundw
          case rel => exact ⟨k + 1, v0, by omega, by go_num, rfl, HO2⟩
          case measure => simp [intOf]; omega
    · obtain rfl : k = LL.length := by omega
      obtain ⟨A, cap, rfl, hrow⟩ := IRow.of_own HO.out.own
      have HR : Hid (WinIs (winK a d LL LL.length) w (.returned (.slice A (winK a d LL LL.length).length cap)) wr) := Lib.hid ⟨A, cap, rfl, hrow, HO.out.bel⟩
      clear hrow HO
      generalize (winK a d LL LL.length).length = n at *
      go_wp2_with fail
      go_ret
      exact HR.out
end Go.Proofs.Ytcnojedijimheaa
