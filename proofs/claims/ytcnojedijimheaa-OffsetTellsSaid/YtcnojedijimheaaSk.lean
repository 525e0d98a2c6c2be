/-
  Contracts of the program's layer 8 (9): changes.
-/
import Derived.Test.YtcnojedijimheaaSj
import Derived.Test.YtcnojedijimheaaGg
import Derived.IntWalk
set_option linter.unusedVariables false
set_option maxRecDepth 100000
namespace Go.Proofs.Ytcnojedijimheaa
open Go.RowKit

theorem icells_snoc2' (l : List Int) (x y : Int) : icells (l ++ [x, y]) = icells l ++ [.int .i64 x, .int .i64 y] := by simp [icells]
def ChgIs (l : List Rc) (d : Int) (w : World) (e : Ending) (w' : World) : Prop := ∃ (X : List Int) (A : Option Addr) (c : Nat), e = .returned (.slice A X.length c) ∧ IRow w' A X ∧ Asc X ∧ (∀ z, z ∈ X ↔ z ∈ chgL l d) ∧ X.length ≤ 400 ∧ Below w.heap.size w w'
theorem own_grow {v v' : Value} {X X' : List Int} {w wr w' : World} (h : OwnI v X w wr) (ho : w'.ownsRow w.heap.size 3 1 v' X'.length (icells X')) (hg : wr.grownBy w' v.ownBlock) : OwnI v' X' w w' :=
  ⟨ho, Below.grown h.bel hg h.bel.size (fun k hk => (h.own.lt k hk).1)⟩
theorem own_step {v : Value} {X : List Int} {w wr w' : World} (h : OwnI v X w wr) (hb : Below wr.heap.size wr w') : OwnI v X w w' := ⟨own_go h.own hb, h.bel.trans (hb.mono h.bel.size)⟩
set_option maxHeartbeats 16000000 in
theorem ychg_any (A : Option Addr) (cap : Nat) (l : List Rc) (d : Int) (w : World) (hl : RIn w A cap l) (hr : RegP l) (hd : 0 ≤ d ∧ d ≤ 1048576) :
    Calls Try.prog 56 #[.slice A l.length cap, .int .i64 d] w (ChgIs l d w) := by
  obtain ⟨i0, hi9, hz0, hz1, hz2⟩ := info_parts infoInt
  have HL := Lib.hid hl
  have HOK := Lib.hid (form_ok hr.1)
  have hlen := hr.2
  have HD := Lib.hid hd
  have K0 : Hid (OwnI (.slice none 0 0) (chgL (l.take 0) d) w w) := Lib.hid ⟨World.ownsRow_nil _ _ _ _, Below.refl _ _⟩
  clear hl hr hd
  go_enter Try.func56, Try.ntmps56
  go_wp2
  go_loopw [5, 10] (fun v i wr => ∃ (k : Nat) (v0 : Value), k ≤ l.length ∧ i = .int .i64 k ∧ v0 = v ∧ Hid (OwnI v0 (chgL (l.take k) d) w wr)) (fun _ i _ => l.length - (intOf i).toNat)
  case atStart => exact ⟨0, _, Nat.zero_le _, rfl, rfl, K0⟩
  case round =>
    clear K0
    obtain ⟨k, v0, hk, rfl, rfl, HO⟩ := hrel
    by_cases hlt : k < l.length
    · obtain ⟨b1, o1, rfl, hb1, hv1⟩ := HL.out.row (by omega)
      obtain ⟨x0, x1, x2, x3⟩ := hv1 k hlt
      have wc := fun o => HO.out.bel.cell (p := ⟨b1, o, none⟩) hb1
      have x0 := (wc _).trans x0; have x1 := (wc _).trans x1; have x2 := (wc _).trans x2; have x3 := (wc _).trans x3
      clear hv1 wc
      have j0 : (0 : Int) ≤ (k : Int) := by omega
      have j1 : (k : Int) < (l.length : Int) := by omega
      have HN := Lib.hid (chgL_next l d k hlt)
      have hln : (chgL (l.take k) d).length ≤ 400 := by rw [chgL_len, List.length_take]; omega
      obtain ⟨u, hu⟩ : ∃ u, u = l[k] := ⟨_, rfl⟩
      have hru : ROk u := by rw [hu]; exact HOK.out _ (List.getElem_mem hlt)
      rw [← hu] at x0 x1 x2 x3 HN
      clear hu
      obtain ⟨⟨p1, p2, p3⟩, p4, p5, p6⟩ := hru
      have hdd := HD.out
      have q0 : IntKind.i64.wrap (u.X0 + d) = u.X0 + d := IntWalk.i64_in _ (by omega)
      have q1 : IntKind.i64.wrap (u.X1 - d) = u.X1 - d := IntWalk.i64_in _ (by omega)
      clear p1 p2 p3 p4 p5 p6 hdd
      obtain ⟨X, hX⟩ : ∃ X, X = chgL (l.take k) d := ⟨_, rfl⟩
      rw [← hX] at HO HN hln
      clear hX
      have hbs := HO.out.bel.size
      have HO1 : Hid (OwnI v0 X w (wr.alloc (.cells #[.int .i64 u.X0, .int .i64 u.Y0, .int .i64 u.X1, .int .i64 u.Y1] 41))) := Lib.hid (own_step HO.out ((Below.refl _ _).alloc (Nat.le_refl _) _))
      have HOWN := Lib.hid HO1.out.own
      clear HO
      go_wp2_with (at_builtin; refine wpList_append_own _ rfl _ _ 35 rfl w.heap.size 3 i0 (.int .i64 0) 1 8 Try.underlying35 hi9 hz0 hz1 hz2 rfl (by decide) _ _ _ rfl (HOWN.out.alloc _) ⟨wr.heap.size + 1, 0, none⟩ 2 2 [.int .i64 (u.X0 + d), .int .i64 (u.X1 - d)] rfl rfl ?c1 ?c2 ?c3 ?c4 ?c5 ?_)
      case c1 =>
        intro t z ht
        match t, ht with
        | 0, ht => simp at ht; subst ht; simp [Addr.add]
        | 1, ht => simp at ht; subst ht; simp [Addr.add]
      case c2 => intro z hz; simp at hz; rcases hz with rfl | rfl <;> rfl
      case c3 => unfold maxLen; omega
      case c4 => omega
      case c5 => simp; omega
      intro v4 w4 hown4 hgr4 _
      have HO4 : Hid (OwnI v4 (chgL (l.take (k + 1)) d) w w4) := Lib.hid (by
        rw [HN.out]
        refine own_grow (own_step HO1.out ((Below.refl _ _).alloc (Nat.le_refl _) (.cells #[.int .i64 (u.X0 + d), .int .i64 (u.X1 - d)] 3))) ?_ hgr4
        rw [icells_snoc2', List.length_append]; exact hown4)
      clear hown4 hgr4 HOWN HO1 HN x0 x1 x2 x3 q0 q1
      go_wp2_with fail
      go_roundw
      case rel => exact ⟨k + 1, v4, by omega, by go_num, rfl, HO4⟩
      case measure => simp [intOf]; omega
    · obtain rfl : k = l.length := by omega
      rw [List.take_length] at HO
      have hln : (chgL l d).length ≤ 400 := by rw [chgL_len]; omega
      have hown := HO.out.own
      obtain ⟨hlx, hc⟩ := hown
      rcases hc with ⟨rfl, h0⟩ | ⟨g, cp, cur, rfl, hB, hg, hrest⟩
      · have hnil : chgL l d = [] := List.length_eq_zero_iff.1 h0
        have HS := Lib.hid (gsort_all w.heap.size (.slice none 0 0) (chgL l d) wr HO.out.own (by omega))
        have HFN : Hid (∀ w', wr.grownBy w' none → ChgIs l d w (.returned (.slice none 0 0)) w') := Lib.hid (fun w' hg => ⟨[], none, 0, rfl, IRow.nil _ _, trivial, fun z => by rw [hnil], by simp, Below.grown HO.out.bel hg HO.out.bel.size (fun k hk => (by cases hk))⟩)
        clear hnil h0 hlx hln HO
        go_wp2_with fail
        refine HS.out.mono ?_
        rintro e1 w1 ⟨rfl, S, _, _, _, hg1⟩
        have HF := Lib.hid (HFN.out w1 hg1)
        clear hg1 HFN HS
        go_wp2_with fail
        refine (ycompact_none none 0 _).mono ?_
        rintro e2 w2 ⟨rfl, rfl⟩
        go_wp2_with fail
        go_ret
        exact HF.out
      · have HS := Lib.hid (gsort_holds w.heap.size g cp (chgL l d) wr HO.out.own (by omega))
        have hgl : g < wr.heap.size := (HO.out.own.lt g rfl).2
        have hcap := hrest.1
        have HFN : Hid (∀ (S : List Int) (w1 w2 : World), S.Perm (chgL l d) → SrtN S → wr.grownBy w1 (some g) → w1.grownBy w2 (some g) → (∀ j (h : j < (Lib.compact S).length), w2.cell? ⟨g, j, none⟩ = some (.int .i64 (Lib.compact S)[j])) → ChgIs l d w (.returned (.slice (some ⟨g, 0, none⟩) (Lib.compact S).length cp)) w2) := Lib.hid (fun S w1 w2 hp hs g1 g2 hcells => by
          obtain ⟨c1, c2, c3⟩ := compact_is hs
          have g3 := World.grownBy.trans g1 g2
          refine ⟨Lib.compact S, _, _, rfl, fun h0 => ⟨g, 0, rfl, Nat.lt_of_lt_of_le hgl g3.size, fun j hj => by rw [Nat.zero_add]; exact hcells j hj⟩, c1, fun z => by rw [c2]; exact hp.mem_iff, by have := hp.length_eq; omega, Below.grown HO.out.bel g3 HO.out.bel.size (fun k hk => ?_)⟩
          obtain rfl : g = k := by simpa using hk
          exact hB)
        clear hrest hg hlx HO
        go_wp2_with fail
        refine HS.out.mono ?_
        rintro e1 w1 ⟨rfl, S, hp, hs, hH, hg1⟩
        have HC := Lib.hid (ycompact_any g cp S w1 hH (Nat.lt_of_lt_of_le hgl hg1.size) hs (by have := hp.length_eq; omega) (by have := hp.length_eq; omega))
        have eL := hp.length_eq
        have HF2 := Lib.hid (fun w2 => HFN.out S w1 w2 hp hs hg1)
        clear hp hs hH hg1 HFN HS
        rw [← eL]
        rw [← eL] at hcap hln
        clear eL
        go_wp2_with fail
        refine HC.out.mono ?_
        rintro e2 w2 ⟨rfl, hcells, hg2⟩
        have HF := Lib.hid (HF2.out w2 hg2 hcells)
        clear hcells hg2 HF2 HC
        go_wp2_with fail
        go_ret
        exact HF.out
end Go.Proofs.Ytcnojedijimheaa
