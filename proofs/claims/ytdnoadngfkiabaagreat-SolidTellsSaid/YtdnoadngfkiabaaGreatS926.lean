/-
  Contracts of the reference of layer 6 (5): column.
-/
import Derived.Test.YtdnoadngfkiabaaGreatS920
import Derived.Test.YtdnoadngfkiabaaGreatS918
import Derived.BigQuiet
import Derived.Maps.AppendAt
import Derived.Deep.AppendLies
import Derived.Deep.RegionHeld3
import Derived.Lib.MinMax
import Derived.StillTailTactics
set_option linter.unusedVariables false
set_option maxRecDepth 100000
namespace Go.Proofs.YtdnoadngfkiabaaGreat
open Go.RowKit

theorem own_stays' {w w' : World} {B e size n : Nat} {v : Value} {xs : List Value} (h : w.ownsRow B e size v n xs) (hk : ∀ g, v.ownBlock = some g → w'.heap[g]? = w.heap[g]?) : w'.ownsRow B e size v n xs := by
  obtain ⟨h1, h2⟩ := h
  refine ⟨h1, ?_⟩
  rcases h2 with ⟨rfl, h3⟩ | ⟨g, cap, cur, rfl, hB, hg, h4⟩
  · exact Or.inl ⟨rfl, h3⟩
  · exact Or.inr ⟨g, cap, cur, rfl, hB, by rw [hk g rfl]; exact hg, h4⟩
/-- two lists of ints that the call made, in two blocks. -/
structure CoW (vf vt : Value) (F T : List Int) (w wr : World) : Prop where
  o1 : wr.ownsRow w.heap.size 3 1 vf F.length (icells F)
  o2 : wr.ownsRow w.heap.size 3 1 vt T.length (icells T)
  ap : ∀ g, vf.ownBlock = some g → vt.ownBlock ≠ some g
  bel : Below w.heap.size w wr
section
variable {vf vt : Value} {F T : List Int} {w wr w' : World}
theorem CoW.go (h : CoW vf vt F T w wr) (hb : Below wr.heap.size wr w') : CoW vf vt F T w w' :=
  ⟨own_stays' h.o1 (fun g hg => hb.block g (h.o1.lt g hg).2), own_stays' h.o2 (fun g hg => hb.block g (h.o2.lt g hg).2), h.ap, h.bel.trans (hb.mono h.bel.size)⟩
theorem CoW.swap (h : CoW vf vt F T w wr) : CoW vt vf T F w wr := ⟨h.o2, h.o1, fun g h1 h2 => h.ap g h2 h1, h.bel⟩
theorem CoW.grow {vf' : Value} {F' : List Int} (h : CoW vf vt F T w wr) (ho : w'.ownsRow w.heap.size 3 1 vf' F'.length (icells F')) (hg : wr.grownBy w' vf.ownBlock) (hat : vf'.ownBlock = vf.ownBlock ∨ vf'.ownBlock = some wr.heap.size) : CoW vf' vt F' T w w' := by
  refine ⟨ho, own_stays' h.o2 (fun g hg2 => hg.block g (h.o2.lt g hg2).2 (fun e => h.ap g e.symm hg2)), fun g h1 h2 => ?_, Below.grown h.bel hg h.bel.size (fun k hk => (h.o1.lt k hk).1)⟩
  rcases hat with e | e
  · exact h.ap g (by rw [← e]; exact h1) h2
  · rw [e] at h1
    have := (h.o2.lt g h2).2
    have e2 : wr.heap.size = g := by simpa using h1
    omega
theorem CoW.set {g n c : Nat} (h : CoW (.slice (some ⟨g, 0, none⟩) n c) vt F T w wr) (hn : n = F.length) (j : Nat) (x : Int) : CoW (.slice (some ⟨g, 0, none⟩) n c) vt (F.set j x) T w (wr.setCell ⟨g, j, none⟩ (.int .i64 x)) := by
  subst hn
  obtain ⟨h1, h2⟩ := h.o1.stored j (.int .i64 x)
  refine ⟨?_, own_stays' h.o2 (fun g2 hg2 => ?_), h.ap, h.bel.setCell (by have := (h.o1.lt g rfl).1; simp only; omega) _⟩
  · have e : (icells F).set j (.int .i64 x) = icells (F.set j x) := by simp [icells, List.map_set]
    rw [e] at h1
    rw [List.length_set]; exact h1
  · have hne : g ≠ g2 := fun e => h.ap g rfl (by rw [e]; exact hg2)
    simp [World.setCell, Array.getElem?_modify]; intro e; exact absurd e hne
theorem CoW.cell (h : CoW vf vt F T w wr) {g n c : Nat} (hv : vf = .slice (some ⟨g, 0, none⟩) n c) (j : Nat) (hj : j < F.length) : wr.cell? ⟨g, j, none⟩ = some (.int .i64 F[j]) := by
  subst hv
  have hn : n = F.length := by
    rcases h.o1.2 with ⟨e, _⟩ | ⟨g', cap, cur, e, _⟩
    · cases e
    · injection e with e1 e2 e3
  subst hn
  rw [h.o1.cellAt j (by omega)]; simp [icells, hj]
theorem CoW.froz (h : CoW vf vt F T w wr) {g n c : Nat} (hv : vf = .slice (some ⟨g, 0, none⟩) n c) (j : Nat) : wr.frozen? ⟨g, j, none⟩ = false := by
  subst hv
  have hn : n = F.length := by
    rcases h.o1.2 with ⟨e, _⟩ | ⟨g', cap, cur, e, _⟩
    · cases e
    · injection e with e1 e2 e3
  subst hn
  exact h.o1.frozenAt j
end
/-- what the region of a round reads. -/
def R3 (b p b' q : Nat) (xa xb : Int) (w : World) : Prop := w.cell? ⟨b, p, none⟩ = some (.int .i64 xa) ∧ w.cell? ⟨b', q, none⟩ = some (.int .i64 xb) ∧ b < w.heap.size ∧ b' < w.heap.size
theorem R3.go {b p b' q : Nat} {xa xb : Int} {w w' : World} (h : R3 b p b' q xa xb w) (hb : Below w.heap.size w w') : R3 b p b' q xa xb w' := by
  obtain ⟨h0, h1, l0, l1⟩ := h
  exact ⟨(hb.cell (p := ⟨b, p, none⟩) l0).trans h0, (hb.cell (p := ⟨b', q, none⟩) l1).trans h1, Nat.lt_of_lt_of_le l0 hb.size, Nat.lt_of_lt_of_le l1 hb.size⟩
theorem R3.drewN {b p b' q : Nat} {xa xb : Int} {w : World} (h : R3 b p b' q xa xb w) (n : Nat) : R3 b p b' q xa xb (w.drewN n) := h.go (below_drewN (Below.refl _ _) n)
theorem R3.grow {b p b' q : Nat} {xa xb : Int} {w w' : World} {row : Option Nat} (h : R3 b p b' q xa xb w) (hg : w.grownBy w' row) (hn : ∀ g, row = some g → g ≠ b ∧ g ≠ b') : R3 b p b' q xa xb w' := by
  obtain ⟨h0, h1, l0, l1⟩ := h
  have e0 : ∀ o, w'.cell? ⟨b, o, none⟩ = w.cell? ⟨b, o, none⟩ := fun o => World.cell?_of_block (hg.block b l0 (fun e => (hn b e.symm).1 rfl))
  have e1 : ∀ o, w'.cell? ⟨b', o, none⟩ = w.cell? ⟨b', o, none⟩ := fun o => World.cell?_of_block (hg.block b' l1 (fun e => (hn b' e.symm).2 rfl))
  exact ⟨(e0 _).trans h0, (e1 _).trans h1, Nat.lt_of_lt_of_le l0 hg.size, Nat.lt_of_lt_of_le l1 hg.size⟩
theorem OwnI.grow3 {v v' : Value} {X X' : List Int} {w wr w' : World} (h : OwnI v X w wr) (ho : w'.ownsRow w.heap.size 3 1 v' X'.length (icells X')) (hg : wr.grownBy w' v.ownBlock) : OwnI v' X' w w' :=
  ⟨ho, Below.grown h.bel hg h.bel.size (fun k hk => (h.own.lt k hk).1)⟩
theorem icells_two' (l : List Int) (x y : Int) : icells (l ++ [x, y]) = icells l ++ [.int .i64 x, .int .i64 y] := by simp [icells]
theorem OwnI.base {v : Value} {l : List Int} {w w1 w2 : World} (h : OwnI v l w1 w2) (hb : Below w.heap.size w w1) : OwnI v l w w2 := by
  refine ⟨?_, hb.trans (h.bel.mono hb.size)⟩
  obtain ⟨h1, h2⟩ := h.own
  refine ⟨h1, ?_⟩
  rcases h2 with h2 | ⟨g, cap, cur, h3, hB, h4⟩
  · exact Or.inl h2
  · exact Or.inr ⟨g, cap, cur, h3, Nat.le_trans hb.size hB, h4⟩
def VColIs (l : List Rc) (x : Int) (w : World) (e : Ending) (w' : World) : Prop := ∃ v, e = .returned v ∧ OwnI v (mergeI (ivsI l x)) w w'
set_option maxHeartbeats 40000000 in
theorem vcolumn_any (A1 : Option Addr) (k1 : Nat) (l : List Rc) (x : Int) (w : World) (h1 : RRow w A1 l) (hl : l.length ≤ 268435456) :
    Calls Tryz.prog 72 #[.slice A1 l.length k1, .int .i64 x] w (VColIs l x w) := by
  obtain ⟨i0, hi9, hz0, hz1, hz2⟩ := info_parts infoInt
  have H1 := Lib.hid h1; clear h1
  have K0 : Hid (CoW (.slice none 0 0) (.slice none 0 0) (fstL (ivsI (l.take 0) x)) (sndL (ivsI (l.take 0) x)) w w) := Lib.hid ⟨World.ownsRow_nil _ _ _ _, World.ownsRow_nil _ _ _ _, fun g h => (by cases h), Below.refl _ _⟩
  go_enter Tryz.func72, Tryz.ntmps72
  go_wp2
  go_loopw [5, 6, 7, 8] (fun vf vt i _ wr => ∃ (k : Nat) (vf0 vt0 : Value), k ≤ l.length ∧ i = .int .i64 k ∧ vf0 = vf ∧ vt0 = vt ∧ Hid (CoW vf0 vt0 (fstL (ivsI (l.take k) x)) (sndL (ivsI (l.take k) x)) w wr)) (fun _ _ i _ _ => l.length - (intOf i).toNat)
  case atStart => exact ⟨0, _, _, Nat.zero_le _, rfl, rfl, rfl, K0⟩
  case round =>
    clear K0
    obtain ⟨k, vf, vt, hk, rfl, rfl, rfl, HC⟩ := hrel
    have HIL := Lib.hid (ivs_len l x k hk)
    by_cases hlt : k < l.length
    · obtain ⟨b1, o1, rfl, hb1, hv1⟩ := H1.out (by omega)
      obtain ⟨x0, x1, x2, x3⟩ := hv1 k hlt
      clear hv1
      have HX := Lib.hid (show w.cell? ⟨b1, o1 + k * 4 + 1, none⟩ = some (.int .i64 l[k].Y0) ∧ w.cell? ⟨b1, o1 + k * 4 + 3, none⟩ = some (.int .i64 l[k].Y1) from ⟨x1, x3⟩)
      have wc := fun o => HC.out.bel.cell (p := ⟨b1, o, none⟩) hb1
      have x0 := (wc _).trans x0; have x2 := (wc _).trans x2
      clear wc x1 x3
      have j0 : (0 : Int) ≤ (k : Int) := by omega
      have j1 : (k : Int) < (l.length : Int) := by omega
      have HN := Lib.hid (ivs_next l k hlt x)
      have HSO := Lib.hid (ivs_is (l.take k) x).1
      obtain ⟨r, hr⟩ : ∃ r, r = l[k] := ⟨_, rfl⟩
      rw [← hr] at x0 x2 HX HN
      clear hr
      obtain ⟨L, hL⟩ : ∃ L, L = ivsI (l.take k) x := ⟨_, rfl⟩
      rw [← hL] at HC HN HIL HSO
      clear hL
      by_cases c0 : x < r.X0
      · have HC2 : Hid (CoW vf vt (fstL (ivsI (l.take (k + 1)) x)) (sndL (ivsI (l.take (k + 1)) x)) w wr) := Lib.hid (by rw [HN.out, if_neg (by omega)]; exact HC.out)
        clear HN HC HSO
        go_wp2_with fail
        go_roundw
        case rel => exact ⟨k + 1, _, _, by omega, by go_num, rfl, rfl, HC2⟩
        case measure => simp [intOf]; omega
      · by_cases c1 : r.X1 ≤ x
        · have HC2 : Hid (CoW vf vt (fstL (ivsI (l.take (k + 1)) x)) (sndL (ivsI (l.take (k + 1)) x)) w wr) := Lib.hid (by rw [HN.out, if_neg (by omega)]; exact HC.out)
          clear HN HC HSO
          go_wp2_with fail
          go_roundw
          case rel => exact ⟨k + 1, _, _, by omega, by go_num, rfl, rfl, HC2⟩
          case measure => simp [intOf]; omega
        · rw [if_pos (by omega)] at HN
          have hLk : L.length ≤ 268435456 := by have := HIL.out; omega
          have HO1 := Lib.hid HC.out.o1
          have hsz := HC.out.bel.size
          have eF := fstL_len L; have eT := sndL_len L
          rw [eF] at HO1
          obtain ⟨A5, c5, rfl⟩ : ∃ A c, vf = .slice A L.length c := by
            obtain ⟨_, h⟩ := HO1.out
            rcases h with ⟨h, h2⟩ | ⟨g, cap, _, h, _⟩
            · exact ⟨none, 0, by rw [h, h2]⟩
            · exact ⟨_, _, h⟩
          go_wp2_with (at_builtin; refine wpList_append_own_at _ rfl _ _ 51 rfl w.heap.size 3 i0 (.int .i64 0) 1 8 Tryz.underlying51 hi9 hz0 hz1 hz2 rfl (by decide) _ _ _ rfl (HO1.out.alloc _) ⟨wr.heap.size, 0, none⟩ 1 1 [.int .i64 0] rfl rfl (cell_one_new _ _ _) ?c2 ?c3 ?c4 ?c5 ?_)
          case c2 => first | rfl | (intro u hu; simp at hu; subst hu; rfl)
          case c3 => unfold maxLen; omega
          case c4 => omega
          case c5 => first | omega | (simp; omega)
          intro v4 w4 hown4 hgr4 _ hat4
          have HC4 : Hid (CoW v4 vt (fstL L ++ [0]) (sndL L) w w4) := Lib.hid ((HC.out.go ((Below.refl _ _).alloc (Nat.le_refl _) (.cells #[.int .i64 0] 3))).grow (by rw [icells_snoc, List.length_append, eF]; exact hown4) hgr4 (by simpa using hat4))
          clear hown4 hgr4 hat4 HO1 HC x0 x2
          have HO2 := Lib.hid HC4.out.o2
          have hsz4 := HC4.out.bel.size
          rw [eT] at HO2
          go_wp2_with (at_builtin; refine wpList_append_own_at _ rfl _ _ 51 rfl w.heap.size 3 i0 (.int .i64 0) 1 8 Tryz.underlying51 hi9 hz0 hz1 hz2 rfl (by decide) _ _ _ rfl (HO2.out.alloc _) ⟨w4.heap.size, 0, none⟩ 1 1 [.int .i64 0] rfl rfl (cell_one_new _ _ _) ?e2 ?e3 ?e4 ?e5 ?_)
          case e2 => first | rfl | (intro u hu; simp at hu; subst hu; rfl)
          case e3 => unfold maxLen; omega
          case e4 => omega
          case e5 => first | omega | (simp; omega)
          intro v6 w6 hown6 hgr6 _ hat6
          have HC6 : Hid (CoW v4 v6 (fstL L ++ [0]) (sndL L ++ [0]) w w6) := Lib.hid (((HC4.out.go ((Below.refl _ _).alloc (Nat.le_refl _) (.cells #[.int .i64 0] 3))).swap.grow (by rw [icells_snoc, List.length_append, eT]; exact hown6) hgr6 (by simpa using hat6)).swap)
          clear hown6 hgr6 hat6 HO2 HC4
          obtain ⟨g4, n4, c4, rfl, e4⟩ : ∃ g n c, v4 = .slice (some ⟨g, 0, none⟩) n c ∧ n = L.length + 1 := by
            obtain ⟨_, h⟩ := HC6.out.o1
            rcases h with ⟨_, h2⟩ | ⟨g, cap, _, h, _⟩
            · simp at h2
            · exact ⟨g, _, cap, h, by simp [eF]⟩
          obtain ⟨g6, n6, c6, rfl, e6⟩ : ∃ g n c, v6 = .slice (some ⟨g, 0, none⟩) n c ∧ n = L.length + 1 := by
            obtain ⟨_, h⟩ := HC6.out.o2
            rcases h with ⟨_, h2⟩ | ⟨g, cap, _, h, _⟩
            · simp at h2
            · exact ⟨g, _, cap, h, by simp [eT]⟩
          subst e4; subst e6
          have K1 : Hid (CoW (.slice (some ⟨g4, 0, none⟩) (L.length + 1) c4) (.slice (some ⟨g6, 0, none⟩) (L.length + 1) c6) (upL (fstL L) L.length 0) (upL (sndL L) L.length 0) w w6) := Lib.hid (by
            have a1 := upL_end (fstL L); have a2 := upL_end (sndL L)
            rw [eF] at a1; rw [eT] at a2
            rw [a1, a2]; exact HC6.out)
          clear HC6
          have HEF := Lib.hid eF; have HET := Lib.hid eT; clear eF eT
          go_wp2_with fail
          go_loopw [8] (fun s w2 => ∃ (m : Nat) (z z' : Int), m ≤ L.length ∧ s = .int .i64 m ∧ Hid (CoW (.slice (some ⟨g4, 0, none⟩) (L.length + 1) c4) (.slice (some ⟨g6, 0, none⟩) (L.length + 1) c6) (upL (fstL L) m z) (upL (sndL L) m z') w w2) ∧ Hid (∀ j (h : j < L.length), m ≤ j → r.Y0 < L[j].1)) (fun s _ => (intOf s).toNat)
          case atStart => exact ⟨L.length, 0, 0, Nat.le_refl _, rfl, K1, Lib.hid (fun j h h2 => by omega)⟩
          case round =>
            clear K1
            obtain ⟨m, z, z', hm, rfl, HK, HUP⟩ := hrel
            have y1 := (HK.out.bel.cell (p := ⟨b1, o1 + k * 4 + 1, none⟩) hb1).trans HX.out.1
            have hbw : b1 < wr.heap.size := Nat.lt_of_lt_of_le hb1 HK.out.bel.size
            have lF := upL_len (fstL L) m z (by rw [HEF.out]; exact hm); have lT := upL_len (sndL L) m z' (by rw [HET.out]; exact hm)
            rw [HEF.out] at lF; rw [HET.out] at lT
            have EXITD : Hid (∀ w9, ((∀ h : m - 1 < L.length, 0 < m → L[m - 1].1 ≤ r.Y0)) → CoW (.slice (some ⟨g4, 0, none⟩) (L.length + 1) c4) (.slice (some ⟨g6, 0, none⟩) (L.length + 1) c6) (upL (fstL L) m r.Y0) (upL (sndL L) m r.Y1) w w9 → CoW (.slice (some ⟨g4, 0, none⟩) (L.length + 1) c4) (.slice (some ⟨g6, 0, none⟩) (L.length + 1) c6) (fstL (ivsI (l.take (k + 1)) x)) (sndL (ivsI (l.take (k + 1)) x)) w w9) := Lib.hid (fun w9 h2 hc => by
              obtain ⟨q1, q2⟩ := ins_found (p := (r.Y0, r.Y1)) HSO.out hm (fun j h h3 => HUP.out j h h3) h2
              rw [HN.out, q1, q2]; exact hc)
            cases m with
            | zero =>
              go_wp2_with fail
              go_quiet (fail)
              generalize hwx : World.drewN _ _ = wx
              have HKx : Hid (CoW (.slice (some ⟨g4, 0, none⟩) (L.length + 1) c4) (.slice (some ⟨g6, 0, none⟩) (L.length + 1) c6) (upL (fstL L) 0 z) (upL (sndL L) 0 z') w wx) := Lib.hid (by rw [← hwx]; exact HK.out.go (below_drewN (Below.refl _ _) _))
              clear hwx y1 hbw
              have hne4 : b1 ≠ g4 := by have := (HKx.out.o1.lt g4 rfl).1; omega
              have hne6 : b1 ≠ g6 := by have := (HKx.out.o2.lt g6 rfl).1; omega
              have gne : g4 ≠ g6 := fun e => HKx.out.ap g4 rfl (by rw [e]; rfl)
              have hmF : 0 ≤ (fstL L).length := by rw [HEF.out]; exact hm
              have hmT : 0 ≤ (sndL L).length := by rw [HET.out]; exact hm
              have y1x := (HKx.out.bel.cell (p := ⟨b1, o1 + k * 4 + 1, none⟩) hb1).trans HX.out.1
              have y3x := (HKx.out.bel.cell (p := ⟨b1, o1 + k * 4 + 3, none⟩) hb1).trans HX.out.2
              have S1 := HKx.out.set (by rw [lF]) 0 r.Y0
              rw [upL_set (fstL L) 0 z r.Y0 hmF] at S1
              have S2 := (S1.swap.set (by rw [lT]) 0 r.Y1).swap
              rw [upL_set (sndL L) 0 z' r.Y1 hmT] at S2
              have z4 := HKx.out.cell rfl 0 (by rw [lF]; omega)
              have f4 := HKx.out.froz rfl 0
              have z6 := S1.swap.cell rfl 0 (by rw [lT]; omega)
              have f6 := S1.swap.froz rfl 0
              have Y3 : (wx.setCell ⟨g4, 0, none⟩ (.int .i64 r.Y0)).cell? ⟨b1, o1 + k * 4 + 3, none⟩ = some (.int .i64 r.Y1) := by
                rw [World.cell?_of_block (w := wx) (by simp [World.setCell, Array.getElem?_modify]; intro e; exact absurd e.symm hne4)]; exact y3x
              have FIN := Lib.hid (EXITD.out _ (fun h h0 => absurd h0 (Nat.lt_irrefl _)) S2)
              clear S1 S2 HKx HK y3x EXITD
              generalize (upL (fstL L) 0 z)[0] = zz at *
              generalize (upL (sndL L) 0 z')[0] = zz' at *
              have hm0 : (0 : Int) ≤ ((0 : Nat) : Int) := by omega
              have hm1 : ((0 : Nat) : Int) < (L.length : Int) + 1 := by omega
              have l1 : g4 < wx.heap.size := by
                rcases Nat.lt_or_ge g4 wx.heap.size with q | q
                · exact q
                · simp [World.cell?, Array.getElem?_eq_none q] at z4
              go_wp2_with fail
              go_roundw
              case rel => exact ⟨k + 1, _, _, by omega, by go_num, rfl, rfl, FIN⟩
              case measure => simp [intOf]; omega
            | succ m =>
              have hmL : m < L.length := by omega
              obtain ⟨a1, a2⟩ := upL_at (t := fstL L) z (j := m) (by rw [HEF.out]; exact hmL)
              have y5 := HK.out.cell rfl m (by rw [lF]; omega)
              rw [a2, fstL_at] at y5
              obtain ⟨u, hu⟩ : ∃ u, u = L[m] := ⟨_, rfl⟩
              rw [← hu] at y5
              clear a2 a1
              have HU := Lib.hid hu
              clear hu
              have k5 : (0 : Int) ≤ (m : Int) := by omega
              have k6 : (m : Int) < (L.length : Int) + 1 := by omega
              have k7 : (0 : Int) < (m : Int) + 1 := by omega
              have q4 : IntKind.i64.wrap (m : Int) = (m : Int) := IntWalk.i64_in _ (by omega)
              by_cases c2 : r.Y0 < u.1
              · have d2 : decide (r.Y0 < u.1) = true := decide_eq_true c2
                go_wp2_with fail
                go_quiet (fail)
                generalize hwx : World.drewN _ _ = wx
                have HKx : Hid (CoW (.slice (some ⟨g4, 0, none⟩) (L.length + 1) c4) (.slice (some ⟨g6, 0, none⟩) (L.length + 1) c6) (upL (fstL L) (m + 1) z) (upL (sndL L) (m + 1) z') w wx) := Lib.hid (by rw [← hwx]; exact HK.out.go (below_drewN (Below.refl _ _) _))
                clear hwx y1 hbw
                have hne4 : b1 ≠ g4 := by have := (HKx.out.o1.lt g4 rfl).1; omega
                have hne6 : b1 ≠ g6 := by have := (HKx.out.o2.lt g6 rfl).1; omega
                have gne : g4 ≠ g6 := fun e => HKx.out.ap g4 rfl (by rw [e]; rfl)
                have hmF : (m + 1) ≤ (fstL L).length := by rw [HEF.out]; exact hm
                have hmT : (m + 1) ≤ (sndL L).length := by rw [HET.out]; exact hm
                clear y5
                have hmF2 : m < (fstL L).length := by omega
                have hmT2 : m < (sndL L).length := by omega
                obtain ⟨p1, p2⟩ := upL_at (t := fstL L) z (j := m) hmF2
                obtain ⟨p3, p4⟩ := upL_at (t := sndL L) z' (j := m) hmT2
                have y5 := HKx.out.cell rfl m p1
                rw [p2, fstL_at, ← HU.out] at y5
                have S1 := HKx.out.set (by rw [lF]) (m + 1) u.1
                have st1 := upL_step (t := fstL L) z (j := m) hmF2
                rw [fstL_at, ← HU.out] at st1
                rw [st1] at S1
                have y6 := S1.swap.cell rfl m p3
                rw [p4, sndL_at, ← HU.out] at y6
                have S2 := (S1.swap.set (by rw [lT]) (m + 1) u.2).swap
                have st2 := upL_step (t := sndL L) z' (j := m) hmT2
                rw [sndL_at, ← HU.out] at st2
                rw [st2] at S2
                have z4 := HKx.out.cell rfl (m + 1) (by rw [lF]; omega)
                have f4 := HKx.out.froz rfl (m + 1)
                have z6 := S1.swap.cell rfl (m + 1) (by rw [lT]; omega)
                have f6 := S1.swap.froz rfl (m + 1)
                have HS2 := Lib.hid S2
                have HUP2 : Hid (∀ j (h : j < L.length), m ≤ j → r.Y0 < L[j].1) := Lib.hid (fun j h h2 => by
                  by_cases e : j = m
                  · subst e; rw [← HU.out]; exact c2
                  · exact HUP.out j h (by omega))
                clear S1 S2 HKx HK EXITD st1 st2 HUP d2 c2
                generalize (upL (fstL L) (m + 1) z)[m + 1] = zz at *
                generalize (upL (sndL L) (m + 1) z')[m + 1] = zz' at *
                clear p1 p2 p3 p4
                have hm3 : (m : Int) + 1 < (L.length : Int) + 1 := by omega
                have hm4 : (0 : Int) ≤ (m : Int) + 1 := by omega
                have jt : ((m : Int) + 1).toNat = m + 1 := by omega
                go_wp2_with fail
                go_roundw
                case rel => exact ⟨m, u.1, u.2, by omega, by go_num, HS2, HUP2⟩
                case measure => simp [intOf]
              · have d2 : decide (r.Y0 < u.1) = false := decide_eq_false c2
                go_wp2_with fail
                go_quiet (fail)
                clear y5
                generalize hwx : World.drewN _ _ = wx
                have HKx : Hid (CoW (.slice (some ⟨g4, 0, none⟩) (L.length + 1) c4) (.slice (some ⟨g6, 0, none⟩) (L.length + 1) c6) (upL (fstL L) (m + 1) z) (upL (sndL L) (m + 1) z') w wx) := Lib.hid (by rw [← hwx]; exact HK.out.go (below_drewN (Below.refl _ _) _))
                clear hwx y1 hbw
                have hne4 : b1 ≠ g4 := by have := (HKx.out.o1.lt g4 rfl).1; omega
                have hne6 : b1 ≠ g6 := by have := (HKx.out.o2.lt g6 rfl).1; omega
                have gne : g4 ≠ g6 := fun e => HKx.out.ap g4 rfl (by rw [e]; rfl)
                have hmF : (m + 1) ≤ (fstL L).length := by rw [HEF.out]; exact hm
                have hmT : (m + 1) ≤ (sndL L).length := by rw [HET.out]; exact hm
                have y1x := (HKx.out.bel.cell (p := ⟨b1, o1 + k * 4 + 1, none⟩) hb1).trans HX.out.1
                have y3x := (HKx.out.bel.cell (p := ⟨b1, o1 + k * 4 + 3, none⟩) hb1).trans HX.out.2
                have S1 := HKx.out.set (by rw [lF]) (m + 1) r.Y0
                rw [upL_set (fstL L) (m + 1) z r.Y0 hmF] at S1
                have S2 := (S1.swap.set (by rw [lT]) (m + 1) r.Y1).swap
                rw [upL_set (sndL L) (m + 1) z' r.Y1 hmT] at S2
                have z4 := HKx.out.cell rfl (m + 1) (by rw [lF]; omega)
                have f4 := HKx.out.froz rfl (m + 1)
                have z6 := S1.swap.cell rfl (m + 1) (by rw [lT]; omega)
                have f6 := S1.swap.froz rfl (m + 1)
                have Y3 : (wx.setCell ⟨g4, (m + 1), none⟩ (.int .i64 r.Y0)).cell? ⟨b1, o1 + k * 4 + 3, none⟩ = some (.int .i64 r.Y1) := by
                  rw [World.cell?_of_block (w := wx) (by simp [World.setCell, Array.getElem?_modify]; intro e; exact absurd e.symm hne4)]; exact y3x
                have FIN := Lib.hid (EXITD.out _ (fun h h0 => by have e : L[m + 1 - 1].1 = u.1 := (congrArg Prod.fst HU.out).symm; rw [e]; omega) S2)
                clear S1 S2 HKx HK y3x EXITD
                generalize (upL (fstL L) (m + 1) z)[(m + 1)] = zz at *
                generalize (upL (sndL L) (m + 1) z')[(m + 1)] = zz' at *
                have hm0 : (0 : Int) ≤ (((m + 1) : Nat) : Int) := by omega
                have hm1 : (((m + 1) : Nat) : Int) < (L.length : Int) + 1 := by omega
                have l1 : g4 < wx.heap.size := by
                  rcases Nat.lt_or_ge g4 wx.heap.size with q | q
                  · exact q
                  · simp [World.cell?, Array.getElem?_eq_none q] at z4
                go_wp2_with fail
                go_roundw
                case rel => exact ⟨k + 1, _, _, by omega, by go_num, rfl, rfl, FIN⟩
                case measure => simp [intOf]; omega
    · obtain rfl : k = l.length := by omega
      rw [List.take_length] at HC HIL
      obtain ⟨L, hL⟩ : ∃ L, L = ivsI l x := ⟨_, rfl⟩
      rw [← hL] at HC HIL
      have HLL := Lib.hid hL; clear hL
      obtain ⟨A5, c5, hv5, hr5⟩ := IRow.of_own HC.out.o1
      obtain ⟨A6, c6, hv6, hr6⟩ := IRow.of_own HC.out.o2
      rw [fstL_len] at hv5; rw [sndL_len] at hv6
      subst hv5; subst hv6
      have HF := Lib.hid hr5; have HT := Lib.hid hr6
      have HB := Lib.hid HC.out.bel
      have hLk : L.length ≤ 268435456 := by have := HIL.out; omega
      clear hr5 hr6 HC HIL
      obtain ⟨w3, hw3⟩ : ∃ w3 : World, w3 = wr := ⟨_, rfl⟩
      subst hw3
      have K1 : Hid (OwnI (.slice none 0 0) [] w3 w3) := Lib.hid ⟨World.ownsRow_nil _ _ _ _, Below.refl _ _⟩
      go_wp2_with fail
      go_loopw [9, 10] (fun v i wq => ∃ (k : Nat) (v0 : Value) (X : List Int), k ≤ L.length ∧ i = .int .i64 k ∧ v0 = v ∧ Hid (OwnI v0 X w3 wq) ∧ Hid (MergeAt L k X) ∧ Hid (X.length ≤ 2 * k)) (fun _ i _ => L.length - (intOf i).toNat)
      case atStart => exact ⟨0, _, [], Nat.zero_le _, rfl, rfl, K1, Lib.hid (MergeAt.start L), Lib.hid (by simp)⟩
      case round =>
        clear K1
        obtain ⟨k, v0, X, hk, rfl, rfl, HO, HM, HLN⟩ := hrel
        by_cases hkt : k < L.length
        · obtain ⟨b5, o5, rfl, hb5, hv5⟩ := HF.out (by rw [fstL_len]; omega)
          obtain ⟨b6, o6, rfl, hb6, hv6⟩ := HT.out (by rw [sndL_len]; omega)
          have z5 := hv5 k (by rw [fstL_len]; exact hkt)
          have z6 := hv6 k (by rw [sndL_len]; exact hkt)
          rw [fstL_at] at z5; rw [sndL_at] at z6
          clear hv5 hv6
          have k0 : (0 : Int) ≤ (k : Int) := by omega
          have k1 : (k : Int) < (L.length : Int) := by omega
          obtain ⟨Ao, co, rfl, hrow⟩ := IRow.of_own HO.out.own
          obtain ⟨no, hno⟩ : ∃ no, no = X.length := ⟨_, rfl⟩
          have HNO := Lib.hid hno
          rw [← hno] at HO ⊢
          have HOQ := HO
          clear hno HO
          have hnk : no ≤ 536870912 := by rw [HNO.out]; have := HLN.out; omega
          obtain ⟨xa, hxa⟩ : ∃ xa, xa = L[k].1 := ⟨_, rfl⟩
          obtain ⟨xb, hxb⟩ : ∃ xb, xb = L[k].2 := ⟨_, rfl⟩
          rw [← hxa] at z5; rw [← hxb] at z6
          have HRQ : Hid (R3 b5 (o5 + k) b6 (o6 + k) xa xb wr) := Lib.hid ⟨(HOQ.out.bel.cell (p := ⟨b5, o5 + k, none⟩) hb5).trans z5, (HOQ.out.bel.cell (p := ⟨b6, o6 + k, none⟩) hb6).trans z6, Nat.lt_of_lt_of_le hb5 HOQ.out.bel.size, Nat.lt_of_lt_of_le hb6 HOQ.out.bel.size⟩
          have x5 := HRQ.out.1; have x6 := HRQ.out.2.1
          clear z5 z6
          by_cases kz : k = 0
          · have hX0 : X = [] := HM.out.none kz
            have n0 : no = 0 := by rw [HNO.out, hX0]; rfl
            have MA : Hid (MergeAt L (k + 1) (X ++ [xa, xb])) := Lib.hid (by rw [hxa, hxb]; subst kz; exact HM.out.first hkt)
            clear hX0 hrow hxa hxb HM
            have g0 : ¬ (0 : Int) < (no : Int) := by omega
            have d0 : decide ((0 : Int) < (no : Int)) = false := decide_eq_false g0
            have g1 : ¬ 0 < no := by omega
            have d0n : decide (0 < no) = false := decide_eq_false g1
            clear n0
            have HRQ2 : Hid (R3 b5 o5 b6 o6 xa xb wr) := Lib.hid (by have := HRQ.out; subst kz; exact this)
            clear HRQ
            have HRQ := HRQ2
            clear HRQ2
            go_wp2_with fail
            go_quiet (fail)
            go_wp2_with fail
            generalize hwx : World.drewN _ _ = wx
            have HR : Hid (R3 b5 (o5) b6 (o6) xa xb wx) := Lib.hid (by rw [← hwx]; exact R3.drewN HRQ.out _)
            have HOx := Lib.hid (show OwnI (.slice Ao no co) X w3 wx from by rw [← hwx]; exact HOQ.out.below (below_drewN (Below.refl _ _) _))
            clear hwx HOQ HRQ
            have hb2 : Below wx.heap.size wx (wx.drew.alloc (.cells #[.int .i64 xa, .int .i64 xb] 3)) := (below_drewN (Below.refl _ _) 1).alloc (Nat.le_refl _) _
            have HO2 := Lib.hid (HOx.out.below hb2)
            have HOWN : Hid ((wx.drew.alloc (.cells #[.int .i64 xa, .int .i64 xb] 3)).ownsRow w3.heap.size 3 1 (.slice Ao no co) no (icells X)) := Lib.hid (by have := HO2.out.own; rw [← HNO.out] at this; exact this)
            have HSZ := Lib.hid HO2.out.bel.size
            have HAP : Hid (∀ g, (Value.slice Ao no co).ownBlock = some g → g ≠ b5 ∧ g ≠ b6) := Lib.hid (fun g hg => by have := (HOx.out.own.lt g hg).1; omega)
            have HGROW : Hid (∀ v6 w6, w6.ownsRow w3.heap.size 3 1 v6 (no + 2) (icells X ++ [.int .i64 xa, .int .i64 xb]) → (wx.drew.alloc (.cells #[.int .i64 xa, .int .i64 xb] 3)).grownBy w6 (Value.slice Ao no co).ownBlock → OwnI v6 (X ++ [xa, xb]) w3 w6) := Lib.hid (fun v6 w6 h1 h2 => by
              refine HO2.out.grow3 ?_ h2
              rw [icells_two', List.length_append, ← HNO.out]; exact h1)
            clear hb2 HO2 HOx
            refine wp_region_held_drew (S := fun w' => w'.cell? ⟨b5, o5, none⟩ = some (.int .i64 xa) ∧ w'.cell? ⟨b6, o6, none⟩ = some (.int .i64 xb) ∧ b5 < w'.heap.size ∧ b6 < w'.heap.size) (by kernel_rfl) ?_ (fun hHeld => ?_)
            · exact R3.drewN HR.out 1
            refine wpAnyH_take (i := 0) (oi := { dst := some 128, op := Go.Op.move (Go.Operand.tmp 9), type := 51, pos := "ref.go:68", after := #[], guard := none }) (v := ?_) rfl (by kernel_rfl) (by kernel_rfl) (by kernel_rfl) (fun _ _ _ h => h) (Or.inl ⟨by rfl, ?_⟩) (by assumption) ?_
            rotate_left
            · (intro w hSw; (try dsimp only at hSw); go_simp); try with_reducible rfl
            try simp only [Act.put, List.setIfInBounds_toArray, List.set_cons_zero, List.set_cons_succ]
            refine wpAnyH_take (i := 1) (oi := { dst := some 129, op := Go.Op.move (Go.Operand.tmp 5), type := 51, pos := "ref.go:68", after := #[], guard := none }) (v := ?_) rfl (by kernel_rfl) (by kernel_rfl) (by kernel_rfl) (fun _ _ _ h => h) (Or.inl ⟨by rfl, ?_⟩) (by assumption) ?_
            rotate_left
            · (intro w hSw; (try dsimp only at hSw); go_simp); try with_reducible rfl
            try simp only [Act.put, List.setIfInBounds_toArray, List.set_cons_zero, List.set_cons_succ]
            refine wpAnyH_take (i := 2) (oi := { dst := some 130, op := Go.Op.move (Go.Operand.tmp 10), type := 3, pos := "ref.go:68", after := #[], guard := none }) (v := ?_) rfl (by kernel_rfl) (by kernel_rfl) (by kernel_rfl) (fun _ _ _ h => h) (Or.inl ⟨by rfl, ?_⟩) (by assumption) ?_
            rotate_left
            · (intro w hSw; (try dsimp only at hSw); go_simp); try with_reducible rfl
            try simp only [Act.put, List.setIfInBounds_toArray, List.set_cons_zero, List.set_cons_succ]
            refine wpAnyH_take (i := 3) (oi := { dst := some 131, op := Go.Op.indexAddr 51 (Go.Operand.tmp 129) (Go.Operand.tmp 130), type := 0, pos := "ref.go:68", after := #[{ on := 1, ground := Go.Ground.data }, { on := 2, ground := Go.Ground.data }], guard := none }) (v := ?_) rfl (by kernel_rfl) (by kernel_rfl) (by kernel_rfl) (fun _ _ _ h => h) (Or.inl ⟨by rfl, ?_⟩) (by assumption) ?_
            rotate_left
            · (intro w hSw; (try dsimp only at hSw); go_simp); try with_reducible rfl
            try simp only [Act.put, List.setIfInBounds_toArray, List.set_cons_zero, List.set_cons_succ]
            refine wpAnyH_take (i := 4) (oi := { dst := some 132, op := Go.Op.load 3 (Go.Operand.tmp 131), type := 3, pos := "ref.go:68", after := #[{ on := 3, ground := Go.Ground.data }], guard := none }) (v := ?_) rfl (by kernel_rfl) (by kernel_rfl) (by kernel_rfl) (fun _ _ _ h => h) (Or.inl ⟨by rfl, ?_⟩) (by assumption) ?_
            rotate_left
            · (intro w hSw; (try dsimp only at hSw); go_simp); try with_reducible rfl
            try simp only [Act.put, List.setIfInBounds_toArray, List.set_cons_zero, List.set_cons_succ]
            refine wpAnyH_take (i := 5) (oi := { dst := some 133, op := Go.Op.move (Go.Operand.tmp 6), type := 51, pos := "ref.go:68", after := #[], guard := none }) (v := ?_) rfl (by kernel_rfl) (by kernel_rfl) (by kernel_rfl) (fun _ _ _ h => h) (Or.inl ⟨by rfl, ?_⟩) (by assumption) ?_
            rotate_left
            · (intro w hSw; (try dsimp only at hSw); go_simp); try with_reducible rfl
            try simp only [Act.put, List.setIfInBounds_toArray, List.set_cons_zero, List.set_cons_succ]
            refine wpAnyH_take (i := 6) (oi := { dst := some 134, op := Go.Op.move (Go.Operand.tmp 10), type := 3, pos := "ref.go:68", after := #[], guard := none }) (v := ?_) rfl (by kernel_rfl) (by kernel_rfl) (by kernel_rfl) (fun _ _ _ h => h) (Or.inl ⟨by rfl, ?_⟩) (by assumption) ?_
            rotate_left
            · (intro w hSw; (try dsimp only at hSw); go_simp); try with_reducible rfl
            try simp only [Act.put, List.setIfInBounds_toArray, List.set_cons_zero, List.set_cons_succ]
            refine wpAnyH_take (i := 7) (oi := { dst := some 135, op := Go.Op.indexAddr 51 (Go.Operand.tmp 133) (Go.Operand.tmp 134), type := 0, pos := "ref.go:68", after := #[{ on := 5, ground := Go.Ground.data }, { on := 6, ground := Go.Ground.data }], guard := none }) (v := ?_) rfl (by kernel_rfl) (by kernel_rfl) (by kernel_rfl) (fun _ _ _ h => h) (Or.inl ⟨by rfl, ?_⟩) (by assumption) ?_
            rotate_left
            · (intro w hSw; (try dsimp only at hSw); go_simp); try with_reducible rfl
            try simp only [Act.put, List.setIfInBounds_toArray, List.set_cons_zero, List.set_cons_succ]
            refine wpAnyH_take (i := 8) (oi := { dst := some 136, op := Go.Op.load 3 (Go.Operand.tmp 135), type := 3, pos := "ref.go:68", after := #[{ on := 7, ground := Go.Ground.data }], guard := none }) (v := ?_) rfl (by kernel_rfl) (by kernel_rfl) (by kernel_rfl) (fun _ _ _ h => h) (Or.inl ⟨by rfl, ?_⟩) (by assumption) ?_
            rotate_left
            · (intro w hSw; (try dsimp only at hSw); go_simp); try with_reducible rfl
            try simp only [Act.put, List.setIfInBounds_toArray, List.set_cons_zero, List.set_cons_succ]
            refine wpAnyH_ready (rs := [9]) (by kernel_rfl) (by simp) ?_
            refine AllReadyH.cons (o := { dst := some 137, op := Go.Op.buildSlice 51 2 #[(0, Go.Operand.tmp 132), (1, Go.Operand.tmp 136)], type := 51, pos := "ref.go:68", after := #[{ on := 4, ground := Go.Ground.data }, { on := 8, ground := Go.Ground.data }], guard := none }) rfl (fun Kx hKx => ?_) AllReadyH.nil
            go_simp
            refine hKx.out _ _ (R3.go ‹_› ((Below.refl _ _).alloc (Nat.le_refl _) _)) (fun hHeld2 => ?_)
            clear hKx Kx hHeld
            have hHeld := hHeld2; clear hHeld2
            try simp only [Act.put, List.setIfInBounds_toArray, List.set_cons_zero, List.set_cons_succ]
            refine wpAnyH_ready (rs := [10]) (by kernel_rfl) (by simp) ?_
            refine AllReadyH.cons (o := { dst := some 138, op := Go.Op.call { callee := Go.Callee.builtin Go.Builtin.append, args := #[Go.Operand.tmp 128, Go.Operand.tmp 137], argTypes := #[51, 51] }, type := 51, pos := "ref.go:68", after := #[{ on := 0, ground := Go.Ground.data }, { on := 9, ground := Go.Ground.data }], guard := none }) rfl (fun Kx hKx => ?_) AllReadyH.nil
            try simp only [Act.put, List.setIfInBounds_toArray, List.set_cons_zero, List.set_cons_succ]
            refine wp_append_own _ (Operand.tmp 128) (Operand.tmp 137) 51 rfl w3.heap.size 3 i0 (.int .i64 0) 1 8 Tryz.underlying51 hi9 hz0 hz1 hz2 rfl (by decide) (.slice Ao no co) no (icells X) rfl HOWN.out ⟨wx.drew.heap.size, 0, none⟩ 2 2 [.int .i64 xa, .int .i64 xb] rfl rfl ?d1 ?d2 ?d3 ?d4 ?d5 ?_
            case d1 => exact World.news_of_block (cs := #[.int .i64 xa, .int .i64 xb]) (t := 3) (fr := (0, 0)) (heap_alloc_new wx.drew _)
            case d2 => intro u hu; simp only [List.mem_cons, List.not_mem_nil, or_false] at hu; rcases hu with rfl | rfl <;> rfl
            case d3 => unfold maxLen; omega
            case d4 => omega
            case d5 => exact HSZ.out
            intro v6 w6 hown6 hgr6 _
            have HW6 := Lib.hid (HGROW.out v6 w6 hown6 hgr6)
            refine hKx.out _ _ (R3.grow ‹_› hgr6 HAP.out) (fun hHeld2 => ?_)
            clear hKx Kx hHeld hown6 hgr6
            have hHeld := hHeld2; clear hHeld2
            try simp only [Act.put, List.setIfInBounds_toArray, List.set_cons_zero, List.set_cons_succ]
            refine wpAnyH_take (i := 11) (oi := { dst := some 9, op := Go.Op.assign (Go.Operand.tmp 138), type := 51, pos := "ref.go:68", after := #[{ on := 10, ground := Go.Ground.data }, { on := 10, ground := Go.Ground.chain }, { on := 0, ground := Go.Ground.phase }, { on := 1, ground := Go.Ground.phase }, { on := 2, ground := Go.Ground.phase }, { on := 3, ground := Go.Ground.phase }, { on := 4, ground := Go.Ground.phase }, { on := 5, ground := Go.Ground.phase }, { on := 6, ground := Go.Ground.phase }, { on := 7, ground := Go.Ground.phase }, { on := 8, ground := Go.Ground.phase }, { on := 9, ground := Go.Ground.phase }, { on := 10, ground := Go.Ground.phase }], guard := none }) (v := ?_) rfl (by kernel_rfl) (by kernel_rfl) (by kernel_rfl) (fun _ _ _ h => h) (Or.inl ⟨by rfl, ?_⟩) (by assumption) ?_
            rotate_left
            · (intro w hSw; (try dsimp only at hSw); go_simp); try with_reducible rfl
            try simp only [Act.put, List.setIfInBounds_toArray, List.set_cons_zero, List.set_cons_succ]
            refine wpAnyH_done (by kernel_rfl) ?_ _
            go_wp2_with fail
            go_roundw
            case rel => exact ⟨k + 1, v6, X ++ [xa, xb], by omega, by go_num, rfl, HW6, MA, Lib.hid (by have := HLN.out; rw [List.length_append]; simp; omega)⟩
            case measure => simp [intOf]; omega
          · obtain ⟨D, a, b, eX, he⟩ := HM.out.some (by omega)
            have nD : no = D.length + 2 := by rw [HNO.out, eX]; simp
            obtain ⟨bo, oo, rfl, hbo, hvo⟩ := hrow (by rw [eX]; simp)
            have y9 := hvo (D.length + 1) (by rw [eX]; simp)
            have eb : X[D.length + 1]'(by rw [eX]; simp) = b := by simp only [eX]; rw [List.getElem_append_right (by omega)]; simp
            rw [eb] at y9
            clear hvo eb
            have g0 : (0 : Int) < (no : Int) := by omega
            have d0 : decide ((0 : Int) < (no : Int)) = true := decide_eq_true g0
            have g1 : 0 < no := by omega
            have d0n : decide (0 < no) = true := decide_eq_true g1
            have q9 : IntKind.i64.wrap ((no : Int) - 1) = ((D.length + 1 : Nat) : Int) := by rw [show (no : Int) - 1 = ((D.length + 1 : Nat) : Int) by omega]; exact IntWalk.i64_in _ (by omega)
            have i1 : (0 : Int) ≤ ((D.length + 1 : Nat) : Int) := by omega
            have i2 : ((D.length + 1 : Nat) : Int) < (no : Int) := by omega
            by_cases c : xa ≤ b
            · have d1 : decide (xa ≤ b) = true := decide_eq_true c
              have hoo : oo = 0 := by
                rcases HOQ.out.own.2 with ⟨e, _⟩ | ⟨g', cap, cur, e, _⟩
                · cases e
                · injection e with e1 e2 e3; injection e1 with e4; injection e4 with e5 e6
              subst hoo
              rw [Nat.zero_add] at y9
              have MA : Hid (MergeAt L (k + 1) (D ++ [a, max b xb])) := Lib.hid (by rw [hxb]; exact MergeAt.join he hkt (by rw [← hxa]; exact c))
              have eS : X.set (D.length + 1) (max b xb) = D ++ [a, max b xb] := by rw [eX, List.set_append_right _ _ (by omega), show D.length + 1 - D.length = 1 by omega]; rfl
              have HSET : Hid (∀ wx, OwnI (.slice (some ⟨bo, 0, none⟩) no co) X w3 wx → OwnI (.slice (some ⟨bo, 0, none⟩) no co) (D ++ [a, max b xb]) w3 (wx.setCell ⟨bo, D.length + 1, none⟩ (.int .i64 (max b xb)))) := Lib.hid (fun wx h => by rw [← eS]; exact h.set HNO.out (D.length + 1) (max b xb))
              have HLN2 : Hid ((D ++ [a, max b xb]).length ≤ 2 * (k + 1)) := Lib.hid (by have := HLN.out; rw [eX] at this; simp at this ⊢; omega)
              have HFZ : Hid (∀ wx, OwnI (.slice (some ⟨bo, 0, none⟩) no co) X w3 wx → wx.cell? ⟨bo, D.length + 1, none⟩ = some (.int .i64 b) ∧ wx.frozen? ⟨bo, D.length + 1, none⟩ = false) := Lib.hid (fun wx h => by
                have ho := h.own
                rw [← HNO.out] at ho
                refine ⟨?_, ho.frozenAt _⟩
                rw [ho.cellAt (D.length + 1) (by omega)]; simp only [eX]; simp [icells])
              have HNL := Lib.hid nD
              clear hxa hxb HM eX he nD eS
              generalize D.length + 1 = nl at *
              go_wp2_with fail
              go_quiet (fail)
              go_wp2_with fail
              generalize hwx : World.drewN _ _ = wx
              have HOx := Lib.hid (show OwnI (.slice (some ⟨bo, 0, none⟩) no co) X w3 wx.drew from by rw [← hwx]; exact (HOQ.out.below (below_drewN (Below.refl _ _) _)).drewN 1)
              have HOy := Lib.hid (show OwnI (.slice (some ⟨bo, 0, none⟩) no co) X w3 wx from by rw [← hwx]; exact HOQ.out.below (below_drewN (Below.refl _ _) _))
              have HR : R3 b5 (o5 + k) b6 (o6 + k) xa xb wx := by rw [← hwx]; exact R3.drewN HRQ.out _
              have HR2 : R3 b5 (o5 + k) b6 (o6 + k) xa xb wx.drew := R3.drewN HR 1
              have v6 := HR.2.1
              have v6d := HR2.2.1
              have v9 := (HFZ.out _ HOy.out).1
              obtain ⟨v9d, f9d⟩ := HFZ.out _ HOx.out
              have HFIN := Lib.hid (HSET.out _ HOx.out)
              clear HR HR2 hwx y9 x5 x6 HOQ HRQ HOx HOy HSET HFZ
              go_still_tail 16, (by kernel_rfl)
              change wpList _ _ _ _ _ wx.drew
              go_wp2_with fail
              go_roundw
              case rel => exact ⟨k + 1, _, D ++ [a, max b xb], by omega, by go_num, rfl, HFIN, MA, HLN2⟩
              case measure => simp [intOf]; omega
            · have d1 : decide (xa ≤ b) = false := decide_eq_false c
              have MA : Hid (MergeAt L (k + 1) (X ++ [xa, xb])) := Lib.hid (by rw [hxa, hxb, eX]; exact MergeAt.new he hkt (by rw [← hxa]; exact c))
              have HD := Lib.hid nD
              clear hxa hxb HM eX he nD
              generalize D.length + 1 = nl at *
              go_wp2_with fail
              go_quiet (fail)
              go_wp2_with fail
              generalize hwx : World.drewN _ _ = wx
              have HR : Hid (R3 b5 (o5 + k) b6 (o6 + k) xa xb wx) := Lib.hid (by rw [← hwx]; exact R3.drewN HRQ.out _)
              have HOx := Lib.hid (show OwnI (.slice (some ⟨bo, oo, none⟩) no co) X w3 wx from by rw [← hwx]; exact HOQ.out.below (below_drewN (Below.refl _ _) _))
              clear hwx HOQ HRQ
              have hb2 : Below wx.heap.size wx (wx.drew.alloc (.cells #[.int .i64 xa, .int .i64 xb] 3)) := (below_drewN (Below.refl _ _) 1).alloc (Nat.le_refl _) _
              have HO2 := Lib.hid (HOx.out.below hb2)
              have HOWN : Hid ((wx.drew.alloc (.cells #[.int .i64 xa, .int .i64 xb] 3)).ownsRow w3.heap.size 3 1 (.slice (some ⟨bo, oo, none⟩) no co) no (icells X)) := Lib.hid (by have := HO2.out.own; rw [← HNO.out] at this; exact this)
              have HSZ := Lib.hid HO2.out.bel.size
              have HAP : Hid (∀ g, (Value.slice (some ⟨bo, oo, none⟩) no co).ownBlock = some g → g ≠ b5 ∧ g ≠ b6) := Lib.hid (fun g hg => by have := (HOx.out.own.lt g hg).1; omega)
              have HGROW : Hid (∀ v6 w6, w6.ownsRow w3.heap.size 3 1 v6 (no + 2) (icells X ++ [.int .i64 xa, .int .i64 xb]) → (wx.drew.alloc (.cells #[.int .i64 xa, .int .i64 xb] 3)).grownBy w6 (Value.slice (some ⟨bo, oo, none⟩) no co).ownBlock → OwnI v6 (X ++ [xa, xb]) w3 w6) := Lib.hid (fun v6 w6 h1 h2 => by
                refine HO2.out.grow3 ?_ h2
                rw [icells_two', List.length_append, ← HNO.out]; exact h1)
              clear hb2 HO2 HOx
              refine wp_region_held_drew (S := fun w' => w'.cell? ⟨b5, o5 + k, none⟩ = some (.int .i64 xa) ∧ w'.cell? ⟨b6, o6 + k, none⟩ = some (.int .i64 xb) ∧ b5 < w'.heap.size ∧ b6 < w'.heap.size) (by kernel_rfl) ?_ (fun hHeld => ?_)
              · exact R3.drewN HR.out 1
              refine wpAnyH_take (i := 0) (oi := { dst := some 128, op := Go.Op.move (Go.Operand.tmp 9), type := 51, pos := "ref.go:68", after := #[], guard := none }) (v := ?_) rfl (by kernel_rfl) (by kernel_rfl) (by kernel_rfl) (fun _ _ _ h => h) (Or.inl ⟨by rfl, ?_⟩) (by assumption) ?_
              rotate_left
              · (intro w hSw; (try dsimp only at hSw); go_simp); try with_reducible rfl
              try simp only [Act.put, List.setIfInBounds_toArray, List.set_cons_zero, List.set_cons_succ]
              refine wpAnyH_take (i := 1) (oi := { dst := some 129, op := Go.Op.move (Go.Operand.tmp 5), type := 51, pos := "ref.go:68", after := #[], guard := none }) (v := ?_) rfl (by kernel_rfl) (by kernel_rfl) (by kernel_rfl) (fun _ _ _ h => h) (Or.inl ⟨by rfl, ?_⟩) (by assumption) ?_
              rotate_left
              · (intro w hSw; (try dsimp only at hSw); go_simp); try with_reducible rfl
              try simp only [Act.put, List.setIfInBounds_toArray, List.set_cons_zero, List.set_cons_succ]
              refine wpAnyH_take (i := 2) (oi := { dst := some 130, op := Go.Op.move (Go.Operand.tmp 10), type := 3, pos := "ref.go:68", after := #[], guard := none }) (v := ?_) rfl (by kernel_rfl) (by kernel_rfl) (by kernel_rfl) (fun _ _ _ h => h) (Or.inl ⟨by rfl, ?_⟩) (by assumption) ?_
              rotate_left
              · (intro w hSw; (try dsimp only at hSw); go_simp); try with_reducible rfl
              try simp only [Act.put, List.setIfInBounds_toArray, List.set_cons_zero, List.set_cons_succ]
              refine wpAnyH_take (i := 3) (oi := { dst := some 131, op := Go.Op.indexAddr 51 (Go.Operand.tmp 129) (Go.Operand.tmp 130), type := 0, pos := "ref.go:68", after := #[{ on := 1, ground := Go.Ground.data }, { on := 2, ground := Go.Ground.data }], guard := none }) (v := ?_) rfl (by kernel_rfl) (by kernel_rfl) (by kernel_rfl) (fun _ _ _ h => h) (Or.inl ⟨by rfl, ?_⟩) (by assumption) ?_
              rotate_left
              · (intro w hSw; (try dsimp only at hSw); go_simp); try with_reducible rfl
              try simp only [Act.put, List.setIfInBounds_toArray, List.set_cons_zero, List.set_cons_succ]
              refine wpAnyH_take (i := 4) (oi := { dst := some 132, op := Go.Op.load 3 (Go.Operand.tmp 131), type := 3, pos := "ref.go:68", after := #[{ on := 3, ground := Go.Ground.data }], guard := none }) (v := ?_) rfl (by kernel_rfl) (by kernel_rfl) (by kernel_rfl) (fun _ _ _ h => h) (Or.inl ⟨by rfl, ?_⟩) (by assumption) ?_
              rotate_left
              · (intro w hSw; (try dsimp only at hSw); go_simp); try with_reducible rfl
              try simp only [Act.put, List.setIfInBounds_toArray, List.set_cons_zero, List.set_cons_succ]
              refine wpAnyH_take (i := 5) (oi := { dst := some 133, op := Go.Op.move (Go.Operand.tmp 6), type := 51, pos := "ref.go:68", after := #[], guard := none }) (v := ?_) rfl (by kernel_rfl) (by kernel_rfl) (by kernel_rfl) (fun _ _ _ h => h) (Or.inl ⟨by rfl, ?_⟩) (by assumption) ?_
              rotate_left
              · (intro w hSw; (try dsimp only at hSw); go_simp); try with_reducible rfl
              try simp only [Act.put, List.setIfInBounds_toArray, List.set_cons_zero, List.set_cons_succ]
              refine wpAnyH_take (i := 6) (oi := { dst := some 134, op := Go.Op.move (Go.Operand.tmp 10), type := 3, pos := "ref.go:68", after := #[], guard := none }) (v := ?_) rfl (by kernel_rfl) (by kernel_rfl) (by kernel_rfl) (fun _ _ _ h => h) (Or.inl ⟨by rfl, ?_⟩) (by assumption) ?_
              rotate_left
              · (intro w hSw; (try dsimp only at hSw); go_simp); try with_reducible rfl
              try simp only [Act.put, List.setIfInBounds_toArray, List.set_cons_zero, List.set_cons_succ]
              refine wpAnyH_take (i := 7) (oi := { dst := some 135, op := Go.Op.indexAddr 51 (Go.Operand.tmp 133) (Go.Operand.tmp 134), type := 0, pos := "ref.go:68", after := #[{ on := 5, ground := Go.Ground.data }, { on := 6, ground := Go.Ground.data }], guard := none }) (v := ?_) rfl (by kernel_rfl) (by kernel_rfl) (by kernel_rfl) (fun _ _ _ h => h) (Or.inl ⟨by rfl, ?_⟩) (by assumption) ?_
              rotate_left
              · (intro w hSw; (try dsimp only at hSw); go_simp); try with_reducible rfl
              try simp only [Act.put, List.setIfInBounds_toArray, List.set_cons_zero, List.set_cons_succ]
              refine wpAnyH_take (i := 8) (oi := { dst := some 136, op := Go.Op.load 3 (Go.Operand.tmp 135), type := 3, pos := "ref.go:68", after := #[{ on := 7, ground := Go.Ground.data }], guard := none }) (v := ?_) rfl (by kernel_rfl) (by kernel_rfl) (by kernel_rfl) (fun _ _ _ h => h) (Or.inl ⟨by rfl, ?_⟩) (by assumption) ?_
              rotate_left
              · (intro w hSw; (try dsimp only at hSw); go_simp); try with_reducible rfl
              try simp only [Act.put, List.setIfInBounds_toArray, List.set_cons_zero, List.set_cons_succ]
              refine wpAnyH_ready (rs := [9]) (by kernel_rfl) (by simp) ?_
              refine AllReadyH.cons (o := { dst := some 137, op := Go.Op.buildSlice 51 2 #[(0, Go.Operand.tmp 132), (1, Go.Operand.tmp 136)], type := 51, pos := "ref.go:68", after := #[{ on := 4, ground := Go.Ground.data }, { on := 8, ground := Go.Ground.data }], guard := none }) rfl (fun Kx hKx => ?_) AllReadyH.nil
              go_simp
              refine hKx.out _ _ (R3.go ‹_› ((Below.refl _ _).alloc (Nat.le_refl _) _)) (fun hHeld2 => ?_)
              clear hKx Kx hHeld
              have hHeld := hHeld2; clear hHeld2
              try simp only [Act.put, List.setIfInBounds_toArray, List.set_cons_zero, List.set_cons_succ]
              refine wpAnyH_ready (rs := [10]) (by kernel_rfl) (by simp) ?_
              refine AllReadyH.cons (o := { dst := some 138, op := Go.Op.call { callee := Go.Callee.builtin Go.Builtin.append, args := #[Go.Operand.tmp 128, Go.Operand.tmp 137], argTypes := #[51, 51] }, type := 51, pos := "ref.go:68", after := #[{ on := 0, ground := Go.Ground.data }, { on := 9, ground := Go.Ground.data }], guard := none }) rfl (fun Kx hKx => ?_) AllReadyH.nil
              try simp only [Act.put, List.setIfInBounds_toArray, List.set_cons_zero, List.set_cons_succ]
              refine wp_append_own _ (Operand.tmp 128) (Operand.tmp 137) 51 rfl w3.heap.size 3 i0 (.int .i64 0) 1 8 Tryz.underlying51 hi9 hz0 hz1 hz2 rfl (by decide) (.slice (some ⟨bo, oo, none⟩) no co) no (icells X) rfl HOWN.out ⟨wx.drew.heap.size, 0, none⟩ 2 2 [.int .i64 xa, .int .i64 xb] rfl rfl ?d1 ?d2 ?d3 ?d4 ?d5 ?_
              case d1 => exact World.news_of_block (cs := #[.int .i64 xa, .int .i64 xb]) (t := 3) (fr := (0, 0)) (heap_alloc_new wx.drew _)
              case d2 => intro u hu; simp only [List.mem_cons, List.not_mem_nil, or_false] at hu; rcases hu with rfl | rfl <;> rfl
              case d3 => unfold maxLen; omega
              case d4 => omega
              case d5 => exact HSZ.out
              intro v6 w6 hown6 hgr6 _
              have HW6 := Lib.hid (HGROW.out v6 w6 hown6 hgr6)
              refine hKx.out _ _ (R3.grow ‹_› hgr6 HAP.out) (fun hHeld2 => ?_)
              clear hKx Kx hHeld hown6 hgr6
              have hHeld := hHeld2; clear hHeld2
              try simp only [Act.put, List.setIfInBounds_toArray, List.set_cons_zero, List.set_cons_succ]
              refine wpAnyH_take (i := 11) (oi := { dst := some 9, op := Go.Op.assign (Go.Operand.tmp 138), type := 51, pos := "ref.go:68", after := #[{ on := 10, ground := Go.Ground.data }, { on := 10, ground := Go.Ground.chain }, { on := 0, ground := Go.Ground.phase }, { on := 1, ground := Go.Ground.phase }, { on := 2, ground := Go.Ground.phase }, { on := 3, ground := Go.Ground.phase }, { on := 4, ground := Go.Ground.phase }, { on := 5, ground := Go.Ground.phase }, { on := 6, ground := Go.Ground.phase }, { on := 7, ground := Go.Ground.phase }, { on := 8, ground := Go.Ground.phase }, { on := 9, ground := Go.Ground.phase }, { on := 10, ground := Go.Ground.phase }], guard := none }) (v := ?_) rfl (by kernel_rfl) (by kernel_rfl) (by kernel_rfl) (fun _ _ _ h => h) (Or.inl ⟨by rfl, ?_⟩) (by assumption) ?_
              rotate_left
              · (intro w hSw; (try dsimp only at hSw); go_simp); try with_reducible rfl
              try simp only [Act.put, List.setIfInBounds_toArray, List.set_cons_zero, List.set_cons_succ]
              refine wpAnyH_done (by kernel_rfl) ?_ _
              go_wp2_with fail
              go_roundw
              case rel => exact ⟨k + 1, v6, X ++ [xa, xb], by omega, by go_num, rfl, HW6, MA, Lib.hid (by have := HLN.out; rw [List.length_append]; simp; omega)⟩
              case measure => simp [intOf]; omega
        · obtain rfl : k = L.length := by omega
          have e := HM.out.done
          subst e
          have HFIN := Lib.hid (HO.out.base HB.out)
          clear HO HM HLN
          go_wp2_with fail
          go_ret
          exact ⟨_, rfl, by rw [← HLL.out]; exact HFIN.out⟩
end Go.Proofs.YtdnoadngfkiabaaGreat
