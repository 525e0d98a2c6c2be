/-
  Contracts of the reference of layer 6 (3): sorted.
  RegionAlgebra: an append of a slice that was handed in, and what the sets say.
-/
import Derived.Test.YtdnoadngfkiabaaGreatS901
import Derived.BigQuiet
import Derived.Test.YtdnoadngfkiabaaGreatS911
import Derived.Test.YtdnoadngfkiabaaGreatS913
import Derived.Laws.AppendOwnNone
set_option linter.unusedVariables false
set_option maxRecDepth 100000
namespace Go.Proofs.YtdnoadngfkiabaaGreat
open Go.RowKit

theorem OwnI.parts {v : Value} {l : List Int} {w wr : World} (h : OwnI v l w wr) :
    ∃ A cap, v = .slice A l.length cap ∧ (0 < l.length → ∃ g, A = some ⟨g, 0, none⟩ ∧ g < wr.heap.size ∧ w.heap.size ≤ g ∧ ∀ j (h : j < l.length), wr.cell? ⟨g, j, none⟩ = some (.int .i64 l[j])) := by
  obtain ⟨A, cap, rfl, hA⟩ := own_parts h.own
  refine ⟨A, cap, rfl, fun h0 => ?_⟩
  obtain ⟨g, rfl, hg, hc⟩ := hA h0
  exact ⟨g, rfl, hg, (h.own.lt g rfl).1, fun j hj => by rw [hc j (by omega)]; simp [icells, hj]⟩
theorem OwnI.below {v : Value} {l : List Int} {w wr w' : World} (h : OwnI v l w wr) (hb : Below wr.heap.size wr w') : OwnI v l w w' := by
  refine ⟨?_, h.bel.trans (hb.mono h.bel.size)⟩
  obtain ⟨h1, h2⟩ := h.own
  refine ⟨h1, ?_⟩
  rcases h2 with ⟨rfl, h3⟩ | ⟨g, cap, cur, rfl, hB, hg, h4⟩
  · exact Or.inl ⟨rfl, h3⟩
  · exact Or.inr ⟨g, cap, cur, rfl, hB, by rw [hb.block g (Array.getElem?_eq_some_iff.1 hg).1]; exact hg, h4⟩
theorem OwnI.set {g n cap : Nat} {l : List Int} {w wr : World} (h : OwnI (.slice (some ⟨g, 0, none⟩) n cap) l w wr) (hn : n = l.length) (j : Nat) (x : Int) :
    OwnI (.slice (some ⟨g, 0, none⟩) n cap) (l.set j x) w (wr.setCell ⟨g, j, none⟩ (.int .i64 x)) := by
  subst hn
  obtain ⟨h1, h2⟩ := h.own.stored j (.int .i64 x)
  refine ⟨?_, ?_⟩
  · have e : (icells l).set j (.int .i64 x) = icells (l.set j x) := by simp [icells, List.map_set]
    rw [e] at h1
    rw [List.length_set]; exact h1
  · exact h.bel.setCell (by have := (h.own.lt g rfl).1; simp; omega) _

/-- the place of a number in an ascending list. -/
theorem insS_at {x : Int} : ∀ {t : List Int} {m : Nat}, Asc t → (∀ j (h : j < t.length), m ≤ j → x < t[j]) → (∀ j (h : j < t.length), j < m → t[j] < x) → m ≤ t.length → insS x t = t.take m ++ x :: t.drop m := by
  intro t
  induction t with
  | nil => intro m _ _ _ hm; simp at hm; subst hm; rfl
  | cons a t ih =>
    intro m ha h1 h2 hm
    unfold insS
    cases m with
    | zero =>
      have := h1 0 (by simp) (Nat.le_refl _)
      simp only [List.getElem_cons_zero] at this
      rw [if_pos this]; rfl
    | succ m =>
      have := h2 0 (by simp) (by omega)
      simp only [List.getElem_cons_zero] at this
      rw [if_neg (by omega), if_neg (by omega)]
      have e := ih ha.tail (m := m) (fun j hj hm => by have := h1 (j + 1) (by simp; omega) (by omega); simpa using this) (fun j hj hm => by have := h2 (j + 1) (by simp; omega) (by omega); simpa using this) (by simp at hm; omega)
      rw [e]; rfl
theorem insS_has {x : Int} : ∀ {t : List Int}, Asc t → x ∈ t → insS x t = t := by
  intro t
  induction t with
  | nil => intro _ h; cases h
  | cons a t ih =>
    intro ha h
    unfold insS
    rcases List.mem_cons.1 h with rfl | h
    · rw [if_neg (by omega), if_pos rfl]
    · have := ha.lt x h
      rw [if_neg (by omega), if_neg (by omega), ih ha.tail h]
theorem asc_at : ∀ {t : List Int}, Asc t → ∀ {i j : Nat} (hi : i < t.length) (hj : j < t.length), i < j → t[i] < t[j] := by
  intro t
  induction t with
  | nil => intro _ i j hi; simp at hi
  | cons a t ih =>
    intro ha i j hi hj hij
    cases j with
    | zero => omega
    | succ j =>
      cases i with
      | zero => simp only [List.getElem_cons_zero, List.getElem_cons_succ]; exact ha.lt _ (List.getElem_mem _)
      | succ i => simp only [List.getElem_cons_succ]; exact ih ha.tail (by simpa using hi) (by simpa using hj) (by omega)
/-- the list while its upper part is moved up. -/
def upL (t : List Int) (j : Nat) (z : Int) : List Int := t.take j ++ z :: t.drop j
theorem upL_len (t : List Int) (j : Nat) (z : Int) (h : j ≤ t.length) : (upL t j z).length = t.length + 1 := by
  unfold upL; rw [List.length_append, List.length_cons, List.length_take, List.length_drop]; omega
theorem upL_at {t : List Int} {j : Nat} (z : Int) (h : j < t.length) : ∃ h2 : j < (upL t (j + 1) z).length, (upL t (j + 1) z)[j] = t[j] := by
  refine ⟨by rw [upL_len t (j + 1) z (by omega)]; omega, ?_⟩
  unfold upL
  rw [List.getElem_append_left (by rw [List.length_take]; omega), List.getElem_take]
theorem upL_step {t : List Int} {j : Nat} (z : Int) (h : j < t.length) : (upL t (j + 1) z).set (j + 1) t[j] = upL t j t[j] := by
  unfold upL
  have e : (t.take (j + 1)).length = j + 1 := by rw [List.length_take]; omega
  rw [List.set_append_right _ _ (by omega), e, Nat.sub_self, List.set_cons_zero, List.take_succ_eq_append_getElem h, List.append_assoc]
  rw [List.drop_eq_getElem_cons h]; rfl
theorem upL_set (t : List Int) (j : Nat) (z x : Int) (h : j ≤ t.length) : (upL t j z).set j x = upL t j x := by
  unfold upL
  have e : (t.take j).length = j := by rw [List.length_take]; omega
  rw [List.set_append_right _ _ (by omega), e, Nat.sub_self, List.set_cons_zero]
theorem upL_end (t : List Int) : upL t t.length 0 = t ++ [0] := by unfold upL; rw [List.take_length, List.drop_length]
theorem sortS_next (l : List Int) (k : Nat) (h : k < l.length) : sortS (l.take (k + 1)) = insS l[k] (sortS (l.take k)) := by rw [List.take_succ_eq_append_getElem h, sortS_snoc]
theorem insS_len (x : Int) (t : List Int) : (insS x t).length ≤ t.length + 1 := by
  induction t with
  | nil => simp [insS]
  | cons a t ih => unfold insS; split; simp; split; simp; simp; omega
theorem sortS_len (l : List Int) : ∀ k, k ≤ l.length → (sortS (l.take k)).length ≤ k := by
  intro k
  induction k with
  | zero => intro _; simp [sortS]
  | succ k ih => intro h; rw [sortS_next l k (by omega)]; have := insS_len l[k] (sortS (l.take k)); have := ih (by omega); omega

set_option maxHeartbeats 40000000 in
theorem vsorted_any (A1 : Option Addr) (k1 : Nat) (l : List Int) (w : World) (h1 : IRow w A1 l) (hl : l.length ≤ 1073741824) :
    Calls Tryz.prog 96 #[.slice A1 l.length k1] w fun e w' => ∃ v, e = .returned v ∧ OwnI v (sortS l) w w' := by
  obtain ⟨i0, hi9, hz0, hz1, hz2⟩ := info_parts infoInt
  have H1 := Lib.hid h1; clear h1
  have K0 : Hid (OwnI (.slice none 0 0) [] w w) := Lib.hid ⟨World.ownsRow_nil _ _ _ _, Below.refl _ _⟩
  go_enter Tryz.func96, Tryz.ntmps96
  go_wp2
  go_loopw [3, 4] (fun v i wr => ∃ k : Nat, k ≤ l.length ∧ i = .int .i64 k ∧ Hid (OwnI v (sortS (l.take k)) w wr)) (fun _ i _ => l.length - (intOf i).toNat)
  case atStart => exact ⟨0, Nat.zero_le _, rfl, K0⟩
  case round =>
    clear K0
    obtain ⟨k, hk, rfl, hO⟩ := hrel
    by_cases hlt : k < l.length
    · obtain ⟨b1, o1, rfl, hb1, hv1⟩ := H1.out (by omega)
      have x0 := hv1 k hlt
      have x1 := (hO.out.bel.cell (p := ⟨b1, o1 + k, none⟩) hb1).trans x0
      clear hv1
      have hnx := sortS_next l k hlt
      have hln := sortS_len l k hk
      have hasc := (sortS_is (l.take k)).1
      have ex : ∃ x, x = l[k] := ⟨_, rfl⟩
      obtain ⟨x, hx⟩ := ex
      rw [← hx] at x0 x1 hnx
      clear hx
      have HNX := Lib.hid hnx; clear hnx
      generalize sortS (l.take k) = t at *
      have HAS := Lib.hid hasc; clear hasc
      obtain ⟨A, cap, rfl, hA⟩ := hO.out.parts
      have HA := Lib.hid hA; clear hA
      have j0 : (0 : Int) ≤ (k : Int) := by omega
      have j1 : (k : Int) < (l.length : Int) := by omega
      go_wp2
      go_loopw [5] (fun s w2 => ∃ (m q : Nat), m ≤ t.length ∧ s = .int .i64 m ∧ w2 = wr.drewN q ∧ ∀ j (h : j < t.length), m ≤ j → x < t[j]) (fun s _ => (intOf s).toNat)
      case atStart => exact ⟨t.length, 0, Nat.le_refl _, rfl, rfl, fun j h h2 => by omega⟩
      case round =>
        obtain ⟨m, q, hm, rfl, rfl, hup⟩ := hrel
        have HUP := Lib.hid hup; clear hup
        have DONE : ¬ (0 < m ∧ ∃ h : m - 1 < t.length, x < t[m - 1]) → True := fun _ => trivial
        cases m with
        | zero =>
          have hins : insS x t = upL t 0 x := insS_at HAS.out (fun j h h2 => HUP.out j h h2) (fun j h h2 => by omega) (Nat.zero_le _)
          clear DONE HUP
          go_wp2_with fail
          go_quiet (fail)
          generalize hw1 : World.drewN (World.drewN wr _) _ = wx1 at *
          have x1a : wx1.cell? ⟨b1, o1 + k, none⟩ = some (.int .i64 x) := by rw [← hw1]; exact x1
          skip
          have hO1 : OwnI (.slice A t.length cap) t w wx1 := by rw [← hw1]; exact (hO.out.drewN _).drewN _
          clear hw1
          go_wp2_with fail
          go_quiet (fail)
          generalize hwx : World.drewN wx1 _ = wx at *
          have hO2 : OwnI (.slice A t.length cap) t w wx := by rw [← hwx]; exact hO1.drewN _
          clear hwx hO1 x1a 
          have hown := hO2.own; have hbs := hO2.bel.size
          go_wp2_with (at_builtin; refine wpList_append_own _ rfl _ _ 51 rfl w.heap.size 3 i0 (.int .i64 0) 1 8 Tryz.underlying51 hi9 hz0 hz1 hz2 rfl (by decide) _ _ _ rfl (hown.alloc _) ⟨wx.heap.size, 0, none⟩ 1 1 [.int .i64 0] rfl rfl ?c1 ?c2 ?c3 ?c4 ?c5 ?_)
          case c1 =>
            intro j u hj
            match j, hj with
            | 0, hj => simp at hj; subst hj; simp [Addr.add]
          case c2 => intro u hu; simp at hu; subst hu; rfl
          case c3 => unfold maxLen; omega
          case c4 => omega
          case c5 => simp; omega
          intro v' w4 hown' hgr _
          have hI : OwnI v' (upL t t.length 0) w w4 := by
            rw [upL_end]
            exact ⟨by rw [icells_snoc, List.length_append]; exact hown', Below.grown (w := wx.alloc (.cells #[.int .i64 0] 3)) (hO2.bel.alloc hbs _) hgr (by simp; omega) (fun k hk => (hown.lt k hk).1)⟩
          clear hown' hgr hown hO2 hO hbs
          have hlU := upL_len t t.length 0 (Nat.le_refl _)
          obtain ⟨A', cap', rfl, hA'⟩ := hI.parts
          obtain ⟨g', rfl, hg', hgw', _⟩ := hA' (by omega)
          rw [hlU] at hI ⊢
          have HI := Lib.hid hI
          clear hI hA' hlU hg' x1
          have q5 : IntKind.i64.wrap ((t.length : Int) + 1 - 1) = (t.length : Int) := by rw [show (t.length : Int) + 1 - 1 = (t.length : Int) by omega]; exact IntWalk.i64_in _ (by omega)
          go_wp2
          clear q5
          go_loopw [6] (fun s w5 => ∃ (j : Nat) (z : Int), 0 ≤ j ∧ j ≤ t.length ∧ s = .int .i64 j ∧ Hid (OwnI (.slice (some ⟨g', 0, none⟩) (t.length + 1) cap') (upL t j z) w w5)) (fun s _ => (intOf s).toNat)
          case atStart => exact ⟨t.length, 0, by omega, Nat.le_refl _, by go_num, HI⟩
          case round =>
            clear HI
            obtain ⟨j, z, hj1, hj2, rfl, hK⟩ := hrel
            by_cases hjm : 0 < j
            · obtain ⟨j, rfl⟩ : ∃ i, j = i + 1 := ⟨j - 1, by omega⟩
              have hjt : j < t.length := by omega
              obtain ⟨e1, e2⟩ := upL_at z hjt
              have lU := upL_len t (j + 1) z (by omega)
              have own := hK.out.own
              rw [lU] at own
              have cA : ∀ i (h : i < (upL t (j + 1) z).length), _ := fun i h => (own.cellAt i (by omega)).trans (show (icells (upL t (j + 1) z))[i]? = some (.int .i64 (upL t (j + 1) z)[i]) by simp [icells, h])
              have y5 := cA j e1
              rw [e2] at y5
              have z5 := cA (j + 1) (by omega)
              have f5 := own.frozenAt (j + 1)
              have HST := upL_step z hjt
              have hset := hK.out.set (by rw [lU]) (j + 1) t[j]
              rw [HST] at hset
              have HSET := Lib.hid hset
              generalize (upL t (j + 1) z)[j + 1] = zz at *
              clear cA e2 HST hset own
              have ez : ∃ u, u = t[j] := ⟨_, rfl⟩
              obtain ⟨u, hu⟩ := ez
              rw [← hu] at y5 HSET
              clear hu
              have c0 : (0 : Int) ≤ (j : Int) := by omega
              have c2 : (j : Int) < (t.length : Int) := by omega
              have q6 : IntKind.i64.wrap (j : Int) = (j : Int) := IntWalk.i64_in _ (by omega)
              go_wp2
              clear q6
              go_roundw
              case rel => exact ⟨j, u, by omega, by omega, by go_num, HSET⟩
              case measure => simp [intOf]
            · obtain rfl : j = 0 := by omega
              have lU := upL_len t (0) z (by omega)
              have own := hK.out.own
              rw [lU] at own
              have z5 := (own.cellAt (0) (by omega)).trans (show (icells (upL t (0) z))[0]? = some (.int .i64 (upL t (0) z)[0]) by simp [icells, lU]; try omega)
              have f5 := own.frozenAt (0)
              clear own
              have x5 := (hK.out.bel.cell (p := ⟨b1, o1 + k, none⟩) hb1).trans x0
              have hset := hK.out.set (by rw [lU]) (0) x
              rw [upL_set t (0) z x (by omega), ← hins, ← HNX.out] at hset
              have HSET := Lib.hid hset
              clear hset
              generalize (upL t (0) z)[0] = zz at *
              have c2 : (0 : Int) ≤ (t.length : Int) := by omega
              go_wp2
              go_roundw
              case rel => exact ⟨k + 1, by omega, by go_num, by have e : (sortS (l.take (k + 1))).length = t.length + 1 := (by rw [HNX.out, hins]; exact upL_len t _ x (by omega)); exact HSET⟩
              case measure => simp [intOf]; omega
        | succ m =>
          obtain ⟨g, rfl, hg, hgw, hc⟩ := HA.out (by omega)
          have y1 := hc m (by omega)
          clear hc DONE
          have ey : ∃ y, y = t[m] := ⟨_, rfl⟩
          obtain ⟨y, hy⟩ := ey
          rw [← hy] at y1
          have n0 : (0 : Int) ≤ (m : Int) := by omega
          have n1 : (m : Int) < (t.length : Int) := by omega
          have n2 : (0 : Int) < (m : Int) + 1 := by omega
          by_cases hxy : x < y
          · have hup2 : ∀ j (h : j < t.length), m ≤ j → x < t[j] := fun j h h2 => by
              by_cases e : j = m
              · subst e; rw [← hy]; exact hxy
              · exact HUP.out j h (by omega)
            have HU2 := Lib.hid hup2; clear hup2 HUP
            have q4 : IntKind.i64.wrap (m : Int) = (m : Int) := IntWalk.i64_in _ (by omega)
            go_wp2_with fail
            go_quiet (fail)
            go_wp2
            clear q4
            go_roundw
            case rel => exact ⟨m, _, by omega, by go_num, rfl, HU2.out⟩
            case measure => simp [intOf]
          · by_cases hyx : y = x
            · have hin : sortS (l.take (k + 1)) = t := by rw [HNX.out]; exact insS_has HAS.out (by rw [← hyx, hy]; exact List.getElem_mem _)
              have HIN := Lib.hid hin; clear hin HUP hy
              subst hyx
              have q4 : IntKind.i64.wrap (m : Int) = (m : Int) := IntWalk.i64_in _ (by omega)
              go_wp2_with fail
              go_quiet (fail)
              go_wp2_with fail
              go_quiet (fail)
              go_wp2
              clear q4
              go_roundw
              case rel => exact ⟨k + 1, by omega, by go_num, by rw [HIN.out]; exact Lib.hid (hO.out.drewN _)⟩
              case measure => simp [intOf]; omega
            · have hlow : ∀ j (h : j < t.length), j < m + 1 → t[j] < x := fun j h h2 => by
                by_cases e : j = m
                · subst e; rw [← hy]; omega
                · have := asc_at HAS.out h (show m < t.length by omega) (by omega); rw [← hy] at this; omega
              have hins : insS x t = upL t (m + 1) x := insS_at HAS.out (fun j h h2 => HUP.out j h h2) hlow (by omega)
              clear hlow HUP hy
              have hyx' : (y == x) = false := by simp [hyx]
              have q4 : IntKind.i64.wrap (m : Int) = (m : Int) := IntWalk.i64_in _ (by omega)
              go_wp2_with fail
              go_quiet (fail)
              generalize hw1 : World.drewN (World.drewN wr _) _ = wx1 at *
              have x1a : wx1.cell? ⟨b1, o1 + k, none⟩ = some (.int .i64 x) := by rw [← hw1]; exact x1
              have y1a : wx1.cell? ⟨g, m, none⟩ = some (.int .i64 y) := by rw [← hw1]; exact y1
              have hO1 : OwnI (.slice (some ⟨g, 0, none⟩) t.length cap) t w wx1 := by rw [← hw1]; exact (hO.out.drewN _).drewN _
              clear hw1
              go_wp2_with fail
              go_quiet (fail)
              generalize hwx : World.drewN wx1 _ = wx at *
              have hO2 : OwnI (.slice (some ⟨g, 0, none⟩) t.length cap) t w wx := by rw [← hwx]; exact hO1.drewN _
              clear hwx hO1 x1a y1a y1 q4
              have hown := hO2.own; have hbs := hO2.bel.size
              go_wp2_with (at_builtin; refine wpList_append_own _ rfl _ _ 51 rfl w.heap.size 3 i0 (.int .i64 0) 1 8 Tryz.underlying51 hi9 hz0 hz1 hz2 rfl (by decide) _ _ _ rfl (hown.alloc _) ⟨wx.heap.size, 0, none⟩ 1 1 [.int .i64 0] rfl rfl ?c1 ?c2 ?c3 ?c4 ?c5 ?_)
              case c1 =>
                intro j u hj
                match j, hj with
                | 0, hj => simp at hj; subst hj; simp [Addr.add]
              case c2 => intro u hu; simp at hu; subst hu; rfl
              case c3 => unfold maxLen; omega
              case c4 => omega
              case c5 => simp; omega
              intro v' w4 hown' hgr _
              have hI : OwnI v' (upL t t.length 0) w w4 := by
                rw [upL_end]
                exact ⟨by rw [icells_snoc, List.length_append]; exact hown', Below.grown (w := wx.alloc (.cells #[.int .i64 0] 3)) (hO2.bel.alloc hbs _) hgr (by simp; omega) (fun k hk => (hown.lt k hk).1)⟩
              clear hown' hgr hown hO2 hO hbs
              have hlU := upL_len t t.length 0 (Nat.le_refl _)
              obtain ⟨A', cap', rfl, hA'⟩ := hI.parts
              obtain ⟨g', rfl, hg', hgw', _⟩ := hA' (by omega)
              rw [hlU] at hI ⊢
              have HI := Lib.hid hI
              clear hI hA' hlU hg' x1
              have q5 : IntKind.i64.wrap ((t.length : Int) + 1 - 1) = (t.length : Int) := by rw [show (t.length : Int) + 1 - 1 = (t.length : Int) by omega]; exact IntWalk.i64_in _ (by omega)
              go_wp2
              clear q5
              go_loopw [6] (fun s w5 => ∃ (j : Nat) (z : Int), m + 1 ≤ j ∧ j ≤ t.length ∧ s = .int .i64 j ∧ Hid (OwnI (.slice (some ⟨g', 0, none⟩) (t.length + 1) cap') (upL t j z) w w5)) (fun s _ => (intOf s).toNat)
              case atStart => exact ⟨t.length, 0, by omega, Nat.le_refl _, by go_num, HI⟩
              case round =>
                clear HI
                obtain ⟨j, z, hj1, hj2, rfl, hK⟩ := hrel
                by_cases hjm : m + 1 < j
                · obtain ⟨j, rfl⟩ : ∃ i, j = i + 1 := ⟨j - 1, by omega⟩
                  have hjt : j < t.length := by omega
                  obtain ⟨e1, e2⟩ := upL_at z hjt
                  have lU := upL_len t (j + 1) z (by omega)
                  have own := hK.out.own
                  rw [lU] at own
                  have cA : ∀ i (h : i < (upL t (j + 1) z).length), _ := fun i h => (own.cellAt i (by omega)).trans (show (icells (upL t (j + 1) z))[i]? = some (.int .i64 (upL t (j + 1) z)[i]) by simp [icells, h])
                  have y5 := cA j e1
                  rw [e2] at y5
                  have z5 := cA (j + 1) (by omega)
                  have f5 := own.frozenAt (j + 1)
                  have HST := upL_step z hjt
                  have hset := hK.out.set (by rw [lU]) (j + 1) t[j]
                  rw [HST] at hset
                  have HSET := Lib.hid hset
                  generalize (upL t (j + 1) z)[j + 1] = zz at *
                  clear cA e2 HST hset own
                  have ez : ∃ u, u = t[j] := ⟨_, rfl⟩
                  obtain ⟨u, hu⟩ := ez
                  rw [← hu] at y5 HSET
                  clear hu
                  have c0 : (0 : Int) ≤ (j : Int) := by omega
                  have c2 : (j : Int) < (t.length : Int) := by omega
                  have q6 : IntKind.i64.wrap (j : Int) = (j : Int) := IntWalk.i64_in _ (by omega)
                  go_wp2
                  clear q6
                  go_roundw
                  case rel => exact ⟨j, u, by omega, by omega, by go_num, HSET⟩
                  case measure => simp [intOf]
                · obtain rfl : j = m + 1 := by omega
                  have lU := upL_len t (m + 1) z (by omega)
                  have own := hK.out.own
                  rw [lU] at own
                  have z5 := (own.cellAt (m + 1) (by omega)).trans (show (icells (upL t (m + 1) z))[m + 1]? = some (.int .i64 (upL t (m + 1) z)[m + 1]) by simp [icells]; try omega)
                  have f5 := own.frozenAt (m + 1)
                  clear own
                  have x5 := (hK.out.bel.cell (p := ⟨b1, o1 + k, none⟩) hb1).trans x0
                  have hset := hK.out.set (by rw [lU]) (m + 1) x
                  rw [upL_set t (m + 1) z x (by omega), ← hins, ← HNX.out] at hset
                  have HSET := Lib.hid hset
                  clear hset
                  generalize (upL t (m + 1) z)[m + 1] = zz at *
                  have c2 : (m + 1 : Int) ≤ (t.length : Int) := by omega
                  go_wp2
                  go_roundw
                  case rel => exact ⟨k + 1, by omega, by go_num, by have e : (sortS (l.take (k + 1))).length = t.length + 1 := (by rw [HNX.out, hins]; exact upL_len t _ x (by omega)); exact HSET⟩
                  case measure => simp [intOf]; omega
    · obtain rfl : k = l.length := by omega
      rw [List.take_length] at hO
      go_wp2
      go_ret
      exact ⟨_, rfl, hO.out⟩
end Go.Proofs.YtdnoadngfkiabaaGreat
namespace Go.Proofs.YtdnoadngfkiabaaGreat
open Go.RowKit

/-- the source of an append: nil, or cells that can be read. -/
def Src (w : World) (v2 : Value) (m : Nat) (news : List Value) : Prop := (v2 = .slice none 0 0 ∧ m = 0 ∧ news = []) ∨ ∃ ad c, v2 = .slice (some ad) m c ∧ news.length = m * 4 ∧ (∀ j u, news[j]? = some u → w.cell? (ad.add j) = some u) ∧ ∀ u ∈ news, u.oneCell' = true
theorem wpList_append_src {P : Program} {w : World} {ops : Array Oper} {rest : List Oper} {o : Oper} {a : Act} {Q : Exit → Act → World → Prop} (hgd : o.guard = none) (s x : Operand) (t : TypeId)
    (ho : o.op = .call { callee := .builtin .append, args := #[s, x], argTypes := #[t, t] })
    (base : Nat) (e : TypeId) (i : TypeInfo) (z : Value) (bytes : Nat) (ht : P.underlying t = some (.slice e)) (hi : P.info? e = some i) (hz : i.zero = some z)
    (hsize : i.size = 4) (hby : i.bytes = bytes) (hzs : z.cells.size = 4)
    (v : Value) (n : Nat) (xs : List Value) (hs : a.eval s = v) (hown : w.ownsRow base e 4 v n xs)
    (v2 : Value) (m : Nat) (news : List Value) (hx : a.eval x = v2) (hsrc : Src w v2 m news)
    (h63 : n + m ≤ maxLen) (hbytes : (n + m) * bytes ≤ 140737488355328) (hbase : base ≤ w.heap.size)
    (h : ∀ v' w', w'.ownsRow base e 4 v' (n + m) (xs ++ news) → w.grownBy w' v.ownBlock → wpList P ops Q rest (a.put o.dst v') w') : wpList P ops Q (o :: rest) a w := by
  rcases hsrc with ⟨h1, rfl, rfl⟩ | ⟨ad, c, h1, h2, h3, h4⟩
  · exact wpList_append_own_none hgd s x t ho base e i 4 ht hi v n xs hs hown (hx.trans h1) (h v w (by rw [List.append_nil]; exact hown) (World.grownBy.refl _ _))
  · exact wpList_append_own w hgd s x t ho base e i z 4 bytes ht hi hz hsize hby hzs (by decide) v n xs hs hown ad m c news (hx.trans h1) h2 h3 h4 h63 hbytes hbase (fun v' w' a b _ => h v' w' a b)
theorem rcells_back (l : List Rc) (t : Nat) (u : Value) (h : (rcells l)[t]? = some u) : t / 4 < l.length := by
  have := (List.getElem?_eq_some_iff.1 h).1
  rw [rcells_len] at this
  omega
theorem src_of {w : World} {A : Option Addr} {cap : Nat} {l : List Rc} (h : RIn w A cap l) (hn : A = none → cap = 0) : Src w (.slice A l.length cap) l.length (rcells l) := by
  cases A with
  | none =>
    have h1 := hn rfl
    have h2 := h.room
    have h3 : l.length = 0 := by omega
    obtain rfl := List.length_eq_zero_iff.1 h3
    exact Or.inl ⟨by rw [h1]; rfl, rfl, rfl⟩
  | some ad =>
    refine Or.inr ⟨ad, cap, rfl, rcells_len l, fun j u hu => ?_, rcells_one l⟩
    have hj := rcells_back l j u hu
    obtain ⟨b, o, e, hb, hc⟩ := h.row (by omega)
    injection e with e
    subst e
    obtain ⟨c0, c1, c2, c3⟩ := hc _ hj
    obtain ⟨d0, d1, d2, d3⟩ := rcells_at l _ hj
    have hadd : (⟨b, o, none⟩ : Addr).add j = ⟨b, o + j, none⟩ := by unfold Addr.add; split <;> simp_all
    rw [hadd]
    have hm : j % 4 = 0 ∨ j % 4 = 1 ∨ j % 4 = 2 ∨ j % 4 = 3 := by omega
    rcases hm with hm | hm | hm | hm
    · rw [show j = j / 4 * 4 by omega] at hu ⊢
      rw [d0] at hu; rw [c0]; exact hu
    · rw [show j = j / 4 * 4 + 1 by omega] at hu ⊢
      rw [d1] at hu; rw [← Nat.add_assoc, c1]; exact hu
    · rw [show j = j / 4 * 4 + 2 by omega] at hu ⊢
      rw [d2] at hu; rw [← Nat.add_assoc, c2]; exact hu
    · rw [show j = j / 4 * 4 + 3 by omega] at hu ⊢
      rw [d3] at hu; rw [← Nat.add_assoc, c3]; exact hu

/-! ### the sets -/
/-- a set of cells and its form. -/
structure FS (F : List Rc) (S : Int → Int → Prop) : Prop where
  form : IsForm F
  cells : ∀ x y, HasL F x y ↔ S x y
theorem FS.eq {F G : List Rc} {S S' : Int → Int → Prop} (h : FS F S) (k : FS G S') (e : ∀ x y, S x y ↔ S' x y) : F = G := form_eq h.form k.form (fun x y => by rw [h.cells, k.cells, e])
theorem FS.ok {F : List Rc} {S : Int → Int → Prop} (h : FS F S) : ∀ r ∈ F, ROk r := form_ok h.form
theorem op_cap {op : Bool → Bool → Bool} {P Q : List Rc} (hp : RegP P) (hq : RegP Q) : opR op P Q = capR (formO op P Q) := if_pos ⟨hp, hq⟩
theorem cap_le {F : List Rc} (h : F.length ≤ 200) : capR F = (F, 0) := if_pos h
end Go.Proofs.YtdnoadngfkiabaaGreat
