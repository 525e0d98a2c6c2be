/-
  SolidSections: the law's walk.
-/
import Derived.Test.YteecfgdicckplaaBi
import Derived.Test.YteecfgdicckplaaBd
import Derived.Lib.MinMax
set_option linter.unusedVariables false
set_option maxRecDepth 100000
namespace Go.Proofs.Yteecfgdicckplaa
open Go.RowKit

def Rr9 (R : List Rc) (m : Nat) (w : World) (e : Ending) (w' : World) : Prop := ∃ A c, e = .returned (.slice A m c) ∧ RIn w' A c R ∧ Below w.heap.size w w'
def Sec9 (P : List Sl) (n : Nat) (z : Int) (R : List Rc) (m : Nat) : Prop := ∀ (w' : World) (A1 : Option Addr) (c1 : Nat), SIn w' A1 c1 P → Calls Try.prog 21 #[.slice A1 n c1, .int .i64 z] w' (Rr9 R m w')
def Rcs9 (R : List Rc) (m : Nat) (Q : List Rc) (k : Nat) (b : Bool) : Prop := ∀ (w' : World) (A1 : Option Addr) (c1 : Nat) (A2 : Option Addr) (c2 : Nat), RIn w' A1 c1 R → RIn w' A2 c2 Q → Calls Try.prog 20 #[.slice A1 m c1, .slice A2 k c2] w' (BlIs b w')
theorem sec9_of {P : List Sl} (h : SolP P) (z : Int) {R : List Rc} (e : secS P z = R) : Sec9 P P.length z R R.length := fun w' A1 c1 h1 => (bsection_yes h1 h z).mono fun e w2 hk => by
  subst R
  obtain ⟨v, rfl, ho, hb⟩ := hk
  obtain ⟨A', c', rfl, _⟩ := own_rects ho
  have := (sol_reg h z).2
  exact ⟨A', c', rfl, own_rin ho (by omega), hb⟩
theorem rcs9_of (R Q : List Rc) {b : Bool} (hb : b = decide (R = Q)) : Rcs9 R R.length Q Q.length b := fun w' A1 c1 A2 c2 h1 h2 => by
  rw [hb]; exact crects_any A1 c1 A2 c2 R Q w' h1.row h2.row h1.len h2.len
def BxC9 (w : World) (p : Nat) (u : Bx) : Prop := (w.cell? ⟨p, 0, none⟩ = some (.int .i64 u.r.X0) ∧ w.cell? ⟨p, 1, none⟩ = some (.int .i64 u.r.Y0) ∧ w.cell? ⟨p, 2, none⟩ = some (.int .i64 u.r.X1)) ∧ w.cell? ⟨p, 3, none⟩ = some (.int .i64 u.r.Y1) ∧ w.cell? ⟨p, 4, none⟩ = some (.int .i64 u.z0) ∧ w.cell? ⟨p, 5, none⟩ = some (.int .i64 u.z1) ∧ p < w.heap.size
theorem BxC9.new (w : World) (u : Bx) : BxC9 (w.alloc (.cells #[.int .i64 u.r.X0, .int .i64 u.r.Y0, .int .i64 u.r.X1, .int .i64 u.r.Y1, .int .i64 u.z0, .int .i64 u.z1] 39)) w.heap.size u := by
  have h0 := heap_alloc_new w (.cells #[.int .i64 u.r.X0, .int .i64 u.r.Y0, .int .i64 u.r.X1, .int .i64 u.r.Y1, .int .i64 u.z0, .int .i64 u.z1] 39)
  refine ⟨⟨?_, ?_, ?_⟩, ?_, ?_, ?_, (Array.getElem?_eq_some_iff.1 h0).1⟩ <;> (rw [Lib.cell_of_heap h0]; rfl)
theorem BxC9.kept {w w' : World} {p : Nat} {u : Bx} (h : BxC9 w p u) (hb : w'.heap[p]? = w.heap[p]?) (hs : w.heap.size ≤ w'.heap.size) : BxC9 w' p u := by
  obtain ⟨⟨h0, h1, h2⟩, h3, h4, h5, h6⟩ := h
  have c := fun i => World.cell?_of_block (w := w) (w' := w') (a := ⟨p, i, none⟩) hb
  exact ⟨⟨(c 0).trans h0, (c 1).trans h1, (c 2).trans h2⟩, (c 3).trans h3, (c 4).trans h4, (c 5).trans h5, Nat.lt_of_lt_of_le h6 hs⟩
theorem BxC9.alloc {w : World} {p : Nat} {u : Bx} (h : BxC9 w p u) (o : Obj) : BxC9 (w.alloc o) p u := by
  have h6 := h.2.2.2.2
  refine h.kept (((Below.refl w.heap.size w).alloc (Nat.le_refl _) o).block p h6) ((Below.refl w.heap.size w).alloc (Nat.le_refl _) o).size
def Vy (p o : Nat) (u : Sl) (w0 w : World) : Prop := w.cell? ⟨p, o, none⟩ = some (.int .i64 u.z0) ∧ w.cell? ⟨p, o + 1, none⟩ = some (.int .i64 u.z1) ∧ p < w.heap.size ∧ Hid (Below w0.heap.size w0 w)
theorem Vy.go {p o : Nat} {u : Sl} {w0 w w' : World} (h : Vy p o u w0 w) (hb : Below w.heap.size w w') : Vy p o u w0 w' := by
  obtain ⟨h0, h1, h6, h8⟩ := h
  have cp := fun i => hb.cell (p := ⟨p, i, none⟩) h6
  exact ⟨(cp _).trans h0, (cp _).trans h1, Nat.lt_of_lt_of_le h6 hb.size, Lib.hid (h8.out.trans (hb.mono h8.out.size))⟩
theorem Vy.drewN {p o : Nat} {u : Sl} {w0 w : World} (h : Vy p o u w0 w) (n : Nat) : Vy p o u w0 (w.drewN n) := h.go (below_drewN (Below.refl _ _) n)
theorem vol_take {S : List Sl} (h : SolP S) {k : Nat} (hk : k < S.length) : 0 ≤ volS (S.take k) ∧ volS (S.take k) ≤ 400000000000000000 := by
  have hlen := h.len
  have hvk : 0 ≤ volS (S.take k) ∧ volS (S.take k) ≤ (S.take k).length * 4503599627370496 := by
    refine vol_bd (sform_of (fun j hj => ?_) (fun j hj => ?_))
    · rw [List.getElem_take]; exact h.form.each _ (List.getElem_mem _)
    · rw [List.getElem_take, List.getElem_take]; exact sform_pair h.form j (by rw [List.length_take] at hj; omega)
  rw [List.length_take] at hvk
  omega
set_option maxHeartbeats 80000000 in
theorem sections_core (A : Option Addr) (c : Nat) (l : List Bx) (S : List Sl) (R : List Rc) (nR : Nat) (x y z : Int) (hv : Bool) (w : World) (h : BIn w A c l) (hn : l.length ≤ 8) (hs : SolP S)
    (HSM : Hid (Calls Try.prog 8 #[] w (BlIs true w)))
    (HO : Hid (Of9 l l.length S S.length 0))
    (HG : Hid (∀ (w' : World) (A1 : Option Addr) (c1 : Nat), RRow w' A1 (basesB l z) → Calls Try.prog 19 #[.slice A1 (basesB l z).length c1] w' (RR R nR 0 w')))
    (HSE : Hid (Sec9 S S.length z R nR)) (HRR : Hid (Rcs9 R nR R nR true))
    (HTO : Hid (∀ (w' : World) (A1 : Option Addr) (c1 : Nat), SIn w' A1 c1 S → Calls Try.prog 22 #[.slice A1 S.length c1, .int .i64 x, .int .i64 y] w' (InIs (topB l x y) w')))
    (HHA : Hid (∀ (w' : World) (A1 : Option Addr) (c1 : Nat), SIn w' A1 c1 S → Calls Try.prog 16 #[.slice A1 S.length c1, .int .i64 x, .int .i64 y, .int .i64 z] w' (BlIs hv w')))
    (HGH : Hid (∀ (w' : World) (A1 : Option Addr) (c1 : Nat), RIn w' A1 c1 R → Calls Try.prog 23 #[.slice A1 nR c1, .int .i64 x, .int .i64 y] w' (BlIs hv w')))
    (HVO : Hid (Vol9 S S.length (volS S))) :
    Calls Try.prog 5 #[.slice A l.length c, .int .i64 x, .int .i64 y, .int .i64 z] w (BlIs true w) := by
  have KA := Lib.hid h
  have HS := Lib.hid hs
  have hlS := hs.len
  have m1 : ¬ (8 : Int) < (l.length : Int) := by omega
  obtain ⟨i0, hi9, hz0, hz1, hz2⟩ := info_parts infoRect
  clear h hs
  go_enter Try.func5, Try.ntmps5
  go_wp2_with fail
  refine HSM.out.mono ?_
  rintro e0 w0 ⟨rfl, hb0⟩
  have B0 := Lib.hid hb0
  clear hb0 HSM
  go_wp2_with fail
  refine (HO.out _ _ _ (KA.out.below B0.out).row).mono ?_
  rintro e1 wB ⟨A2, c2, rfl, hr2, hb1⟩
  have BB := Lib.hid (B0.out.trans (hb1.mono B0.out.size))
  have HBI := Lib.hid (KA.out.below BB.out)
  have HSI := Lib.hid hr2
  have HST : Hid (SolP S) := HS
  clear hb1 hr2 KA B0 HO
  have K0 : Hid (GW9 (.slice none 0 0) (basesB (l.take 0) z) wB wB) := Lib.hid ⟨World.ownsRow_nil _ _ _ _, Below.refl _ _⟩
  go_wp2_with fail
  go_loopw [12, 13, 14] (fun v t i wr => ∃ (k : Nat) (v0 : Value), k ≤ l.length ∧ i = .int .i64 k ∧ v0 = v ∧ t = .int .i64 (topB (l.take k) x y) ∧ Hid (GW9 v0 (basesB (l.take k) z) wB wr)) (fun _ _ i _ => l.length - (intOf i).toNat)
  case atStart => exact ⟨0, _, Nat.zero_le _, rfl, rfl, rfl, K0⟩
  case round =>
    clear K0
    obtain ⟨k, v, hk, rfl, rfl, rfl, HK⟩ := hrel
    by_cases hlt : k < l.length
    · obtain ⟨b1, o1, rfl, hb1, hv1⟩ := HBI.out.row (by omega)
      obtain ⟨x0, x1, x2, x3, x4, x5⟩ := hv1 k hlt
      have wc := fun o => HK.out.bel.cell (p := ⟨b1, o, none⟩) hb1
      have x0 := (wc _).trans x0; have x1 := (wc _).trans x1; have x2 := (wc _).trans x2; have x3 := (wc _).trans x3; have x4 := (wc _).trans x4; have x5 := (wc _).trans x5
      have hbs := HK.out.bel.size
      have hbw : b1 < wr.heap.size := Nat.lt_of_lt_of_le hb1 hbs
      have n0 : (0 : Int) ≤ (k : Int) := by omega
      have n1 : (k : Int) < (l.length : Int) := by omega
      have HN := Lib.hid (bases_next l z k hlt)
      have HT := Lib.hid (topB_next l k hlt x y)
      have hfl := bases_len (l.take k) z
      rw [List.length_take] at hfl
      have hfl : (basesB (l.take k) z).length ≤ 1000000 := by omega
      clear hv1 wc
      obtain ⟨u, hu⟩ : ∃ u, u = l[k] := ⟨_, rfl⟩
      rw [← hu] at x0 x1 x2 x3 x4 x5 HN HT
      clear hu
      generalize basesB (l.take k) z = F at *
      generalize topB (l.take k) x y = tv at *
      clear HG HSE HRR HTO HHA HGH HVO
      by_cases ca : u.z0 ≤ z
      · by_cases cb : z < u.z1
        · have HN2 : Hid (basesB (l.take (k + 1)) z = F ++ [u.r]) := Lib.hid (by rw [HN.out, if_pos ⟨ca, cb⟩])
          have HOW := Lib.hid HK.out.own
          have hne : ∀ q, v.ownBlock = some q → q < wr.heap.size := fun q hq => (HOW.out.lt q hq).2
          have HNQ := Lib.hid hne
          clear HN hne
          go_wp2_with (at_builtin; refine wpList_append_own _ rfl _ _ 41 rfl wB.heap.size 37 i0 (.agg #[.int .i64 0, .int .i64 0, .int .i64 0, .int .i64 0]) 4 32 Try.underlying41 hi9 hz0 hz1 hz2 rfl (by decide) _ _ _ rfl ((HOW.out.alloc _).alloc _) ⟨wr.heap.size + 1, 0, none⟩ 1 1 [.int .i64 u.r.X0, .int .i64 u.r.Y0, .int .i64 u.r.X1, .int .i64 u.r.Y1] rfl rfl ?c1 ?c2 ?c3 ?c4 ?c5 ?_)
          case c1 =>
            intro t u ht
            match t, ht with
            | 0, ht => simp at ht; subst ht; simp [Addr.add]
            | 1, ht => simp at ht; subst ht; simp [Addr.add]
            | 2, ht => simp at ht; subst ht; simp [Addr.add]
            | 3, ht => simp at ht; subst ht; simp [Addr.add]
          case c2 => intro u hu; simp only [List.mem_cons, List.not_mem_nil, or_false] at hu; rcases hu with rfl | rfl | rfl | rfl <;> rfl
          case c3 => unfold maxLen; omega
          case c4 => omega
          case c5 => simp; omega
          intro v' w4 hown' hgr _
          have HX : Hid (GW9 v' (basesB (l.take (k + 1)) z) wB w4) := Lib.hid ⟨by rw [HN2.out, rcells_append, List.length_append]; exact hown', Below.grown ((HK.out.bel.alloc hbs _).alloc (by simp; omega) _) hgr (by simp; omega) (fun k hk => (HOW.out.lt k hk).1)⟩
          have hat : BxC9 w4 wr.heap.size u := ((BxC9.new wr u).alloc _).kept (hgr.block wr.heap.size (by simp; omega) (fun e => by have := HNQ.out _ e.symm; omega)) hgr.size
          obtain ⟨⟨y0, y1, y2⟩, y3, y4, y5, y6⟩ := hat
          clear hown' hgr HOW HK HN2 HNQ x0 x1 x2 x3 x4 x5
          by_cases d0 : ¬ (u.r.X0 ≤ x)
          · have HT2 := Lib.hid (HT.out.trans (if_neg (fun h => d0 (h.1)))); clear HT
            go_wp2_with fail
            go_roundw
            case rel => exact ⟨k + 1, _, by omega, by go_num, rfl, by rw [HT2.out], HX⟩
            case measure => simp [intOf]; omega
          rw [Classical.not_not] at d0
          by_cases d1 : ¬ (x < u.r.X1)
          · have HT2 := Lib.hid (HT.out.trans (if_neg (fun h => d1 (h.2.1)))); clear HT
            go_wp2_with fail
            go_roundw
            case rel => exact ⟨k + 1, _, by omega, by go_num, rfl, by rw [HT2.out], HX⟩
            case measure => simp [intOf]; omega
          rw [Classical.not_not] at d1
          by_cases d2 : ¬ (u.r.Y0 ≤ y)
          · have HT2 := Lib.hid (HT.out.trans (if_neg (fun h => d2 (h.2.2.1)))); clear HT
            go_wp2_with fail
            go_roundw
            case rel => exact ⟨k + 1, _, by omega, by go_num, rfl, by rw [HT2.out], HX⟩
            case measure => simp [intOf]; omega
          rw [Classical.not_not] at d2
          by_cases d3 : ¬ (y < u.r.Y1)
          · have HT2 := Lib.hid (HT.out.trans (if_neg (fun h => d3 (h.2.2.2)))); clear HT
            go_wp2_with fail
            go_roundw
            case rel => exact ⟨k + 1, _, by omega, by go_num, rfl, by rw [HT2.out], HX⟩
            case measure => simp [intOf]; omega
          rw [Classical.not_not] at d3
          have HT2 := Lib.hid (HT.out.trans (if_pos ⟨d0, d1, d2, d3⟩)); clear HT
          go_wp2_with fail
          go_roundw
          case rel => exact ⟨k + 1, _, by omega, by go_num, rfl, by rw [HT2.out], HX⟩
          case measure => simp [intOf]; omega
        · have HX : Hid (∀ o, GW9 v (basesB (l.take (k + 1)) z) wB (wr.alloc o)) := Lib.hid (fun o => ⟨by rw [HN.out, if_neg (fun h => cb h.2), List.append_nil]; exact HK.out.own.alloc _, HK.out.bel.alloc hbs _⟩)
          clear HN HK
          by_cases d0 : ¬ (u.r.X0 ≤ x)
          · have HT2 := Lib.hid (HT.out.trans (if_neg (fun h => d0 (h.1)))); clear HT
            go_wp2_with fail
            go_roundw
            case rel => exact ⟨k + 1, _, by omega, by go_num, rfl, by rw [HT2.out], Lib.hid (HX.out _)⟩
            case measure => simp [intOf]; omega
          rw [Classical.not_not] at d0
          by_cases d1 : ¬ (x < u.r.X1)
          · have HT2 := Lib.hid (HT.out.trans (if_neg (fun h => d1 (h.2.1)))); clear HT
            go_wp2_with fail
            go_roundw
            case rel => exact ⟨k + 1, _, by omega, by go_num, rfl, by rw [HT2.out], Lib.hid (HX.out _)⟩
            case measure => simp [intOf]; omega
          rw [Classical.not_not] at d1
          by_cases d2 : ¬ (u.r.Y0 ≤ y)
          · have HT2 := Lib.hid (HT.out.trans (if_neg (fun h => d2 (h.2.2.1)))); clear HT
            go_wp2_with fail
            go_roundw
            case rel => exact ⟨k + 1, _, by omega, by go_num, rfl, by rw [HT2.out], Lib.hid (HX.out _)⟩
            case measure => simp [intOf]; omega
          rw [Classical.not_not] at d2
          by_cases d3 : ¬ (y < u.r.Y1)
          · have HT2 := Lib.hid (HT.out.trans (if_neg (fun h => d3 (h.2.2.2)))); clear HT
            go_wp2_with fail
            go_roundw
            case rel => exact ⟨k + 1, _, by omega, by go_num, rfl, by rw [HT2.out], Lib.hid (HX.out _)⟩
            case measure => simp [intOf]; omega
          rw [Classical.not_not] at d3
          have HT2 := Lib.hid (HT.out.trans (if_pos ⟨d0, d1, d2, d3⟩)); clear HT
          go_wp2_with fail
          go_roundw
          case rel => exact ⟨k + 1, _, by omega, by go_num, rfl, by rw [HT2.out], Lib.hid (HX.out _)⟩
          case measure => simp [intOf]; omega
      · have HX : Hid (∀ o, GW9 v (basesB (l.take (k + 1)) z) wB (wr.alloc o)) := Lib.hid (fun o => ⟨by rw [HN.out, if_neg (fun h => ca h.1), List.append_nil]; exact HK.out.own.alloc _, HK.out.bel.alloc hbs _⟩)
        clear HN HK
        by_cases d0 : ¬ (u.r.X0 ≤ x)
        · have HT2 := Lib.hid (HT.out.trans (if_neg (fun h => d0 (h.1)))); clear HT
          go_wp2_with fail
          go_roundw
          case rel => exact ⟨k + 1, _, by omega, by go_num, rfl, by rw [HT2.out], Lib.hid (HX.out _)⟩
          case measure => simp [intOf]; omega
        rw [Classical.not_not] at d0
        by_cases d1 : ¬ (x < u.r.X1)
        · have HT2 := Lib.hid (HT.out.trans (if_neg (fun h => d1 (h.2.1)))); clear HT
          go_wp2_with fail
          go_roundw
          case rel => exact ⟨k + 1, _, by omega, by go_num, rfl, by rw [HT2.out], Lib.hid (HX.out _)⟩
          case measure => simp [intOf]; omega
        rw [Classical.not_not] at d1
        by_cases d2 : ¬ (u.r.Y0 ≤ y)
        · have HT2 := Lib.hid (HT.out.trans (if_neg (fun h => d2 (h.2.2.1)))); clear HT
          go_wp2_with fail
          go_roundw
          case rel => exact ⟨k + 1, _, by omega, by go_num, rfl, by rw [HT2.out], Lib.hid (HX.out _)⟩
          case measure => simp [intOf]; omega
        rw [Classical.not_not] at d2
        by_cases d3 : ¬ (y < u.r.Y1)
        · have HT2 := Lib.hid (HT.out.trans (if_neg (fun h => d3 (h.2.2.2)))); clear HT
          go_wp2_with fail
          go_roundw
          case rel => exact ⟨k + 1, _, by omega, by go_num, rfl, by rw [HT2.out], Lib.hid (HX.out _)⟩
          case measure => simp [intOf]; omega
        rw [Classical.not_not] at d3
        have HT2 := Lib.hid (HT.out.trans (if_pos ⟨d0, d1, d2, d3⟩)); clear HT
        go_wp2_with fail
        go_roundw
        case rel => exact ⟨k + 1, _, by omega, by go_num, rfl, by rw [HT2.out], Lib.hid (HX.out _)⟩
        case measure => simp [intOf]; omega
    · obtain rfl : k = l.length := by omega
      rw [List.take_length] at HK ⊢
      have ho := HK.out.own
      obtain ⟨A1, c1, hv1, hr1, _⟩ := own_rects ho
      subst hv1
      have HRO := Lib.hid hr1
      have HBR := Lib.hid HK.out.bel
      clear ho hr1 HK HBI
      generalize basesB l z = F at *
      generalize topB l x y = tv at *
      go_wp2_with fail
      refine (HG.out _ _ _ HRO.out).mono ?_
      rintro e3 w3 ⟨A3, c3, rfl, hr3, hb3⟩
      have K3 : Hid (SK9 [(A3, c3, R)] [(A2, c2, S)] wB w3) := Lib.hid (((show SK9 [] [(A2, c2, S)] wB wr from ⟨fun p hp => (by cases hp), fun p hp => (by rw [List.mem_singleton] at hp; subst hp; exact HSI.out.below HBR.out), HBR.out⟩).addR hb3 hr3))
      clear hr3 hb3 HRO HBR HSI HG
      go_wp2_with fail
      refine (HSE.out _ _ _ (K3.out.2.1 _ List.mem_cons_self)).mono ?_
      rintro e4 w4 ⟨A4, c4, rfl, hr4, hb4⟩
      have K4 := Lib.hid (K3.out.addR hb4 hr4)
      clear hr4 hb4 K3 HSE
      go_wp2_with fail
      refine (HRR.out _ _ _ _ _ (K4.out.1 _ List.mem_cons_self) (K4.out.1 _ (List.mem_cons_of_mem _ List.mem_cons_self))).mono ?_
      rintro e5 w5 ⟨rfl, hb5⟩
      have K5 := Lib.hid (K4.out.go hb5); clear hb5 K4 HRR
      go_wp2_with fail
      refine (HTO.out _ _ _ (K5.out.2.1 _ List.mem_cons_self)).mono ?_
      rintro e6 w6 ⟨rfl, hb6⟩
      have K6 := Lib.hid (K5.out.go hb6); clear hb6 K5 HTO
      go_wp2_with fail
      refine (HHA.out _ _ _ (K6.out.2.1 _ List.mem_cons_self)).mono ?_
      rintro e7 w7 ⟨rfl, hb7⟩
      have K7 := Lib.hid (K6.out.go hb7); clear hb7 K6 HHA
      go_wp2_with fail
      refine (HGH.out _ _ _ (K7.out.1 _ (List.mem_cons_of_mem _ List.mem_cons_self))).mono ?_
      rintro e8 w8 ⟨rfl, hb8⟩
      have HS8 := Lib.hid ((K7.out.go hb8).2.1 _ List.mem_cons_self)
      have BW := Lib.hid (BB.out.trans ((K7.out.go hb8).2.2.mono BB.out.size))
      have HB0 := Lib.hid (Below.refl w8.heap.size w8)
      clear hb8 K7 HGH BB
      go_wp2_with fail
      go_loopw [18, 19] (fun s i wr => ∃ k : Nat, k ≤ S.length ∧ i = .int .i64 k ∧ s = .int .i64 (volS (S.take k)) ∧ Hid (Below w8.heap.size w8 wr)) (fun _ i _ => S.length - (intOf i).toNat)
      case atStart => exact ⟨0, Nat.zero_le _, rfl, rfl, HB0⟩
      case round =>
        clear HB0
        obtain ⟨k, hk, rfl, rfl, HB⟩ := hrel
        by_cases hlt : k < S.length
        · obtain ⟨b1, o1, eA, hb1, hv1⟩ := HS8.out.row (by omega)
          subst eA
          obtain ⟨x0, x1, Aj, cj, x2, hr⟩ := hv1 k hlt
          have n0 : (0 : Int) ≤ (k : Int) := by omega
          have n1 : (k : Int) < (S.length : Int) := by omega
          have hmem := List.getElem_mem hlt
          have hok := HST.out.form.each _ hmem
          have hh := hok.h
          unfold HOk at hh
          have HN := Lib.hid (volS_next S k hlt)
          obtain ⟨hw0, hw1⟩ := vol_take HST.out hlt
          have ha0 := area_nnL S[k].ar
          have ha1 := form_grid hok.form
          have hp := prod_bd ha0 ha1 (d := S[k].z1 - S[k].z0) (by omega) (by omega)
          have HRG : Hid (RegP S[k].ar) := Lib.hid ⟨hok.form, HST.out.rects _ hmem⟩
          have D1 := Lib.hid (sec9_of HST.out S[k].z0 (sec_at HST.out.form _ hmem _ (Int.le_refl _) hh.2.1))
          have D2 := Lib.hid (sec9_of HST.out (S[k].z1 - 1) (sec_at HST.out.form _ hmem _ (by omega) (by omega)))
          obtain ⟨Q1, hQ1⟩ : ∃ Q1, secS S S[k].z1 = Q1 := ⟨_, rfl⟩
          obtain ⟨Q0, hQ0⟩ : ∃ Q0, secS S (S[k].z0 - 1) = Q0 := ⟨_, rfl⟩
          have D3 := Lib.hid (sec9_of HST.out S[k].z1 hQ1)
          have D4 := Lib.hid (sec9_of HST.out (S[k].z0 - 1) hQ0)
          have E1 := Lib.hid (rcs9_of S[k].ar S[k].ar (b := true) (by simp))
          have E3 := Lib.hid (rcs9_of Q1 S[k].ar (b := false) (by rw [decide_eq_false (by rw [← hQ1]; exact sec_after HST.out.form _ hmem)]))
          have E4 := Lib.hid (rcs9_of Q0 S[k].ar (b := false) (by rw [decide_eq_false (by rw [← hQ0]; exact sec_before HST.out.form _ hmem)]))
          have HR := Lib.hid hr
          have X0 := Lib.hid x0; have X1 := Lib.hid x1; have X2 := Lib.hid x2
          clear hr hmem hok hv1 hQ1 hQ0 x0 x1 x2
          obtain ⟨u, hu⟩ : ∃ u, u = S[k] := ⟨_, rfl⟩
          rw [← hu] at X0 X1 X2 HN ha0 ha1 hp hh HRG D1 D2 D3 D4 E1 E3 E4 HR
          clear hu
          have q0 : IntKind.i64.wrap (u.z1 - 1) = u.z1 - 1 := IntWalk.i64_in _ (by omega)
          have q4 : IntKind.i64.wrap (u.z0 - 1) = u.z0 - 1 := IntWalk.i64_in _ (by omega)
          have q1 : IntKind.i64.wrap (u.z1 - u.z0) = u.z1 - u.z0 := IntWalk.i64_in _ (by omega)
          obtain ⟨pr, hpr⟩ : ∃ pr, pr = areaL u.ar * (u.z1 - u.z0) := ⟨_, rfl⟩
          rw [← hpr] at HN hp
          have q2 : IntKind.i64.wrap ((u.z1 - u.z0) * areaL u.ar) = pr := by rw [Int.mul_comm, ← hpr]; exact IntWalk.i64_in _ (by omega)
          have HPR := Lib.hid hpr; clear hpr
          have HAC := Lib.hid (fun (w' : World) (A' : Option Addr) (c' : Nat) (h : RIn w' A' c' u.ar) => garea_yes A' c' u.ar w' h HRG.out)
          generalize areaL u.ar = ar at *
          generalize u.ar.length = nar at *
          generalize Q1.length = nq1 at *
          generalize Q0.length = nq0 at *
          obtain ⟨sm, hsm⟩ : ∃ sm, sm = volS (S.take k) := ⟨_, rfl⟩
          rw [← hsm] at HN hw0 hw1 ⊢
          clear hsm
          have q3 : IntKind.i64.wrap (sm + pr) = sm + pr := IntWalk.i64_in _ (by omega)
          clear hh ha0 ha1 hp hw0 hw1 HRG HVO
          have wc := fun o => HB.out.cell (p := ⟨b1, o, none⟩) hb1
          have x0 := (wc _).trans X0.out; have x1 := (wc _).trans X1.out; have x2 := (wc _).trans X2.out
          have hbw : b1 < wr.heap.size := Nat.lt_of_lt_of_le hb1 HB.out.size
          clear wc
          go_wp2_with fail
          refine (D1.out _ _ _ (HS8.out.below HB.out)).mono ?_
          rintro e1 q1w ⟨Aa, caa, rfl, hra, hba⟩
          have HB1 := Lib.hid (HB.out.trans (hba.mono HB.out.size))
          have HA1 := Lib.hid hra
          clear hra hba x0 x1 x2 hbw HB
          have wc := fun o => HB1.out.cell (p := ⟨b1, o, none⟩) hb1
          have x0 := (wc _).trans X0.out; have x1 := (wc _).trans X1.out; have x2 := (wc _).trans X2.out
          have hbw : b1 < q1w.heap.size := Nat.lt_of_lt_of_le hb1 HB1.out.size
          clear wc
          go_wp2_with fail
          refine (E1.out _ _ _ _ _ HA1.out (HR.out.below HB1.out)).mono ?_
          rintro e2 q2w ⟨rfl, hb⟩
          have HB2 := Lib.hid (HB1.out.trans (hb.mono HB1.out.size))
          have HA2 := Lib.hid (HA1.out.below hb)
          clear hb x0 x1 x2 hbw HB1 HA1
          have wc := fun o => HB2.out.cell (p := ⟨b1, o, none⟩) hb1
          have x0 := (wc _).trans X0.out; have x1 := (wc _).trans X1.out; have x2 := (wc _).trans X2.out
          have hbw : b1 < q2w.heap.size := Nat.lt_of_lt_of_le hb1 HB2.out.size
          clear wc
          go_wp2_with fail
          refine (D2.out _ _ _ (HS8.out.below HB2.out)).mono ?_
          rintro e3 q3w ⟨Ab3, cb3, rfl, hra, hba⟩
          have HB3 := Lib.hid (HB2.out.trans (hba.mono HB2.out.size))
          have HA3 := Lib.hid (HA2.out.below hba)
          have HC3 := Lib.hid hra
          clear hra hba x0 x1 x2 hbw HB2 HA2
          have wc := fun o => HB3.out.cell (p := ⟨b1, o, none⟩) hb1
          have x0 := (wc _).trans X0.out; have x1 := (wc _).trans X1.out; have x2 := (wc _).trans X2.out
          have hbw : b1 < q3w.heap.size := Nat.lt_of_lt_of_le hb1 HB3.out.size
          clear wc
          go_wp2_with fail
          refine (E1.out _ _ _ _ _ HC3.out HA3.out).mono ?_
          rintro e4 q4w ⟨rfl, hb⟩
          have HB4 := Lib.hid (HB3.out.trans (hb.mono HB3.out.size))
          have HA4 := Lib.hid (HA3.out.below hb)
          clear hb x0 x1 x2 hbw HB3 HA3 HC3
          have wc := fun o => HB4.out.cell (p := ⟨b1, o, none⟩) hb1
          have x0 := (wc _).trans X0.out; have x1 := (wc _).trans X1.out; have x2 := (wc _).trans X2.out
          have hbw : b1 < q4w.heap.size := Nat.lt_of_lt_of_le hb1 HB4.out.size
          clear wc
          go_wp2_with fail
          refine (D3.out _ _ _ (HS8.out.below HB4.out)).mono ?_
          rintro e5 q5w ⟨Ab5, cb5, rfl, hra, hba⟩
          have HB5 := Lib.hid (HB4.out.trans (hba.mono HB4.out.size))
          have HA5 := Lib.hid (HA4.out.below hba)
          have HC5 := Lib.hid hra
          clear hra hba x0 x1 x2 hbw HB4 HA4
          have wc := fun o => HB5.out.cell (p := ⟨b1, o, none⟩) hb1
          have x0 := (wc _).trans X0.out; have x1 := (wc _).trans X1.out; have x2 := (wc _).trans X2.out
          have hbw : b1 < q5w.heap.size := Nat.lt_of_lt_of_le hb1 HB5.out.size
          clear wc
          go_wp2_with fail
          refine (E3.out _ _ _ _ _ HC5.out HA5.out).mono ?_
          rintro e6 q6w ⟨rfl, hb⟩
          have HB6 := Lib.hid (HB5.out.trans (hb.mono HB5.out.size))
          have HA6 := Lib.hid (HA5.out.below hb)
          clear hb x0 x1 x2 hbw HB5 HA5 HC5
          have wc := fun o => HB6.out.cell (p := ⟨b1, o, none⟩) hb1
          have x0 := (wc _).trans X0.out; have x1 := (wc _).trans X1.out; have x2 := (wc _).trans X2.out
          have hbw : b1 < q6w.heap.size := Nat.lt_of_lt_of_le hb1 HB6.out.size
          clear wc
          go_wp2_with fail
          refine (D4.out _ _ _ (HS8.out.below HB6.out)).mono ?_
          rintro e7 q7w ⟨Ab7, cb7, rfl, hra, hba⟩
          have HB7 := Lib.hid (HB6.out.trans (hba.mono HB6.out.size))
          have HA7 := Lib.hid (HA6.out.below hba)
          have HC7 := Lib.hid hra
          clear hra hba x0 x1 x2 hbw HB6 HA6
          have wc := fun o => HB7.out.cell (p := ⟨b1, o, none⟩) hb1
          have x0 := (wc _).trans X0.out; have x1 := (wc _).trans X1.out; have x2 := (wc _).trans X2.out
          have hbw : b1 < q7w.heap.size := Nat.lt_of_lt_of_le hb1 HB7.out.size
          clear wc
          go_wp2_with fail
          refine (E4.out _ _ _ _ _ HC7.out HA7.out).mono ?_
          rintro e8 q8w ⟨rfl, hb⟩
          have HB8 := Lib.hid (HB7.out.trans (hb.mono HB7.out.size))
          have HA8 := Lib.hid (HA7.out.below hb)
          clear hb x0 x1 x2 hbw HB7 HA7 HC7
          have wc := fun o => HB8.out.cell (p := ⟨b1, o, none⟩) hb1
          have x0 := (wc _).trans X0.out; have x1 := (wc _).trans X1.out; have x2 := (wc _).trans X2.out
          have hbw : b1 < q8w.heap.size := Nat.lt_of_lt_of_le hb1 HB8.out.size
          clear wc
          have E0 : Vy b1 (o1 + k * 3) u w8 q8w := ⟨x0, x1, hbw, HB8⟩
          have E0 := Lib.hid E0
          have HGA := Lib.hid (fun (w' : World) (hb : Below q8w.heap.size q8w w') => HAC.out w' _ _ (HA8.out.below hb))
          have HBQ := Lib.hid (Below.refl q8w.heap.size q8w)
          clear HAC D1 D2 D3 D4 E1 E3 E4 X2 x2 HR HS8
          go_wp2_with fail
          go_region_held3 (fun w' => w'.cell? ⟨b1, o1 + k * 3, none⟩ = some (.int .i64 u.z0) ∧ w'.cell? ⟨b1, o1 + k * 3 + 1, none⟩ = some (.int .i64 u.z1) ∧ b1 < w'.heap.size ∧ Hid (Below w8.heap.size w8 w'))
            (first | exact E0.out | exact Vy.drewN E0.out 1 | exact Vy.go ‹_› ‹_› | assumption)
            (first | (go_at_call 24; refine (HGA.out _ HBQ.out.drew).mono ?_; rintro e w' ⟨rfl, hb⟩) | fail)
          have E2 : Vy b1 (o1 + k * 3) u w8 w' := by assumption
          have HB9 := E2.2.2.2
          clear E0 E2
          go_wp2_with fail
          go_roundw
          case rel => exact ⟨k + 1, by omega, by go_num, by rw [HN.out], HB9⟩
          case measure => simp [intOf]; omega
        · obtain rfl : k = S.length := by omega
          rw [List.take_length]
          have HV := Lib.hid (HVO.out _ _ _ (HS8.out.below HB.out))
          clear HVO
          generalize volS S = ar at *
          go_wp2_with fail
          refine HV.out.mono ?_
          rintro e9 w9 ⟨rfl, hb9⟩
          have HBE := Lib.hid (BW.out.trans ((HB.out.trans (hb9.mono HB.out.size)).mono BW.out.size))
          clear hb9
          go_wp2_with fail
          go_ret
          exact ⟨rfl, HBE.out⟩
end Go.Proofs.Yteecfgdicckplaa
