/-
  The walk of RectCells.
-/
import Derived.Test.YtpbkmphpgjdpfaaFn
import Derived.Test.YtpbkmphpgjdpfaaFc
import Derived.Lib.MinMax
import Derived.IntWalk
set_option linter.unusedVariables false
set_option maxRecDepth 100000
namespace Go.Proofs.Ytpbkmphpgjdpfaa
open Go.RowKit

theorem cells_out (a b : Rc) (h : 7 < a.X1 ∨ (¬ 7 < a.X1 ∧ 7 < a.Y1) ∨ (¬ 7 < a.X1 ∧ ¬ 7 < a.Y1 ∧ 7 < b.X1) ∨ (¬ 7 < a.X1 ∧ ¬ 7 < a.Y1 ∧ ¬ 7 < b.X1 ∧ 7 < b.Y1)) (w : World) :
    Calls Try.prog 7 #[.agg #[.int .i64 a.X0, .int .i64 a.Y0, .int .i64 a.X1, .int .i64 a.Y1], .agg #[.int .i64 b.X0, .int .i64 b.Y0, .int .i64 b.X1, .int .i64 b.Y1]] w (BlIs true w) := by
  rcases h with h | ⟨h1, h⟩ | ⟨h1, h2, h⟩ | ⟨h1, h2, h3, h⟩
  all_goals
    have K0 := Lib.hid (two a b w)
    go_enter Try.func7, Try.ntmps7
    go_wp2_with fail
    refine (small_any _).mono ?_
    rintro e1 w1 ⟨rfl, hb⟩
    have K1 := Lib.hid (K0.out.go hb); clear hb K0
    have c_a0 := K1.out.2.1.c0; have c_a1 := K1.out.2.1.c1; have c_a2 := K1.out.2.1.c2; have c_a3 := K1.out.2.1.c3; have c_al := K1.out.2.1.lt; have c_b0 := K1.out.1.c0; have c_b1 := K1.out.1.c1; have c_b2 := K1.out.1.c2; have c_b3 := K1.out.1.c3; have c_bl := K1.out.1.lt
    go_wp2_with fail
    go_ret
    exact ⟨rfl, K1.out.below⟩
set_option maxHeartbeats 4000000 in
theorem cells_o5 (a b : Rc) (h1 : ¬ 7 < a.X1) (h2 : ¬ 7 < a.Y1) (h3 : ¬ 7 < b.X1) (h4 : ¬ 7 < b.Y1) (oa : rokB ⟨a.X0, a.Y0, a.X1, a.Y1⟩ = false) (w : World) :
    Calls Try.prog 7 #[.agg #[.int .i64 a.X0, .int .i64 a.Y0, .int .i64 a.X1, .int .i64 a.Y1], .agg #[.int .i64 b.X0, .int .i64 b.Y0, .int .i64 b.X1, .int .i64 b.Y1]] w (BlIs true w) := by
  have K0 := Lib.hid (two a b w)
  go_enter Try.func7, Try.ntmps7
  go_wp2_with fail
  refine (small_any _).mono ?_
  rintro e1 w1 ⟨rfl, hb⟩
  have K1 := Lib.hid (K0.out.go hb); clear hb K0
  have c_a0 := K1.out.2.1.c0; have c_a1 := K1.out.2.1.c1; have c_a2 := K1.out.2.1.c2; have c_a3 := K1.out.2.1.c3; have c_al := K1.out.2.1.lt; have c_b0 := K1.out.1.c0; have c_b1 := K1.out.1.c1; have c_b2 := K1.out.1.c2; have c_b3 := K1.out.1.c3; have c_bl := K1.out.1.lt
  go_wp2_with fail
  refine (tright_nd _ _ _ _ _).mono ?_
  rintro e1 w2 ⟨rfl, hb⟩
  have K2 := Lib.hid (K1.out.go hb); clear hb K1 c_a0 c_a1 c_a2 c_a3 c_al c_b0 c_b1 c_b2 c_b3 c_bl
  go_wp2_with fail
  go_ret
  exact ⟨rfl, K2.out.below⟩
set_option maxHeartbeats 4000000 in
theorem cells_o6 (a b : Rc) (h1 : ¬ 7 < a.X1) (h2 : ¬ 7 < a.Y1) (h3 : ¬ 7 < b.X1) (h4 : ¬ 7 < b.Y1) (oa : rokB ⟨a.X0, a.Y0, a.X1, a.Y1⟩ = true) (ob : rokB ⟨b.X0, b.Y0, b.X1, b.Y1⟩ = false) (w : World) :
    Calls Try.prog 7 #[.agg #[.int .i64 a.X0, .int .i64 a.Y0, .int .i64 a.X1, .int .i64 a.Y1], .agg #[.int .i64 b.X0, .int .i64 b.Y0, .int .i64 b.X1, .int .i64 b.Y1]] w (BlIs true w) := by
  have K0 := Lib.hid (two a b w)
  go_enter Try.func7, Try.ntmps7
  go_wp2_with fail
  refine (small_any _).mono ?_
  rintro e1 w1 ⟨rfl, hb⟩
  have K1 := Lib.hid (K0.out.go hb); clear hb K0
  have c_a0 := K1.out.2.1.c0; have c_a1 := K1.out.2.1.c1; have c_a2 := K1.out.2.1.c2; have c_a3 := K1.out.2.1.c3; have c_al := K1.out.2.1.lt; have c_b0 := K1.out.1.c0; have c_b1 := K1.out.1.c1; have c_b2 := K1.out.1.c2; have c_b3 := K1.out.1.c3; have c_bl := K1.out.1.lt
  go_wp2_with fail
  refine (tright_nd _ _ _ _ _).mono ?_
  rintro e1 w2 ⟨rfl, hb⟩
  have K2 := Lib.hid (K1.out.go hb); clear hb K1 c_a0 c_a1 c_a2 c_a3 c_al c_b0 c_b1 c_b2 c_b3 c_bl
  have c_b0 := K2.out.1.c0; have c_b1 := K2.out.1.c1; have c_b2 := K2.out.1.c2; have c_b3 := K2.out.1.c3; have c_bl := K2.out.1.lt
  go_wp2_with fail
  refine (tright_nd _ _ _ _ _).mono ?_
  rintro e1 w3 ⟨rfl, hb⟩
  have K3 := Lib.hid (K2.out.go hb); clear hb K2 c_b0 c_b1 c_b2 c_b3 c_bl
  go_wp2_with fail
  go_ret
  exact ⟨rfl, K3.out.below⟩
def bothN (b : Rc) (M : List (Nat × Nat)) : Nat := (M.filter (fun p => decide (HasR b p.1 p.2))).length
theorem bothN_yes {b : Rc} {M : List (Nat × Nat)} {p : Nat × Nat} (h : HasR b p.1 p.2) : bothN b (M ++ [p]) = bothN b M + 1 := by simp [bothN, List.filter_append, h]
theorem bothN_no {b : Rc} {M : List (Nat × Nat)} {p : Nat × Nat} (h : ¬ HasR b p.1 p.2) : bothN b (M ++ [p]) = bothN b M := by simp [bothN, List.filter_append, h]
theorem bothN_le (b : Rc) (M : List (Nat × Nat)) : bothN b M ≤ M.length := List.length_filter_le _ _
theorem take_nextP (l : List (Nat × Nat)) (k : Nat) (h : k < l.length) : l.take (k + 1) = l.take k ++ [l[k]] := by rw [List.take_succ_eq_append_getElem h]
theorem dist_flat (p q : Nat × Nat) : distC p q = max ((p.1 : Int) - q.1) (max ((q.1 : Int) - p.1) (max ((p.2 : Int) - q.2) ((q.2 : Int) - p.2))) := by unfold distC; omega
/-- what the loops keep in memory. -/
structure LS (qc : Nat) (a b c : Rc) (A1 A2 : Option Addr) (L1 L2 : List (Nat × Nat)) (w wr : World) : Prop where
  k : Keep [(qc, c), (w.heap.size + 1, b), (w.heap.size, a)] w wr
  l1 : PRow wr A1 L1
  l2 : PRow wr A2 L2
theorem LS.go {qc : Nat} {a b c : Rc} {A1 A2 : Option Addr} {L1 L2 : List (Nat × Nat)} {w wr w' : World} (h : LS qc a b c A1 A2 L1 L2 w wr) (hb : Below wr.heap.size wr w') : LS qc a b c A1 A2 L1 L2 w w' := ⟨h.k.go hb, h.l1.below hb, h.l2.below hb⟩

set_option maxHeartbeats 60000000 in
theorem cells_core (a b c : Rc) (L1 L2 : List (Nat × Nat)) (n : Nat) (lst : Int) (tch : Bool) (h1 : ¬ 7 < a.X1) (h2 : ¬ 7 < a.Y1) (h3 : ¬ 7 < b.X1) (h4 : ¬ 7 < b.Y1) (oa : rokB ⟨a.X0, a.Y0, a.X1, a.Y1⟩ = true) (ob : rokB ⟨b.X0, b.Y0, b.X1, b.Y1⟩ = true)
    (hn : bothN b L1 = n) (hlst : leastL L1 L2 = lst) (htch : touchL L1 L2 = tch) (hL1 : L1.length ≤ 64) (hL2 : L2.length ≤ 64) (hb1 : ∀ p ∈ L1, p.1 < 8 ∧ p.2 < 8) (hb2 : ∀ p ∈ L2, p.1 < 8 ∧ p.2 < 8)
    (hc : ∀ p ∈ L1, HasR b p.1 p.2 → ∀ w, Calls Try.prog 20 #[.agg #[.int .i64 c.X0, .int .i64 c.Y0, .int .i64 c.X1, .int .i64 c.Y1], .int .i64 (p.1 : Int), .int .i64 (p.2 : Int)] w (BlIs true w))
    (hlb : -100 ≤ lst ∧ lst ≤ 100)
    (HC1 : Hid (∀ w, Calls Try.prog 30 #[.agg #[.int .i64 a.X0, .int .i64 a.Y0, .int .i64 a.X1, .int .i64 a.Y1]] w fun e w' => ∃ v, e = .returned v ∧ CInv a v L1 w w')) (HC2 : Hid (∀ w, Calls Try.prog 30 #[.agg #[.int .i64 b.X0, .int .i64 b.Y0, .int .i64 b.X1, .int .i64 b.Y1]] w fun e w' => ∃ v, e = .returned v ∧ CInv b v L2 w w'))
    (HI : Hid (∀ w, Calls Try.prog 10 #[.agg #[.int .i64 a.X0, .int .i64 a.Y0, .int .i64 a.X1, .int .i64 a.Y1], .agg #[.int .i64 b.X0, .int .i64 b.Y0, .int .i64 b.X1, .int .i64 b.Y1]] w (RbIs (c, decide ((0 : Int) < (n : Int))) w)))
    (HH : Hid (∀ x y w, Calls Try.prog 20 #[.agg #[.int .i64 b.X0, .int .i64 b.Y0, .int .i64 b.X1, .int .i64 b.Y1], .int .i64 x, .int .i64 y] w (BlIs (decide (HasR b x y)) w)))
    (HA1 : Hid (∀ w, Calls Try.prog 18 #[.agg #[.int .i64 a.X0, .int .i64 a.Y0, .int .i64 a.X1, .int .i64 a.Y1]] w (InIs (L1.length : Int) w))) (HA2 : Hid (∀ w, Calls Try.prog 18 #[.agg #[.int .i64 b.X0, .int .i64 b.Y0, .int .i64 b.X1, .int .i64 b.Y1]] w (InIs (L2.length : Int) w))) (HA3 : Hid (∀ w, Calls Try.prog 18 #[.agg #[.int .i64 c.X0, .int .i64 c.Y0, .int .i64 c.X1, .int .i64 c.Y1]] w (InIs (n : Int) w)))
    (HIn : Hid (∀ w, Calls Try.prog 22 #[.agg #[.int .i64 a.X0, .int .i64 a.Y0, .int .i64 a.X1, .int .i64 a.Y1], .agg #[.int .i64 b.X0, .int .i64 b.Y0, .int .i64 b.X1, .int .i64 b.Y1]] w (BlIs ((n : Int) == (L1.length : Int)) w)))
    (HG : Hid (∀ w, Calls Try.prog 26 #[.agg #[.int .i64 a.X0, .int .i64 a.Y0, .int .i64 a.X1, .int .i64 a.Y1], .agg #[.int .i64 b.X0, .int .i64 b.Y0, .int .i64 b.X1, .int .i64 b.Y1]] w (InIs (max 0 (lst - 1)) w))) (HT : Hid (∀ w, Calls Try.prog 24 #[.agg #[.int .i64 a.X0, .int .i64 a.Y0, .int .i64 a.X1, .int .i64 a.Y1], .agg #[.int .i64 b.X0, .int .i64 b.Y0, .int .i64 b.X1, .int .i64 b.Y1]] w (BlIs (tch && ((n : Int) == 0)) w)))
    (w : World) :
    Calls Try.prog 7 #[.agg #[.int .i64 a.X0, .int .i64 a.Y0, .int .i64 a.X1, .int .i64 a.Y1], .agg #[.int .i64 b.X0, .int .i64 b.Y0, .int .i64 b.X1, .int .i64 b.Y1]] w (BlIs true w) := by
  have HHC := Lib.hid hc; clear hc
  have HB1 := Lib.hid hb1; clear hb1
  have HB2 := Lib.hid hb2; clear hb2
  have K0 := Lib.hid (two a b w)
  go_enter Try.func7, Try.ntmps7
  go_wp2_with fail
  refine (small_any _).mono ?_
  rintro e1 w1 ⟨rfl, hb⟩
  have K1 := Lib.hid (K0.out.go hb); clear hb K0
  have c_a0 := K1.out.2.1.c0; have c_a1 := K1.out.2.1.c1; have c_a2 := K1.out.2.1.c2; have c_a3 := K1.out.2.1.c3; have c_al := K1.out.2.1.lt; have c_b0 := K1.out.1.c0; have c_b1 := K1.out.1.c1; have c_b2 := K1.out.1.c2; have c_b3 := K1.out.1.c3; have c_bl := K1.out.1.lt
  go_wp2_with fail
  refine (tright_nd _ _ _ _ _).mono ?_
  rintro e1 w2 ⟨rfl, hb⟩
  have K2 := Lib.hid (K1.out.go hb); clear hb K1 c_a0 c_a1 c_a2 c_a3 c_al c_b0 c_b1 c_b2 c_b3 c_bl
  have c_b0 := K2.out.1.c0; have c_b1 := K2.out.1.c1; have c_b2 := K2.out.1.c2; have c_b3 := K2.out.1.c3; have c_bl := K2.out.1.lt
  go_wp2_with fail
  refine (tright_nd _ _ _ _ _).mono ?_
  rintro e1 w3 ⟨rfl, hb⟩
  have K3 := Lib.hid (K2.out.go hb); clear hb K2 c_b0 c_b1 c_b2 c_b3 c_bl
  have c_a0 := K3.out.2.1.c0; have c_a1 := K3.out.2.1.c1; have c_a2 := K3.out.2.1.c2; have c_a3 := K3.out.2.1.c3; have c_al := K3.out.2.1.lt
  go_wp2_with fail
  refine (HC1.out _).mono ?_
  rintro e1 w4 ⟨v1, rfl, hv1⟩
  obtain ⟨A1, p1, rfl, hP1⟩ := PRow.of_own hv1.own
  have K4 := Lib.hid (K3.out.go hv1.bel)
  have R1 := Lib.hid hP1
  clear hv1 hP1 K3 c_a0 c_a1 c_a2 c_a3 c_al
  have c_b0 := K4.out.1.c0; have c_b1 := K4.out.1.c1; have c_b2 := K4.out.1.c2; have c_b3 := K4.out.1.c3; have c_bl := K4.out.1.lt
  go_wp2_with fail
  refine (HC2.out _).mono ?_
  rintro e1 w5 ⟨v2, rfl, hv2⟩
  obtain ⟨A2, p2, rfl, hP2⟩ := PRow.of_own hv2.own
  have K5 := Lib.hid (K4.out.go hv2.bel)
  have R1b := Lib.hid (R1.out.below hv2.bel)
  have R2 := Lib.hid hP2
  clear hv2 hP2 K4 R1 c_b0 c_b1 c_b2 c_b3 c_bl
  have c_a0 := K5.out.2.1.c0; have c_a1 := K5.out.2.1.c1; have c_a2 := K5.out.2.1.c2; have c_a3 := K5.out.2.1.c3; have c_al := K5.out.2.1.lt; have c_b0 := K5.out.1.c0; have c_b1 := K5.out.1.c1; have c_b2 := K5.out.1.c2; have c_b3 := K5.out.1.c3; have c_bl := K5.out.1.lt
  go_wp2_with fail
  refine (HI.out _).mono ?_
  rintro e1 w6 ⟨rfl, hb⟩
  have K6 := Lib.hid ((K5.out.go hb).new c)
  have hLS : LS w6.heap.size a b c A1 A2 L1 L2 w (w6.alloc (.cells #[.int .i64 c.X0, .int .i64 c.Y0, .int .i64 c.X1, .int .i64 c.Y1] 23)) := ⟨K6.out, (R1b.out.below hb).below ((Below.refl _ _).alloc (Nat.le_refl _) _), (R2.out.below hb).below ((Below.refl _ _).alloc (Nat.le_refl _) _)⟩
  have S0 := Lib.hid hLS
  clear hb hLS K5 K6 R1b R2 HC1 HC2 HI c_a0 c_a1 c_a2 c_a3 c_al c_b0 c_b1 c_b2 c_b3 c_bl
  go_wp2_with fail
  generalize World.alloc w6 _ = wz at *
  generalize w6.heap.size = qc at *
  go_loopw [10, 11, 12, 13] (fun s10 s11 s12 i wr => ∃ k : Nat, k ≤ L1.length ∧ i = .int .i64 k ∧ s10 = .int .i64 (bothN b (L1.take k) : Nat) ∧ s11 = .int .i64 (leastL (L1.take k) L2) ∧ s12 = .bool (touchL (L1.take k) L2) ∧ Hid (LS qc a b c A1 A2 L1 L2 w wr)) (fun _ _ _ i _ => L1.length - (intOf i).toNat)
  case atStart => exact ⟨0, Nat.zero_le _, rfl, rfl, rfl, rfl, S0⟩
  case round =>
    clear S0
    obtain ⟨k, hk, rfl, rfl, rfl, rfl, hS⟩ := hrel
    by_cases hlt : k < L1.length
    · obtain ⟨g, rfl, hg, hv⟩ := hS.out.l1 (by omega)
      obtain ⟨v0, v1⟩ := hv k hlt
      have hmem : L1[k] ∈ L1 := List.getElem_mem hlt
      have hnx := take_nextP L1 k hlt
      have hex : ∃ p, p = L1[k] := ⟨_, rfl⟩
      obtain ⟨p, hpe⟩ := hex
      rw [← hpe] at v0 v1 hmem hnx
      clear hv hpe
      obtain ⟨px, py⟩ := HB1.out p hmem
      have hN1 : leastL (L1.take (k + 1)) L2 = leastIn (leastL (L1.take k) L2) p L2 := by rw [hnx, leastL_snoc]
      have hN2 : touchL (L1.take (k + 1)) L2 = (touchL (L1.take k) L2 || touchIn p L2) := by rw [hnx, touchL_snoc]
      have hN3 : HasR b p.1 p.2 → bothN b (L1.take (k + 1)) = bothN b (L1.take k) + 1 := fun h => by rw [hnx, bothN_yes h]
      have hN4 : ¬ HasR b p.1 p.2 → bothN b (L1.take (k + 1)) = bothN b (L1.take k) := fun h => by rw [hnx, bothN_no h]
      have hacc : -100 ≤ leastL (L1.take k) L2 ∧ leastL (L1.take k) L2 ≤ 100 := by
        obtain ⟨h1, _, h3⟩ := leastL_spec L2 (L1.take k)
        rcases h3 with h3 | ⟨q, _, r, _, h3⟩
        · omega
        · have : 0 ≤ distC q r := by unfold distC; omega
          omega
      have hbn : bothN b (L1.take k) ≤ 64 := by have := bothN_le b (L1.take k); have := List.length_take_le k L1; omega
      have HN := Lib.hid (And.intro hN1 (And.intro hN2 (And.intro hN3 hN4))); clear hN1 hN2 hN3 hN4 hnx
      have HM := Lib.hid hmem; clear hmem
      have HACC := Lib.hid hacc; clear hacc
      generalize leastL (L1.take k) L2 = acc at *
      generalize touchL (L1.take k) L2 = t0 at *
      generalize bothN b (L1.take k) = bn at *
      have hi0 : (0 : Int) ≤ (k : Int) := by omega
      have hi1 : (k : Int) < (L1.length : Int) := by omega
      have c_b0 := hS.out.k.2.1.cell0; have c_b1 := hS.out.k.2.1.cell1; have c_b2 := hS.out.k.2.1.cell2; have c_b3 := hS.out.k.2.1.cell3
      go_wp2_with fail
      refine (HH.out _ _ _).mono ?_
      rintro e1 w7 ⟨rfl, hb⟩
      have S1 := Lib.hid (hS.out.go hb); clear hb hS c_b0 c_b1 c_b2 c_b3 v0 v1 hg
      by_cases hh : HasR b p.1 p.2
      · rw [decide_eq_true hh]
        have HCP := Lib.hid (HHC.out p HM.out hh)
        have hN3 := HN.out.2.2.1 hh
        clear hh
        have c_c0 := S1.out.k.1.cell0; have c_c1 := S1.out.k.1.cell1; have c_c2 := S1.out.k.1.cell2; have c_c3 := S1.out.k.1.cell3
        go_wp2_with fail
        refine (HCP.out _).mono ?_
        rintro e1 w8 ⟨rfl, hb⟩
        have S2 := Lib.hid (S1.out.go hb); clear hb S1 c_c0 c_c1 c_c2 c_c3 HCP
        have HN3 := Lib.hid hN3; clear hN3
        go_wp2_with fail
        go_loopw [11, 12, 16] (fun s11 s12 i wr => ∃ j : Nat, j ≤ L2.length ∧ i = .int .i64 j ∧ s11 = .int .i64 (leastIn acc p (L2.take j)) ∧ s12 = .bool (t0 || touchIn p (L2.take j)) ∧ Hid (LS qc a b c (some ⟨g, 0, none⟩) A2 L1 L2 w wr)) (fun _ _ i _ => L2.length - (intOf i).toNat)
        case atStart => exact ⟨0, Nat.zero_le _, rfl, rfl, by simp [touchIn], S2⟩
        case round =>
          clear S2
          obtain ⟨j, hj, rfl, rfl, rfl, hS⟩ := hrel
          by_cases hlt2 : j < L2.length
          · obtain ⟨g2, rfl, hg2, hv⟩ := hS.out.l2 (by omega)
            obtain ⟨v0, v1⟩ := hv j hlt2
            have hmem : L2[j] ∈ L2 := List.getElem_mem hlt2
            have hnx := take_nextP L2 j hlt2
            have hex : ∃ q, q = L2[j] := ⟨_, rfl⟩
            obtain ⟨q, hqe⟩ := hex
            rw [← hqe] at v0 v1 hmem hnx
            clear hv hqe
            obtain ⟨qx, qy⟩ := HB2.out q hmem
            have hM1 : leastIn acc p (L2.take (j + 1)) = min (leastIn acc p (L2.take j)) (distC p q) := by rw [hnx, leastIn_snoc]
            have hM2 : touchIn p (L2.take (j + 1)) = (touchIn p (L2.take j) || besB p.1 p.2 q.1 q.2) := by rw [hnx, touchIn_snoc]
            have HMM := Lib.hid (And.intro hM1 hM2); clear hM1 hM2 hnx hmem
            generalize leastIn acc p (L2.take j) = ac2 at *
            generalize touchIn p (L2.take j) = t2 at *
            have hj0 : (0 : Int) ≤ (j : Int) := by omega
            have hj1 : (j : Int) < (L2.length : Int) := by omega
            have ux : (p.1 : Int) < 8 := by omega
            have uy : (p.2 : Int) < 8 := by omega
            have uq : (q.1 : Int) < 8 := by omega
            have ur : (q.2 : Int) < 8 := by omega
            have HBS := Lib.hid (fun w => beside_any (p.1 : Int) (p.2 : Int) (q.1 : Int) (q.2 : Int) (by omega) (by omega) (by omega) (by omega) w)
            cases ht : (t0 || t2)
            · go_wp2_with fail
              refine (HBS.out _).mono ?_
              rintro e1 w9 ⟨rfl, hb⟩
              have S3 := Lib.hid (hS.out.go hb); clear hb hS v0 v1 hg2
              go_wp2_with fail
              go_roundw
              case rel => exact ⟨j + 1, by omega, by go_num, by rw [HMM.out.1, dist_flat], by rw [HMM.out.2, ← Bool.or_assoc, ht]; rfl, S3⟩
              case measure => simp [intOf]; omega
            · go_wp2_with fail
              go_roundw
              case rel => exact ⟨j + 1, by omega, by go_num, by rw [HMM.out.1, dist_flat], by rw [HMM.out.2, ← Bool.or_assoc, ht]; rfl, hS⟩
              case measure => simp [intOf]; omega
          · obtain rfl : j = L2.length := by omega
            rw [List.take_length] at *
            go_wp2_with fail
            go_roundw
            case rel => exact ⟨k + 1, by omega, by go_num, by rw [HN3.out]; (try rfl), by rw [HN.out.1], by rw [HN.out.2.1], hS⟩
            case measure => simp [intOf]; omega
      · rw [decide_eq_false hh]
        have HN3 := Lib.hid (HN.out.2.2.2 hh)
        clear hh
        have S2 := S1; clear S1
        go_wp2_with fail
        go_loopw [11, 12, 16] (fun s11 s12 i wr => ∃ j : Nat, j ≤ L2.length ∧ i = .int .i64 j ∧ s11 = .int .i64 (leastIn acc p (L2.take j)) ∧ s12 = .bool (t0 || touchIn p (L2.take j)) ∧ Hid (LS qc a b c (some ⟨g, 0, none⟩) A2 L1 L2 w wr)) (fun _ _ i _ => L2.length - (intOf i).toNat)
        case atStart => exact ⟨0, Nat.zero_le _, rfl, rfl, by simp [touchIn], S2⟩
        case round =>
          clear S2
          obtain ⟨j, hj, rfl, rfl, rfl, hS⟩ := hrel
          by_cases hlt2 : j < L2.length
          · obtain ⟨g2, rfl, hg2, hv⟩ := hS.out.l2 (by omega)
            obtain ⟨v0, v1⟩ := hv j hlt2
            have hmem : L2[j] ∈ L2 := List.getElem_mem hlt2
            have hnx := take_nextP L2 j hlt2
            have hex : ∃ q, q = L2[j] := ⟨_, rfl⟩
            obtain ⟨q, hqe⟩ := hex
            rw [← hqe] at v0 v1 hmem hnx
            clear hv hqe
            obtain ⟨qx, qy⟩ := HB2.out q hmem
            have hM1 : leastIn acc p (L2.take (j + 1)) = min (leastIn acc p (L2.take j)) (distC p q) := by rw [hnx, leastIn_snoc]
            have hM2 : touchIn p (L2.take (j + 1)) = (touchIn p (L2.take j) || besB p.1 p.2 q.1 q.2) := by rw [hnx, touchIn_snoc]
            have HMM := Lib.hid (And.intro hM1 hM2); clear hM1 hM2 hnx hmem
            generalize leastIn acc p (L2.take j) = ac2 at *
            generalize touchIn p (L2.take j) = t2 at *
            have hj0 : (0 : Int) ≤ (j : Int) := by omega
            have hj1 : (j : Int) < (L2.length : Int) := by omega
            have ux : (p.1 : Int) < 8 := by omega
            have uy : (p.2 : Int) < 8 := by omega
            have uq : (q.1 : Int) < 8 := by omega
            have ur : (q.2 : Int) < 8 := by omega
            have HBS := Lib.hid (fun w => beside_any (p.1 : Int) (p.2 : Int) (q.1 : Int) (q.2 : Int) (by omega) (by omega) (by omega) (by omega) w)
            cases ht : (t0 || t2)
            · go_wp2_with fail
              refine (HBS.out _).mono ?_
              rintro e1 w9 ⟨rfl, hb⟩
              have S3 := Lib.hid (hS.out.go hb); clear hb hS v0 v1 hg2
              go_wp2_with fail
              go_roundw
              case rel => exact ⟨j + 1, by omega, by go_num, by rw [HMM.out.1, dist_flat], by rw [HMM.out.2, ← Bool.or_assoc, ht]; rfl, S3⟩
              case measure => simp [intOf]; omega
            · go_wp2_with fail
              go_roundw
              case rel => exact ⟨j + 1, by omega, by go_num, by rw [HMM.out.1, dist_flat], by rw [HMM.out.2, ← Bool.or_assoc, ht]; rfl, hS⟩
              case measure => simp [intOf]; omega
          · obtain rfl : j = L2.length := by omega
            rw [List.take_length] at *
            go_wp2_with fail
            go_roundw
            case rel => exact ⟨k + 1, by omega, by go_num, by rw [HN3.out]; (try rfl), by rw [HN.out.1], by rw [HN.out.2.1], hS⟩
            case measure => simp [intOf]; omega
    · obtain rfl : k = L1.length := by omega
      rw [List.take_length, hn, hlst, htch] at *
      cases tch
      all_goals
        have S0 := hS; clear hS
        have c_a0 := S0.out.k.2.2.1.cell0; have c_a1 := S0.out.k.2.2.1.cell1; have c_a2 := S0.out.k.2.2.1.cell2; have c_a3 := S0.out.k.2.2.1.cell3
        go_wp2_with fail
        refine (HA1.out _).mono ?_
        rintro e1 w10 ⟨rfl, hb⟩
        have S1 := Lib.hid (S0.out.go hb); clear hb S0 c_a0 c_a1 c_a2 c_a3
        have c_b0 := S1.out.k.2.1.cell0; have c_b1 := S1.out.k.2.1.cell1; have c_b2 := S1.out.k.2.1.cell2; have c_b3 := S1.out.k.2.1.cell3
        go_wp2_with fail
        refine (HA2.out _).mono ?_
        rintro e1 w11 ⟨rfl, hb⟩
        have S2 := Lib.hid (S1.out.go hb); clear hb S1 c_b0 c_b1 c_b2 c_b3
        have c_c0 := S2.out.k.1.cell0; have c_c1 := S2.out.k.1.cell1; have c_c2 := S2.out.k.1.cell2; have c_c3 := S2.out.k.1.cell3
        go_wp2_with fail
        refine (HA3.out _).mono ?_
        rintro e1 w12 ⟨rfl, hb⟩
        have S3 := Lib.hid (S2.out.go hb); clear hb S2 c_c0 c_c1 c_c2 c_c3
        have c_a0 := S3.out.k.2.2.1.cell0; have c_a1 := S3.out.k.2.2.1.cell1; have c_a2 := S3.out.k.2.2.1.cell2; have c_a3 := S3.out.k.2.2.1.cell3; have c_b0 := S3.out.k.2.1.cell0; have c_b1 := S3.out.k.2.1.cell1; have c_b2 := S3.out.k.2.1.cell2; have c_b3 := S3.out.k.2.1.cell3
        go_wp2_with fail
        refine (HIn.out _).mono ?_
        rintro e1 w13 ⟨rfl, hb⟩
        have S4 := Lib.hid (S3.out.go hb); clear hb S3 c_a0 c_a1 c_a2 c_a3 c_b0 c_b1 c_b2 c_b3
        have q1 : IntKind.i64.wrap (lst - 1) = lst - 1 := IntWalk.i64_in _ (by omega)
        have c_a0 := S4.out.k.2.2.1.cell0; have c_a1 := S4.out.k.2.2.1.cell1; have c_a2 := S4.out.k.2.2.1.cell2; have c_a3 := S4.out.k.2.2.1.cell3; have c_b0 := S4.out.k.2.1.cell0; have c_b1 := S4.out.k.2.1.cell1; have c_b2 := S4.out.k.2.1.cell2; have c_b3 := S4.out.k.2.1.cell3
        go_wp2_with fail
        refine (HG.out _).mono ?_
        rintro e1 w14 ⟨rfl, hb⟩
        have S5 := Lib.hid (S4.out.go hb); clear hb S4 c_a0 c_a1 c_a2 c_a3 c_b0 c_b1 c_b2 c_b3
        have c_a0 := S5.out.k.2.2.1.cell0; have c_a1 := S5.out.k.2.2.1.cell1; have c_a2 := S5.out.k.2.2.1.cell2; have c_a3 := S5.out.k.2.2.1.cell3; have c_b0 := S5.out.k.2.1.cell0; have c_b1 := S5.out.k.2.1.cell1; have c_b2 := S5.out.k.2.1.cell2; have c_b3 := S5.out.k.2.1.cell3
        go_wp2_with fail
        refine (HT.out _).mono ?_
        rintro e1 w15 ⟨rfl, hb⟩
        have S6 := Lib.hid (S5.out.go hb); clear hb S5 c_a0 c_a1 c_a2 c_a3 c_b0 c_b1 c_b2 c_b3
        go_wp2_with fail
        go_ret
        exact ⟨by simp, S6.out.k.below⟩

theorem cells_walk (a b : Rc) (ia : InR a) (ib : InR b) (w : World) : Calls Try.prog 7 #[.agg #[.int .i64 a.X0, .int .i64 a.Y0, .int .i64 a.X1, .int .i64 a.Y1], .agg #[.int .i64 b.X0, .int .i64 b.Y0, .int .i64 b.X1, .int .i64 b.Y1]] w (BlIs true w) := by
  by_cases h1 : 7 < a.X1
  · exact cells_out a b (Or.inl h1) w
  by_cases h2 : 7 < a.Y1
  · exact cells_out a b (Or.inr (Or.inl ⟨h1, h2⟩)) w
  by_cases h3 : 7 < b.X1
  · exact cells_out a b (Or.inr (Or.inr (Or.inl ⟨h1, h2, h3⟩))) w
  by_cases h4 : 7 < b.Y1
  · exact cells_out a b (Or.inr (Or.inr (Or.inr ⟨h1, h2, h3, h4⟩))) w
  by_cases ka : ROk a
  · by_cases kb : ROk b
    · have g1 : a.X1 ≤ 7 := by omega
      have g2 : a.Y1 ≤ 7 := by omega
      have g3 : b.X1 ≤ 7 := by omega
      have g4 : b.Y1 ≤ 7 := by omega
      have l1 := cells_length a ka (by omega) (by omega)
      have l2 := cells_length b kb (by omega) (by omega)
      have ic : InR (interR a b).1 := by
        unfold interR
        split
        · rename_i h; show InR (meetR a b); have g := h.2.2.grid; unfold GridR at g; unfold InR In64; omega
        · show InR zR; unfold InR In64 zR; decide
      have HI : ∀ w, Calls Try.prog 10 #[.agg #[.int .i64 a.X0, .int .i64 a.Y0, .int .i64 a.X1, .int .i64 a.Y1], .agg #[.int .i64 b.X0, .int .i64 b.Y0, .int .i64 b.X1, .int .i64 b.Y1]] w (RbIs ((interR a b).1, decide ((0 : Int) < ((bothL a b).length : Int))) w) := fun w => by
        have := tinter_any a b w
        have e : interR a b = ((interR a b).1, decide ((0 : Int) < ((bothL a b).length : Int))) := by
          refine Prod.ext rfl ?_
          show (interR a b).2 = _
          rw [inter_pair a b]
          exact decide_eq_decide.2 (both_pos ka g1 g2).symm
        rwa [e] at this
      have HA1 : ∀ w, Calls Try.prog 18 #[.agg #[.int .i64 a.X0, .int .i64 a.Y0, .int .i64 a.X1, .int .i64 a.Y1]] w (InIs ((cellsL a).length : Int) w) := fun w => by rw [l1]; exact tarea_any a ia w
      have HA2 : ∀ w, Calls Try.prog 18 #[.agg #[.int .i64 b.X0, .int .i64 b.Y0, .int .i64 b.X1, .int .i64 b.Y1]] w (InIs ((cellsL b).length : Int) w) := fun w => by rw [l2]; exact tarea_any b ib w
      have HA3 : ∀ w, Calls Try.prog 18 #[.agg #[.int .i64 (interR a b).1.X0, .int .i64 (interR a b).1.Y0, .int .i64 (interR a b).1.X1, .int .i64 (interR a b).1.Y1]] w (InIs ((bothL a b).length : Int) w) := fun w => by rw [both_area ka g1 g2]; exact tarea_any (interR a b).1 ic w
      have HIn : ∀ w, Calls Try.prog 22 #[.agg #[.int .i64 a.X0, .int .i64 a.Y0, .int .i64 a.X1, .int .i64 a.Y1], .agg #[.int .i64 b.X0, .int .i64 b.Y0, .int .i64 b.X1, .int .i64 b.Y1]] w (BlIs (((bothL a b).length : Int) == ((cellsL a).length : Int)) w) := fun w => by
        have := tinside_any a b w
        have e : decide (InsideR a b) = (((bothL a b).length : Int) == ((cellsL a).length : Int)) := by
          rw [Bool.eq_iff_iff, decide_eq_true_iff, beq_iff_eq]
          exact both_all ka kb g1 g2
        rwa [e] at this
      have HG : ∀ w, Calls Try.prog 26 #[.agg #[.int .i64 a.X0, .int .i64 a.Y0, .int .i64 a.X1, .int .i64 a.Y1], .agg #[.int .i64 b.X0, .int .i64 b.Y0, .int .i64 b.X1, .int .i64 b.Y1]] w (InIs (max 0 (leastL (cellsL a) (cellsL b) - 1)) w) := fun w => by
        have := tgap_any a b w
        rwa [gap_near ka kb, ← least_near ka kb g1 g2 g3 g4] at this
      have HT : ∀ w, Calls Try.prog 24 #[.agg #[.int .i64 a.X0, .int .i64 a.Y0, .int .i64 a.X1, .int .i64 a.Y1], .agg #[.int .i64 b.X0, .int .i64 b.Y0, .int .i64 b.X1, .int .i64 b.Y1]] w (BlIs (touchL (cellsL a) (cellsL b) && (((bothL a b).length : Int) == 0)) w) := fun w => by
        have := ttouch_any a b w
        have e : decide (TouchR a b) = (touchL (cellsL a) (cellsL b) && (((bothL a b).length : Int) == 0)) := by
          rw [touch_is ka kb g1 g2 g3 g4]
          congr 1
          rw [Bool.eq_iff_iff]
          simp only [Bool.not_eq_true', decide_eq_false_iff_not, beq_iff_eq]
          rw [← both_pos ka g1 g2]
          omega
        rwa [e] at this
      have hlb := least_near ka kb g1 g2 g3 g4
      have hnb : -100 ≤ leastL (cellsL a) (cellsL b) ∧ leastL (cellsL a) (cellsL b) ≤ 100 := by
        obtain ⟨q1, _, q3⟩ := leastL_spec (cellsL b) (cellsL a)
        rcases q3 with q3 | ⟨p, _, q, _, q3⟩
        · omega
        · have : 0 ≤ distC p q := by unfold distC; omega
          omega
      exact cells_core a b (interR a b).1 (cellsL a) (cellsL b) (bothL a b).length (leastL (cellsL a) (cellsL b)) (touchL (cellsL a) (cellsL b)) h1 h2 h3 h4 ((rokB_iff a).2 ka) ((rokB_iff b).2 kb) rfl rfl rfl (cells_len64 a) (cells_len64 b) (fun p hp => cell_bd hp) (fun p hp => cell_bd hp)
        (fun p hp hq w => by
          have := thas_any (interR a b).1 (p.1 : Int) (p.2 : Int) ic w
          rwa [decide_eq_true ((has_inter a b _ _).2 ⟨((mem_cells a p).1 hp).2.2, hq⟩)] at this)
        hnb (Lib.hid fun w => cells_any a ia w) (Lib.hid fun w => cells_any b ib w) (Lib.hid HI) (Lib.hid fun x y w => thas_any b x y ib w) (Lib.hid HA1) (Lib.hid HA2) (Lib.hid HA3) (Lib.hid HIn) (Lib.hid HG) (Lib.hid HT) w
    · exact cells_o6 a b h1 h2 h3 h4 ((rokB_iff a).2 ka) ((rokB_no b).2 kb) w
  · exact cells_o5 a b h1 h2 h3 h4 ((rokB_no a).2 ka) w
end Go.Proofs.Ytpbkmphpgjdpfaa
