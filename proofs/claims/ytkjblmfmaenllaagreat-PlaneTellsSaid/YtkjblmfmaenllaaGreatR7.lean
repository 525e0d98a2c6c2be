/-
  Contracts of the reference of layer 10, 2: Valid, Distance, allowed, Top.
-/
import Derived.Test.YtkjblmfmaenllaaGreatR5
import Derived.Test.YtkjblmfmaenllaaGreatR6
set_option linter.unusedVariables false
set_option maxRecDepth 100000
namespace Go.Proofs.YtkjblmfmaenllaaGreat
open Go.RowKit

set_option maxHeartbeats 8000000 in
theorem nvalid_any (r : Rc) (A : Option Addr) (cap : Nat) (l : List Pl) (w : World) (hl : PlIn w A cap l) :
    Calls Tryz.prog 64 #[.agg #[.int .i64 r.X0, .int .i64 r.Y0, .int .i64 r.X1, .int .i64 r.Y1], .slice A l.length cap] w (BlIs (decide (ArgOk r l)) w) := by
  have HL := Lib.hid hl; clear hl
  have HR := Lib.hid (fun w' => vright_nd r.X0 r.Y0 r.X1 r.Y1 w')
  have KR := Lib.hid (RcAt.new w r _ rfl)
  have HB0 : Hid (Below w.heap.size w (w.alloc (.cells #[.int .i64 r.X0, .int .i64 r.Y0, .int .i64 r.X1, .int .i64 r.Y1] 33))) := Lib.hid ((Below.refl _ _).alloc (Nat.le_refl _) _)
  go_enter Tryz.func64, Tryz.ntmps64
  go_wp2_with fail
  generalize World.alloc w _ = w0 at *
  go_loopw [5] (fun i wr => ∃ (k : Nat), k ≤ l.length ∧ i = .int .i64 k ∧ Hid (Below w.heap.size w wr) ∧ Hid (RcAt wr w.heap.size r) ∧ ∀ j (h : j < l.length), j < k → plokB l[j] = true) (fun i _ => l.length - (intOf i).toNat)
  case atStart => exact ⟨0, Nat.zero_le _, rfl, HB0, KR, fun j h hj => absurd hj (Nat.not_lt_zero _)⟩
  case round =>
    clear HB0 KR
    obtain ⟨k, hk, rfl, HB, HK, ht⟩ := hrel
    have HT := Lib.hid ht; clear ht
    by_cases hlt : k < l.length
    · obtain ⟨ba, oa, rfl, hba, hva⟩ := HL.out.row (by omega)
      obtain ⟨x0, x1, x2, x3⟩ := hva k hlt
      obtain ⟨u, hu⟩ : ∃ u, u = l[k] := ⟨_, rfl⟩
      rw [← hu] at x0 x1 x2 x3
      have HU := Lib.hid hu; clear hu
      have n0 : (0 : Int) ≤ (k : Int) := by omega
      have n1 : (k : Int) < (l.length : Int) := by omega
      clear hva
      have wc := fun o => HB.out.cell (p := ⟨ba, o, none⟩) hba
      have x0 := (wc _).trans x0; have x1 := (wc _).trans x1; have x2 := (wc _).trans x2; have x3 := (wc _).trans x3
      clear wc
      have hlen := HL.out.len
      cases c : plokB u with
      | false =>
        have HN : Hid (decide (ArgOk r l) = false) := Lib.hid (decide_eq_false (fun h => by
          have := h.2 l[k] (List.getElem_mem hlt)
          rw [← HU.out, ← plokB_iff, c] at this; cases this))
        have HC := Lib.hid (nright_any u wr)
        rw [c] at HC
        clear c
        go_wp2_with fail
        refine HC.out.mono ?_
        rintro e w1 ⟨rfl, hb⟩
        have HB1 := Lib.hid (HB.out.trans (hb.mono HB.out.size)); clear hb
        go_wp2_with fail
        go_ret
        exact ⟨by rw [HN.out]; rfl, HB1.out⟩
      | true =>
        have HN : Hid (∀ j (h : j < l.length), j < k + 1 → plokB l[j] = true) := Lib.hid (fun j h hj => by
          by_cases e : j < k
          · exact HT.out j h e
          · obtain rfl : j = k := by omega
            rw [← HU.out]; exact c)
        have HC := Lib.hid (nright_any u wr)
        rw [c] at HC
        clear c
        go_wp2_with fail
        refine HC.out.mono ?_
        rintro e w1 ⟨rfl, hb⟩
        have HB1 := Lib.hid (HB.out.trans (hb.mono HB.out.size))
        have HK1 := Lib.hid (HK.out.below hb HK.out.lt); clear hb
        go_wp2_with fail
        go_roundw
        case rel => exact ⟨k + 1, by omega, by go_num, HB1, HK1, HN.out⟩
        case measure => simp [intOf]; omega
    · obtain rfl : k = l.length := by omega
      have HE : Hid (decide (ArgOk r l) = rokB ⟨r.X0, r.Y0, r.X1, r.Y1⟩) := Lib.hid (by
        rw [Bool.eq_iff_iff, decide_eq_true_iff, rokB_iff]
        exact ⟨fun h => h.1, fun h => ⟨h, fun p hp => by
          obtain ⟨j, hj, rfl⟩ := List.mem_iff_getElem.1 hp
          exact (plokB_iff _).1 (HT.out j hj hj)⟩⟩)
      have x0 := HK.out.cell0; have x1 := HK.out.cell1; have x2 := HK.out.cell2; have x3 := HK.out.cell3; have xl := HK.out.lt
      generalize rokB ⟨r.X0, r.Y0, r.X1, r.Y1⟩ = rb at *
      go_wp2_with fail
      refine (HR.out _).mono ?_
      rintro e w1 ⟨rfl, hb⟩
      have HB1 := Lib.hid (HB.out.trans (hb.mono HB.out.size)); clear hb
      go_wp2_with fail
      go_ret
      exact ⟨by rw [HE.out]; rfl, HB1.out⟩
/-! ### allowed -/
instance decAlwR (r : Rc) (l : List Pl) (x y z : Int) : Decidable (AlwL r l x y z) := by unfold AlwL; infer_instance
theorem alw_nextR (r : Rc) (l : List Pl) (x y z : Int) (k : Nat) (h : k < l.length) : AlwL r (l.take (k + 1)) x y z ↔ AlwL r (l.take k) x y z ∧ (z + 1 - l[k].b) * l[k].d ≤ l[k].n * distP r l[k].s x y := by
  rw [List.take_succ_eq_append_getElem h]
  unfold AlwL
  constructor
  · intro k1; exact ⟨fun p hp => k1 p (List.mem_append_left _ hp), k1 _ (List.mem_append_right _ (List.mem_singleton.2 rfl))⟩
  · rintro ⟨k1, k2⟩ p hp
    rcases List.mem_append.1 hp with hp | hp
    · exact k1 p hp
    · rw [List.mem_singleton] at hp; subst hp; exact k2
/-- what the region of a round reads. -/
def Ng (gb ba o : Nat) (r : Rc) (u : Pl) (W w' : World) : Prop := w'.cell? ⟨gb, 0, none⟩ = some (.int .i64 r.X0) ∧ w'.cell? ⟨gb, 1, none⟩ = some (.int .i64 r.Y0) ∧ w'.cell? ⟨gb, 2, none⟩ = some (.int .i64 r.X1) ∧ w'.cell? ⟨gb, 3, none⟩ = some (.int .i64 r.Y1) ∧ w'.cell? ⟨ba, o, none⟩ = some (.int .i64 u.s) ∧ w'.cell? ⟨ba, o + 1, none⟩ = some (.int .i64 u.b) ∧ w'.cell? ⟨ba, o + 2, none⟩ = some (.int .i64 u.n) ∧ w'.cell? ⟨ba, o + 3, none⟩ = some (.int .i64 u.d) ∧ gb < w'.heap.size ∧ ba < w'.heap.size ∧ Hid (Below W.heap.size W w')
theorem Ng.go {gb ba o : Nat} {r : Rc} {u : Pl} {W w w' : World} (h : Ng gb ba o r u W w) (hb : Below w.heap.size w w') : Ng gb ba o r u W w' := by
  obtain ⟨c0, c1, c2, c3, d0, d1, d2, d3, l1, l2, h5⟩ := h
  have wc := fun o => hb.cell (p := ⟨gb, o, none⟩) l1
  have wd := fun o => hb.cell (p := ⟨ba, o, none⟩) l2
  exact ⟨(wc _).trans c0, (wc _).trans c1, (wc _).trans c2, (wc _).trans c3, (wd _).trans d0, (wd _).trans d1, (wd _).trans d2, (wd _).trans d3, Nat.lt_of_lt_of_le l1 hb.size, Nat.lt_of_lt_of_le l2 hb.size, Lib.hid (h5.out.trans (hb.mono h5.out.size))⟩
theorem Ng.drewN {gb ba o : Nat} {r : Rc} {u : Pl} {W w : World} (h : Ng gb ba o r u W w) (n : Nat) : Ng gb ba o r u W (w.drewN n) := h.go (below_drewN (Below.refl _ _) n)
set_option maxHeartbeats 16000000 in
theorem nalw_any (r : Rc) (A : Option Addr) (cap : Nat) (l : List Pl) (x y z : Int) (w : World) (hl : PlIn w A cap l) (ha : ArgOk r l) (hc : GC x y) (hz : 0 ≤ z ∧ z < 4096) :
    Calls Tryz.prog 75 #[.agg #[.int .i64 r.X0, .int .i64 r.Y0, .int .i64 r.X1, .int .i64 r.Y1], .slice A l.length cap, .int .i64 x, .int .i64 y, .int .i64 z] w (BlIs (decide (AlwL r l x y z)) w) := by
  have K := Lib.hid (LK.start (r := r) hl)
  have HA := Lib.hid ha
  have HG := Lib.hid hc
  have hz1 : IntKind.i64.wrap (z + 1) = z + 1 := IntWalk.i64_in _ (by omega)
  have HZ1 := Lib.hid hz1
  have HZ := Lib.hid hz
  clear hl ha hc hz1 hz
  go_enter Tryz.func75, Tryz.ntmps75
  go_wp2_with fail
  generalize World.alloc w _ = w0 at *
  go_loopw [11] (fun i wr => ∃ (k : Nat), k ≤ l.length ∧ i = .int .i64 k ∧ Hid (LK r A cap l w wr) ∧ Hid (AlwL r (l.take k) x y z)) (fun i _ => l.length - (intOf i).toNat)
  case atStart => exact ⟨0, Nat.zero_le _, rfl, K, Lib.hid (fun p hp => by cases hp)⟩
  case round =>
    clear K
    obtain ⟨k, hk, rfl, K, HAK⟩ := hrel
    by_cases hlt : k < l.length
    · obtain ⟨ba, oa, rfl, hba, hva⟩ := K.out.p.row (by omega)
      obtain ⟨y0, y1, y2, y3⟩ := hva k hlt
      have hp := HA.out.2 _ (List.getElem_mem hlt)
      have hnx := alw_nextR r l x y z k hlt
      have hall : ¬ ((z + 1 - l[k].b) * l[k].d ≤ l[k].n * distP r l[k].s x y) → ¬ AlwL r l x y z := fun hn hh => hn (hh _ (List.getElem_mem hlt))
      have htp := topPl_in HA.out.1 hp HG.out
      have HDI := Lib.hid (fun w' => ndist_any r l[k].s x y HA.out.1 HG.out w')
      obtain ⟨u, hu⟩ : ∃ u, u = l[k] := ⟨_, rfl⟩
      rw [← hu] at y0 y1 y2 y3 hp hnx hall htp HDI
      clear hu hva
      have n0 : (0 : Int) ≤ (k : Int) := by omega
      have n1 : (k : Int) < (l.length : Int) := by omega
      have hlen := K.out.p.len
      obtain ⟨⟨s0, s1⟩, hbb, hnn, dd0, dd1⟩ := hp
      have hzz := HZ.out
      have zz1 : IntKind.i64.wrap (z + 1 - u.b) = z + 1 - u.b := IntWalk.i64_in _ (by omega)
      have hm1 := Int.mul_le_mul (show z + 1 - u.b ≤ 4096 by omega) dd1 (by omega) (by omega)
      have hm2 := Int.mul_le_mul (show u.b - (z + 1) ≤ 4096 by omega) dd1 (by omega) (by omega)
      have hm3 : (u.b - (z + 1)) * u.d = -((z + 1 - u.b) * u.d) := by rw [← Int.neg_mul]; congr 1; omega
      rw [hm3] at hm2
      have zz2 : IntKind.i64.wrap ((z + 1 - u.b) * u.d) = (z + 1 - u.b) * u.d := IntWalk.i64_in _ (by omega)
      generalize distP r u.s x y = t at *
      have zz3 : IntKind.i64.wrap (u.n * t) = u.n * t := IntWalk.i64_in _ (by omega)
      have HNX := Lib.hid hnx; have HALL := Lib.hid hall
      clear hm1 hm2 hm3 htp hnx hall hbb hnn dd0 dd1 s0 s1 hzz
      obtain ⟨zp, hzp⟩ : ∃ zp, z + 1 = zp := ⟨_, rfl⟩
      obtain ⟨m0, hm0⟩ : ∃ m0, z + 1 - u.b = m0 := ⟨_, rfl⟩
      obtain ⟨m1, hm1⟩ : ∃ m1, (z + 1 - u.b) * u.d = m1 := ⟨_, rfl⟩
      obtain ⟨m2, hm2⟩ : ∃ m2, u.n * t = m2 := ⟨_, rfl⟩
      rw [hm1, hm2] at HNX HALL
      have zq1 : IntKind.i64.wrap (z + 1) = zp := HZ1.out.trans hzp
      have zq2 : IntKind.i64.wrap (zp - u.b) = m0 := by rw [← hzp]; exact zz1.trans hm0
      have zq3 : IntKind.i64.wrap (m0 * u.d) = m1 := by rw [← hm0]; exact zz2.trans hm1
      have zq4 : IntKind.i64.wrap (u.n * t) = m2 := zz3.trans hm2
      clear hzp hm0 hm1 hm2 zz1 zz2 zz3
      have hbw : ba < wr.heap.size := hba
      have E1 : Hid (Ng w.heap.size ba (oa + k * 4) r u wr wr) := Lib.hid ⟨K.out.r.cell0, K.out.r.cell1, K.out.r.cell2, K.out.r.cell3, y0, y1, y2, y3, K.out.r.lt, hba, Lib.hid (Below.refl _ _)⟩
      clear y0 y1 y2 y3 hba
      obtain ⟨wq, rfl⟩ : ∃ wq : World, wq = wr := ⟨_, rfl⟩
      by_cases cb : m2 < m1
      · have db : decide (m2 < m1) = true := decide_eq_true cb
        have HF := Lib.hid (decide_eq_false (HALL.out (by omega)))
        go_wp2_with fail
        go_region_held3 (fun w' => w'.cell? ⟨w.heap.size, 0, none⟩ = some (.int .i64 r.X0) ∧ w'.cell? ⟨w.heap.size, 1, none⟩ = some (.int .i64 r.Y0) ∧ w'.cell? ⟨w.heap.size, 2, none⟩ = some (.int .i64 r.X1) ∧ w'.cell? ⟨w.heap.size, 3, none⟩ = some (.int .i64 r.Y1) ∧ w'.cell? ⟨ba, oa + k * 4, none⟩ = some (.int .i64 u.s) ∧ w'.cell? ⟨ba, oa + k * 4 + 1, none⟩ = some (.int .i64 u.b) ∧ w'.cell? ⟨ba, oa + k * 4 + 2, none⟩ = some (.int .i64 u.n) ∧ w'.cell? ⟨ba, oa + k * 4 + 3, none⟩ = some (.int .i64 u.d) ∧ w.heap.size < w'.heap.size ∧ ba < w'.heap.size ∧ Hid (Below wq.heap.size wq w'))
          (first | exact E1.out | exact Ng.drewN E1.out 1 | exact Ng.go ‹_› ‹_› | assumption)
          (first | (go_at_call 73; refine (HDI.out _).mono ?_; rintro e w30 ⟨rfl, hb⟩) | fail)
        have E2 : Ng w.heap.size ba (oa + k * 4) r u wq w30 := by assumption
        go_wp2_with fail
        go_ret
        exact ⟨by rw [HF.out]; rfl, (K.out.go E2.2.2.2.2.2.2.2.2.2.2.out).b⟩
      · have db : decide (m2 < m1) = false := decide_eq_false cb
        have HN : Hid (AlwL r (l.take (k + 1)) x y z) := Lib.hid (HNX.out.2 ⟨HAK.out, by omega⟩)
        go_wp2_with fail
        go_region_held3 (fun w' => w'.cell? ⟨w.heap.size, 0, none⟩ = some (.int .i64 r.X0) ∧ w'.cell? ⟨w.heap.size, 1, none⟩ = some (.int .i64 r.Y0) ∧ w'.cell? ⟨w.heap.size, 2, none⟩ = some (.int .i64 r.X1) ∧ w'.cell? ⟨w.heap.size, 3, none⟩ = some (.int .i64 r.Y1) ∧ w'.cell? ⟨ba, oa + k * 4, none⟩ = some (.int .i64 u.s) ∧ w'.cell? ⟨ba, oa + k * 4 + 1, none⟩ = some (.int .i64 u.b) ∧ w'.cell? ⟨ba, oa + k * 4 + 2, none⟩ = some (.int .i64 u.n) ∧ w'.cell? ⟨ba, oa + k * 4 + 3, none⟩ = some (.int .i64 u.d) ∧ w.heap.size < w'.heap.size ∧ ba < w'.heap.size ∧ Hid (Below wq.heap.size wq w'))
          (first | exact E1.out | exact Ng.drewN E1.out 1 | exact Ng.go ‹_› ‹_› | assumption)
          (first | (go_at_call 73; refine (HDI.out _).mono ?_; rintro e w30 ⟨rfl, hb⟩) | fail)
        have E2 : Ng w.heap.size ba (oa + k * 4) r u wq w30 := by assumption
        have K2 := Lib.hid (K.out.go E2.2.2.2.2.2.2.2.2.2.2.out)
        clear E2 E1 K
        go_wp2_with fail
        go_roundw
        case rel => exact ⟨k + 1, by omega, by go_num, K2, HN⟩
        case measure => simp [intOf]; omega
    · obtain rfl : k = l.length := by omega
      rw [List.take_length] at HAK
      have HE := Lib.hid (decide_eq_true HAK.out)
      go_wp2_with fail
      go_ret
      exact ⟨by rw [HE.out]; rfl, K.out.b⟩
/-! ### Distance, Top -/
set_option maxHeartbeats 8000000 in
theorem nDist_any (r : Rc) (s x y : Int) (w : World) :
    Calls Tryz.prog 24 #[.agg #[.int .i64 r.X0, .int .i64 r.Y0, .int .i64 r.X1, .int .i64 r.Y1], .int .i64 s, .int .i64 x, .int .i64 y] w (InIs (DistIs r s x y) w) := by
  have HR := Lib.hid (fun w' => vright_nd r.X0 r.Y0 r.X1 r.Y1 w')
  have HC := Lib.hid (fun w' => ncell_any x y w')
  have HT : Hid (ROk r → GC x y → ∀ w', Calls Tryz.prog 73 #[.agg #[.int .i64 r.X0, .int .i64 r.Y0, .int .i64 r.X1, .int .i64 r.Y1], .int .i64 s, .int .i64 x, .int .i64 y] w' (InIs (distP r s x y) w')) := Lib.hid (fun ha hc w' => ndist_any r s x y ha hc w')
  have B0 : Hid (Below w.heap.size w (w.alloc (.cells #[.int .i64 r.X0, .int .i64 r.Y0, .int .i64 r.X1, .int .i64 r.Y1] 33))) := Lib.hid (by (repeat' first | exact Below.refl _ _ | assumption | (apply below_drewN) | (refine Below.setCell ?_ (by (try simp); (try omega)) _) | (refine Below.alloc ?_ (by (try simp); (try omega)) _) | (refine Below.trans ?_ (Below.mono (Hid.out (by assumption)) (by (try simp); (try omega))))))
  have K0 : Hid (RcAt (w.alloc (.cells #[.int .i64 r.X0, .int .i64 r.Y0, .int .i64 r.X1, .int .i64 r.Y1] 33)) w.heap.size r) := Lib.hid (RcAt.new w r _ rfl)
  have k0 := K0.out.cell0; have k1 := K0.out.cell1; have k2 := K0.out.cell2; have k3 := K0.out.cell3; have kl := K0.out.lt
  by_cases c : ROk r
  · rw [show rokB ⟨r.X0, r.Y0, r.X1, r.Y1⟩ = true from (rokB_iff r).2 c] at HR
    by_cases f0 : 0 ≤ s
    · have g0 : ¬ s < 0 := by omega
      by_cases f1 : s < 4
      · have g1 : ¬ 4 ≤ s := by omega
        by_cases d : GC x y
        · rw [decide_eq_true d] at HC
          have HE : Hid (DistIs r s x y = distP r s x y) := Lib.hid (if_pos ⟨c, ⟨f0, f1⟩, d⟩)
          replace HT := Lib.hid (HT.out c d)
          clear c d
          generalize distP r s x y = dv at *
          go_enter Tryz.func24, Tryz.ntmps24
          go_wp2_with fail
          generalize World.alloc w _ = w0 at *
          refine (HR.out _).mono ?_
          rintro e w1 ⟨rfl, hb⟩
          have B1 := Lib.hid (B0.out.trans (hb.mono B0.out.size)); have K1 := Lib.hid (K0.out.below hb kl); clear hb K0 B0 HR k0 k1 k2 k3 kl
          go_wp2_with fail
          refine (HC.out _).mono ?_
          rintro e w2 ⟨rfl, hb⟩
          have B2 := Lib.hid (B1.out.trans (hb.mono B1.out.size)); have K2 := Lib.hid (K1.out.below hb K1.out.lt); clear hb K1 B1 HC
          have k0 := K2.out.cell0; have k1 := K2.out.cell1; have k2 := K2.out.cell2; have k3 := K2.out.cell3; have kl := K2.out.lt
          go_wp2_with fail
          refine (HT.out _).mono ?_
          rintro e w3 ⟨rfl, hb⟩
          have B3 := Lib.hid (B2.out.trans (hb.mono B2.out.size)); clear hb K2 B2 HT k0 k1 k2 k3 kl
          go_wp2_with fail
          go_ret
          exact InIs.of HE.out.symm B3.out
        · rw [decide_eq_false d] at HC
          have HE : Hid (DistIs r s x y = 0) := Lib.hid (if_neg (fun h => d h.2.2))
          clear c d HT
          go_enter Tryz.func24, Tryz.ntmps24
          go_wp2_with fail
          generalize World.alloc w _ = w0 at *
          refine (HR.out _).mono ?_
          rintro e w1 ⟨rfl, hb⟩
          have B1 := Lib.hid (B0.out.trans (hb.mono B0.out.size)); clear hb K0 B0 HR k0 k1 k2 k3 kl
          go_wp2_with fail
          refine (HC.out _).mono ?_
          rintro e w2 ⟨rfl, hb⟩
          have B2 := Lib.hid (B1.out.trans (hb.mono B1.out.size)); clear hb B1 HC
          go_wp2_with fail
          go_ret
          exact InIs.of HE.out.symm B2.out
      · have g1 : 4 ≤ s := by omega
        have HE : Hid (DistIs r s x y = 0) := Lib.hid (if_neg (fun h => f1 h.2.1.2))
        clear c HT HC
        go_enter Tryz.func24, Tryz.ntmps24
        go_wp2_with fail
        generalize World.alloc w _ = w0 at *
        refine (HR.out _).mono ?_
        rintro e w1 ⟨rfl, hb⟩
        have B1 := Lib.hid (B0.out.trans (hb.mono B0.out.size)); clear hb K0 B0 HR k0 k1 k2 k3 kl
        go_wp2_with fail
        go_ret
        exact InIs.of HE.out.symm B1.out
    · have g0 : s < 0 := by omega
      have HE : Hid (DistIs r s x y = 0) := Lib.hid (if_neg (fun h => f0 h.2.1.1))
      clear c HT HC
      go_enter Tryz.func24, Tryz.ntmps24
      go_wp2_with fail
      generalize World.alloc w _ = w0 at *
      refine (HR.out _).mono ?_
      rintro e w1 ⟨rfl, hb⟩
      have B1 := Lib.hid (B0.out.trans (hb.mono B0.out.size)); clear hb K0 B0 HR k0 k1 k2 k3 kl
      go_wp2_with fail
      go_ret
      exact InIs.of HE.out.symm B1.out
  · rw [show rokB ⟨r.X0, r.Y0, r.X1, r.Y1⟩ = false from (rokB_no r).2 c] at HR
    have HE : Hid (DistIs r s x y = 0) := Lib.hid (if_neg (fun h => c h.1))
    clear c HT HC
    go_enter Tryz.func24, Tryz.ntmps24
    go_wp2_with fail
    generalize World.alloc w _ = w0 at *
    refine (HR.out _).mono ?_
    rintro e w1 ⟨rfl, hb⟩
    have B1 := Lib.hid (B0.out.trans (hb.mono B0.out.size)); clear hb K0 B0 HR k0 k1 k2 k3 kl
    go_wp2_with fail
    go_ret
    exact InIs.of HE.out.symm B1.out
set_option maxHeartbeats 16000000 in
theorem nTop_any (r : Rc) (A : Option Addr) (cap : Nat) (l : List Pl) (x y : Int) (w : World) (hl : PlIn w A cap l) :
    Calls Tryz.prog 26 #[.agg #[.int .i64 r.X0, .int .i64 r.Y0, .int .i64 r.X1, .int .i64 r.Y1], .slice A l.length cap, .int .i64 x, .int .i64 y] w (InIs (TopIs r l x y) w) := by
  have HV := Lib.hid (fun w' (h : Below w.heap.size w w') => nvalid_any r A cap l w' (hl.below h))
  have HC := Lib.hid (fun w' => ncell_any x y w')
  have HAW : Hid (ArgOk r l → GC x y → ∀ (z : Int), 0 ≤ z → z < 4096 → ∀ w', Below w.heap.size w w' → Calls Tryz.prog 75 #[.agg #[.int .i64 r.X0, .int .i64 r.Y0, .int .i64 r.X1, .int .i64 r.Y1], .slice A l.length cap, .int .i64 x, .int .i64 y, .int .i64 z] w' (BlIs (decide (AlwL r l x y z)) w')) := Lib.hid (fun ha hc z h0 h1 w' h => nalw_any r A cap l x y z w' (hl.below h) ha hc ⟨h0, h1⟩)
  have K := Lib.hid (LK.start (r := r) hl)
  clear hl
  have x0 := K.out.r.cell0; have x1 := K.out.r.cell1; have x2 := K.out.r.cell2; have x3 := K.out.r.cell3; have xl := K.out.r.lt
  by_cases c : ArgOk r l
  · rw [decide_eq_true c] at HV
    by_cases d : GC x y
    · rw [decide_eq_true d] at HC
      have HE : Hid (TopIs r l x y = topH r l x y) := Lib.hid (if_pos ⟨c, d⟩)
      replace HAW := Lib.hid (HAW.out c d)
      have HTI := Lib.hid (fun (z : Int) (h0 : 0 ≤ z) (h1 : z < 4096) => top_iff (r := r) c.2 (x := x) (y := y) h0 h1)
      have HTN := Lib.hid (top_in r l x y)
      clear c d
      go_enter Tryz.func26, Tryz.ntmps26
      go_wp2_with fail
      generalize World.alloc w _ = w0 at *
      refine (HV.out _ K.out.b).mono ?_
      rintro e w1 ⟨rfl, hb⟩
      replace K := Lib.hid (K.out.go hb); clear hb HV x0 x1 x2 x3 xl
      go_wp2_with fail
      refine (HC.out _).mono ?_
      rintro e w2 ⟨rfl, hb⟩
      replace K := Lib.hid (K.out.go hb); clear hb HC
      go_wp2_with fail
      go_loopw [9] (fun i wr => ∃ (k : Nat), k ≤ 4096 ∧ i = .int .i64 k ∧ (k : Int) ≤ topH r l x y ∧ Hid (LK r A cap l w wr)) (fun i _ => 4096 - (intOf i).toNat)
      case atStart => exact ⟨0, by omega, rfl, HTN.out.1, K⟩
      case round =>
        clear K
        obtain ⟨k, hk, rfl, hkt, K⟩ := hrel
        have HKT := Lib.hid hkt; clear hkt
        have x0 := K.out.r.cell0; have x1 := K.out.r.cell1; have x2 := K.out.r.cell2; have x3 := K.out.r.cell3; have xl := K.out.r.lt
        by_cases hlt : (k : Int) < 4096
        · have HQ := Lib.hid (HAW.out (k : Int) (by omega) hlt)
          have HI := Lib.hid (HTI.out (k : Int) (by omega) hlt)
          by_cases ca : AlwL r l x y (k : Int)
          · rw [decide_eq_true ca] at HQ
            have hk2 := HI.out.2 ca
            have HK2 : Hid (((k + 1 : Nat) : Int) ≤ topH r l x y) := Lib.hid (by omega)
            clear ca hk2 HI
            go_wp2_with fail
            refine (HQ.out _ K.out.b).mono ?_
            rintro e w3 ⟨rfl, hb⟩
            have K2 := Lib.hid (K.out.go hb); clear hb K HQ x0 x1 x2 x3 xl
            go_wp2_with fail
            go_roundw
            case rel => exact ⟨k + 1, by omega, by go_num, HK2.out, K2⟩
            case measure => simp [intOf]; omega
          · rw [decide_eq_false ca] at HQ
            have HEQ : Hid (topH r l x y = (k : Int)) := Lib.hid (by
              have h1 := HKT.out
              by_cases q : (k : Int) < topH r l x y
              · exact absurd (HI.out.1 q) ca
              · omega)
            clear ca HI
            go_wp2_with fail
            refine (HQ.out _ K.out.b).mono ?_
            rintro e w3 ⟨rfl, hb⟩
            have K2 := Lib.hid (K.out.go hb); clear hb K HQ x0 x1 x2 x3 xl
            go_wp2_with fail
            go_ret
            exact InIs.of (by rw [HE.out, HEQ.out]) K2.out.b
        · have HEQ : Hid (topH r l x y = (k : Int)) := Lib.hid (by have h1 := HKT.out; have h2 := HTN.out.2; omega)
          go_wp2_with fail
          go_ret
          exact InIs.of (by rw [HE.out, HEQ.out]) K.out.b
    · rw [decide_eq_false d] at HC
      have HE : Hid (TopIs r l x y = -1) := Lib.hid (if_neg (fun h => d h.2))
      clear c d HAW
      go_enter Tryz.func26, Tryz.ntmps26
      go_wp2_with fail
      generalize World.alloc w _ = w0 at *
      refine (HV.out _ K.out.b).mono ?_
      rintro e w1 ⟨rfl, hb⟩
      replace K := Lib.hid (K.out.go hb); clear hb HV x0 x1 x2 x3 xl
      go_wp2_with fail
      refine (HC.out _).mono ?_
      rintro e w2 ⟨rfl, hb⟩
      replace K := Lib.hid (K.out.go hb); clear hb HC
      go_wp2_with fail
      go_ret
      exact InIs.of HE.out.symm K.out.b
  · rw [decide_eq_false c] at HV
    have HE : Hid (TopIs r l x y = -1) := Lib.hid (if_neg (fun h => c h.1))
    clear c HAW HC
    go_enter Tryz.func26, Tryz.ntmps26
    go_wp2_with fail
    generalize World.alloc w _ = w0 at *
    refine (HV.out _ K.out.b).mono ?_
    rintro e w1 ⟨rfl, hb⟩
    replace K := Lib.hid (K.out.go hb); clear hb HV x0 x1 x2 x3 xl
    go_wp2_with fail
    go_ret
    exact InIs.of HE.out.symm K.out.b
end Go.Proofs.YtkjblmfmaenllaaGreat
