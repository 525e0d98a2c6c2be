/-
  Contracts of the reference of layer 11, 1: less, higher, lower, narrow.
  Contracts of the reference of layer 11, 2: narrow.
  Contracts of the reference of layer 11, 3: meets, Valid, within, Blocked, Ray.
  Contracts of the reference of layer 11, 4: Blocked, Ray.
-/
import Derived.Test.YtdnoadngfkiabaaU47
import Derived.Test.YtdnoadngfkiabaaU02
import Derived.Test.YtdnoadngfkiabaaU24
import Derived.Test.YtdnoadngfkiabaaU48
import Derived.StillTailTactics
set_option linter.unusedVariables false
set_option maxRecDepth 100000
namespace Go.Proofs.Ytdnoadngfkiabaa
open Go.RowKit

set_option maxHeartbeats 4000000 in
theorem eless_nd (an ad : Int) (ac : Bool) (bn bd : Int) (bc : Bool) (ha : BdIn ⟨an, ad, ac⟩) (hb : BdIn ⟨bn, bd, bc⟩) (w : World) : Calls Try.prog 79 #[.agg #[.int .i64 an, .int .i64 ad, .bool ac], .agg #[.int .i64 bn, .int .i64 bd, .bool bc]] w (BlIs (decide (an * bd < bn * ad)) w) := by
  have m1 : -4398046511104 ≤ an * bd ∧ an * bd ≤ 4398046511104 := ha.mul hb
  have m2 : -4398046511104 ≤ bn * ad ∧ bn * ad ≤ 4398046511104 := hb.mul ha
  clear ha hb
  go_enter Try.func79, Try.ntmps79
  go_wp2_with fail
  go_ret
  exact ⟨rfl, by (repeat' first | exact Below.refl _ _ | assumption | (apply below_drewN) | (refine Below.setCell ?_ (by (try simp); (try omega)) _) | (refine Below.alloc ?_ (by (try simp); (try omega)) _) | (refine Below.trans ?_ (Below.mono (Hid.out (by assumption)) (by (try simp); (try omega)))))⟩
theorem eless_any (a b : Bd) (ha : BdIn a) (hb : BdIn b) (w : World) : Calls Try.prog 79 #[.agg #[.int .i64 a.n, .int .i64 a.d, .bool a.c], .agg #[.int .i64 b.n, .int .i64 b.d, .bool b.c]] w (BlIs (lessB a b) w) := eless_nd a.n a.d a.c b.n b.d b.c ha hb w
/-- a bound as a result. -/
def BdRes (b : Bd) (w : World) (e : Ending) (w' : World) : Prop := e = .returned (.agg #[.int .i64 b.n, .int .i64 b.d, .bool b.c]) ∧ Below w.heap.size w w'
/-- two bounds at blocks, and a cell for the result. -/
def Hb11 (g g1 g2 : Nat) (a b : Bd) (w : World) : Prop := w.cell? ⟨g, 0, none⟩ = some (.int .i64 a.n) ∧ w.cell? ⟨g, 1, none⟩ = some (.int .i64 a.d) ∧ w.cell? ⟨g, 2, none⟩ = some (.bool a.c) ∧ w.cell? ⟨g1, 0, none⟩ = some (.int .i64 b.n) ∧ w.cell? ⟨g1, 1, none⟩ = some (.int .i64 b.d) ∧ w.cell? ⟨g1, 2, none⟩ = some (.bool b.c) ∧ w.heap[g2]? = some (.cells #[.int .i64 0, .int .i64 0, .bool false] 106 (0, 0)) ∧ g < w.heap.size ∧ g1 < w.heap.size ∧ g2 < w.heap.size
theorem Hb11.go {g g1 g2 : Nat} {a b : Bd} {w w' : World} (h : Hb11 g g1 g2 a b w) (hb : Below w.heap.size w w') : Hb11 g g1 g2 a b w' := by
  obtain ⟨a0, a1, a2, a3, a4, a5, z, l0, l1, l2⟩ := h
  have c0 := fun k => hb.cell (p := ⟨g, k, none⟩) l0
  have c1 := fun k => hb.cell (p := ⟨g1, k, none⟩) l1
  exact ⟨(c0 _).trans a0, (c0 _).trans a1, (c0 _).trans a2, (c1 _).trans a3, (c1 _).trans a4, (c1 _).trans a5, (hb.block _ l2).trans z, Nat.lt_of_lt_of_le l0 hb.size, Nat.lt_of_lt_of_le l1 hb.size, Nat.lt_of_lt_of_le l2 hb.size⟩
theorem Hb11.new (w : World) (a b : Bd) : Hb11 w.heap.size (w.heap.size + 1) (w.heap.size + 1 + 1) a b (((w.alloc (.cells #[.int .i64 a.n, .int .i64 a.d, .bool a.c] 106)).alloc (.cells #[.int .i64 b.n, .int .i64 b.d, .bool b.c] 106)).alloc (.cells #[.int .i64 0, .int .i64 0, .bool false] 106)) := by
  obtain ⟨h0, h1, h2⟩ := heap3 w (.cells #[.int .i64 a.n, .int .i64 a.d, .bool a.c] 106) (.cells #[.int .i64 b.n, .int .i64 b.d, .bool b.c] 106) (.cells #[.int .i64 0, .int .i64 0, .bool false] 106)
  exact ⟨by rw [Lib.cell_of_heap h0]; rfl, by rw [Lib.cell_of_heap h0]; rfl, by rw [Lib.cell_of_heap h0]; rfl, by rw [Lib.cell_of_heap h1]; rfl, by rw [Lib.cell_of_heap h1]; rfl, by rw [Lib.cell_of_heap h1]; rfl, h2, by simp; omega, by simp, by simp⟩
theorem lessB_yes {a b : Bd} (h : a.n * b.d < b.n * a.d) : lessB a b = true := decide_eq_true h
theorem lessB_no {a b : Bd} (h : ¬ a.n * b.d < b.n * a.d) : lessB a b = false := decide_eq_false h
set_option maxHeartbeats 16000000 in
theorem ehigher_any (a b : Bd) (w : World) (ha : BdIn a) (hb : BdIn b) : Calls Try.prog 102 #[.agg #[.int .i64 a.n, .int .i64 a.d, .bool a.c], .agg #[.int .i64 b.n, .int .i64 b.d, .bool b.c]] w (BdRes (hiB a b) w) := by
  have HF := Lib.hid (fun w' => eless_any a b ha hb w')
  have HS := Lib.hid (fun w' => eless_any b a hb ha w')
  have E0 := Lib.hid (Hb11.new w a b)
  have HW : Hid (Below w.heap.size w (((w.alloc (.cells #[.int .i64 a.n, .int .i64 a.d, .bool a.c] 106)).alloc (.cells #[.int .i64 b.n, .int .i64 b.d, .bool b.c] 106)).alloc (.cells #[.int .i64 0, .int .i64 0, .bool false] 106))) := Lib.hid ((((Below.refl _ _).alloc (Nat.le_refl _) _).alloc (by simp) _).alloc (by simp; omega) _)
  have HWG : Hid (w.heap.size ≤ w.heap.size + 1 + 1) := Lib.hid (by omega)
  clear ha hb
  by_cases c1 : a.n * b.d < b.n * a.d
  · rw [lessB_yes c1] at HF
    have HT : Hid (hiB a b = b) := Lib.hid (by unfold hiB; rw [if_pos (Or.inl c1)])
    clear c1 HS
    go_enter Try.func102, Try.ntmps102
    go_upto_region 1 with fail
    generalize World.alloc (World.alloc (World.alloc w _) _) _ = W at *
    generalize w.heap.size + 1 + 1 = g2 at *
    generalize w.heap.size + 1 = g1 at *
    generalize hgg : w.heap.size = g at E0 ⊢
    rw [hgg] at HW HWG
    have HGG := Lib.hid hgg
    clear hgg
    obtain ⟨x0, x1, x2, y0, y1, y2, z, l0, l1, l2⟩ := E0.out
    clear z
    go_wp2_with fail
    refine (HF.out _).mono ?_
    rintro e w1 ⟨rfl, hb⟩
    have E1 := Lib.hid (E0.out.go hb)
    have HB1 := Lib.hid (HW.out.trans (hb.mono (Nat.le_trans HWG.out (Nat.le_of_lt (Nat.lt_of_le_of_lt (Nat.le_refl _) l2)))))
    clear hb E0 HW HF x0 x1 x2 y0 y1 y2 l0 l1 l2
    obtain ⟨x0, x1, x2, y0, y1, y2, z, l0, l1, l2⟩ := E1.out
    have HZ := Lib.hid z
    have z0 : w1.cell? ⟨g2, 0, none⟩ = some (.int .i64 0) := by rw [Lib.cell_of_heap z]; rfl
    have z1 : w1.cell? ⟨g2, 1, none⟩ = some (.int .i64 0) := by rw [Lib.cell_of_heap z]; rfl
    have z2 : w1.cell? ⟨g2, 2, none⟩ = some (.bool false) := by rw [Lib.cell_of_heap z]; rfl
    have f0 := Lib.frozen_of_heap z 0; have f1 := Lib.frozen_of_heap z 1; have f2 := Lib.frozen_of_heap z 2
    clear z
    go_wp2_with fail
    refine bodyPost_ret (results_cell_row rfl _ _ g2 106 #[.int .i64 b.n, .int .i64 b.d, .bool b.c] (0, 0) _ rfl ?_ Try.underlying106 rfl (by kernel_rfl)) rfl ?_
    · have hz := HZ.out
      simp [World.setCell, Array.getElem?_modify, hz]
    · rw [HT.out]
      refine ⟨rfl, ?_⟩
      rw [HGG.out]
      exact below_set3 HB1.out HWG.out _ _ _ _ _ _
  · rw [lessB_no c1] at HF
    by_cases c2 : b.n * a.d < a.n * b.d
    · rw [lessB_yes c2] at HS
      have HT : Hid (hiB a b = a) := Lib.hid (by unfold hiB; rw [if_neg (by rintro (k | ⟨k, _⟩); exact c1 k; exact k c2)])
      clear c1 c2
      go_enter Try.func102, Try.ntmps102
      go_upto_region 1 with fail
      generalize World.alloc (World.alloc (World.alloc w _) _) _ = W at *
      generalize w.heap.size + 1 + 1 = g2 at *
      generalize w.heap.size + 1 = g1 at *
      generalize hgg : w.heap.size = g at E0 ⊢
      rw [hgg] at HW HWG
      have HGG := Lib.hid hgg
      clear hgg
      obtain ⟨x0, x1, x2, y0, y1, y2, z, l0, l1, l2⟩ := E0.out
      clear z
      go_wp2_with fail
      refine (HF.out _).mono ?_
      rintro e w1 ⟨rfl, hb⟩
      have E1 := Lib.hid (E0.out.go hb)
      have HB1 := Lib.hid (HW.out.trans (hb.mono (Nat.le_trans HWG.out (Nat.le_of_lt (Nat.lt_of_le_of_lt (Nat.le_refl _) l2)))))
      clear hb E0 HW HF x0 x1 x2 y0 y1 y2 l0 l1 l2
      obtain ⟨x0, x1, x2, y0, y1, y2, z, l0, l1, l2⟩ := E1.out
      clear z
      go_wp2_with fail
      refine (HS.out _).mono ?_
      rintro e w2 ⟨rfl, hb⟩
      have E2 := Lib.hid (E1.out.go hb)
      have HB2 := Lib.hid (HB1.out.trans (hb.mono (Nat.le_trans HWG.out (Nat.le_of_lt l2))))
      clear hb E1 HB1 HS x0 x1 x2 y0 y1 y2 l0 l1 l2
      obtain ⟨x0, x1, x2, y0, y1, y2, z, l0, l1, l2⟩ := E2.out
      have HZ := Lib.hid z
      have z0 : w2.cell? ⟨g2, 0, none⟩ = some (.int .i64 0) := by rw [Lib.cell_of_heap z]; rfl
      have z1 : w2.cell? ⟨g2, 1, none⟩ = some (.int .i64 0) := by rw [Lib.cell_of_heap z]; rfl
      have z2 : w2.cell? ⟨g2, 2, none⟩ = some (.bool false) := by rw [Lib.cell_of_heap z]; rfl
      have f0 := Lib.frozen_of_heap z 0; have f1 := Lib.frozen_of_heap z 1; have f2 := Lib.frozen_of_heap z 2
      clear z
      go_wp2_with fail
      refine bodyPost_ret (results_cell_row rfl _ _ g2 106 #[.int .i64 a.n, .int .i64 a.d, .bool a.c] (0, 0) _ rfl ?_ Try.underlying106 rfl (by kernel_rfl)) rfl ?_
      · have hz := HZ.out
        simp [World.setCell, Array.getElem?_modify, hz]
      · rw [HT.out]
        refine ⟨rfl, ?_⟩
        rw [HGG.out]
        exact below_set3 HB2.out HWG.out _ _ _ _ _ _
    · rw [lessB_no c2] at HS
      have HT1 : Hid (b.c = true → hiB a b = b) := Lib.hid (fun k => by unfold hiB; rw [if_pos (Or.inr ⟨c2, k⟩)])
      have HT2 : Hid (b.c = false → hiB a b = a) := Lib.hid (fun k => by unfold hiB; rw [if_neg (by rintro (q | ⟨_, q⟩); exact c1 q; rw [k] at q; cases q)])
      clear c1 c2
      by_cases hc : b.c = true
      · have HT := Lib.hid (HT1.out hc); clear HT1 HT2
        have HC := Lib.hid hc; clear hc
        go_enter Try.func102, Try.ntmps102
        go_upto_region 1 with fail
        generalize World.alloc (World.alloc (World.alloc w _) _) _ = W at *
        generalize w.heap.size + 1 + 1 = g2 at *
        generalize w.heap.size + 1 = g1 at *
        generalize hgg : w.heap.size = g at E0 ⊢
        rw [hgg] at HW HWG
        have HGG := Lib.hid hgg
        clear hgg
        obtain ⟨x0, x1, x2, y0, y1, y2, z, l0, l1, l2⟩ := E0.out
        clear z
        go_wp2_with fail
        refine (HF.out _).mono ?_
        rintro e w1 ⟨rfl, hb⟩
        have E1 := Lib.hid (E0.out.go hb)
        have HB1 := Lib.hid (HW.out.trans (hb.mono (Nat.le_trans HWG.out (Nat.le_of_lt (Nat.lt_of_le_of_lt (Nat.le_refl _) l2)))))
        clear hb E0 HW HF x0 x1 x2 y0 y1 y2 l0 l1 l2
        obtain ⟨x0, x1, x2, y0, y1, y2, z, l0, l1, l2⟩ := E1.out
        clear z
        go_wp2_with fail
        refine (HS.out _).mono ?_
        rintro e w2 ⟨rfl, hb⟩
        have E2 := Lib.hid (E1.out.go hb)
        have HB2 := Lib.hid (HB1.out.trans (hb.mono (Nat.le_trans HWG.out (Nat.le_of_lt l2))))
        clear hb E1 HB1 HS x0 x1 x2 y0 y1 y2 l0 l1 l2
        obtain ⟨x0, x1, x2, y0, y1, y2, z, l0, l1, l2⟩ := E2.out
        have HZ := Lib.hid z
        have z0 : w2.cell? ⟨g2, 0, none⟩ = some (.int .i64 0) := by rw [Lib.cell_of_heap z]; rfl
        have z1 : w2.cell? ⟨g2, 1, none⟩ = some (.int .i64 0) := by rw [Lib.cell_of_heap z]; rfl
        have z2 : w2.cell? ⟨g2, 2, none⟩ = some (.bool false) := by rw [Lib.cell_of_heap z]; rfl
        have f0 := Lib.frozen_of_heap z 0; have f1 := Lib.frozen_of_heap z 1; have f2 := Lib.frozen_of_heap z 2
        clear z; rw [HC.out] at y2
        go_wp2_with fail
        refine bodyPost_ret (results_cell_row rfl _ _ g2 106 #[.int .i64 b.n, .int .i64 b.d, .bool true] (0, 0) _ rfl ?_ Try.underlying106 rfl (by kernel_rfl)) rfl ?_
        · have hz := HZ.out
          simp [World.setCell, Array.getElem?_modify, hz]
        · rw [HT.out]
          refine ⟨by rw [HC.out], ?_⟩
          rw [HGG.out]
          exact below_set3 HB2.out HWG.out _ _ _ _ _ _
      · replace hc : b.c = false := by simpa using hc
        have HT := Lib.hid (HT2.out hc); clear HT1 HT2
        have HC := Lib.hid hc; clear hc
        go_enter Try.func102, Try.ntmps102
        go_upto_region 1 with fail
        generalize World.alloc (World.alloc (World.alloc w _) _) _ = W at *
        generalize w.heap.size + 1 + 1 = g2 at *
        generalize w.heap.size + 1 = g1 at *
        generalize hgg : w.heap.size = g at E0 ⊢
        rw [hgg] at HW HWG
        have HGG := Lib.hid hgg
        clear hgg
        obtain ⟨x0, x1, x2, y0, y1, y2, z, l0, l1, l2⟩ := E0.out
        clear z
        go_wp2_with fail
        refine (HF.out _).mono ?_
        rintro e w1 ⟨rfl, hb⟩
        have E1 := Lib.hid (E0.out.go hb)
        have HB1 := Lib.hid (HW.out.trans (hb.mono (Nat.le_trans HWG.out (Nat.le_of_lt (Nat.lt_of_le_of_lt (Nat.le_refl _) l2)))))
        clear hb E0 HW HF x0 x1 x2 y0 y1 y2 l0 l1 l2
        obtain ⟨x0, x1, x2, y0, y1, y2, z, l0, l1, l2⟩ := E1.out
        clear z
        go_wp2_with fail
        refine (HS.out _).mono ?_
        rintro e w2 ⟨rfl, hb⟩
        have E2 := Lib.hid (E1.out.go hb)
        have HB2 := Lib.hid (HB1.out.trans (hb.mono (Nat.le_trans HWG.out (Nat.le_of_lt l2))))
        clear hb E1 HB1 HS x0 x1 x2 y0 y1 y2 l0 l1 l2
        obtain ⟨x0, x1, x2, y0, y1, y2, z, l0, l1, l2⟩ := E2.out
        have HZ := Lib.hid z
        have z0 : w2.cell? ⟨g2, 0, none⟩ = some (.int .i64 0) := by rw [Lib.cell_of_heap z]; rfl
        have z1 : w2.cell? ⟨g2, 1, none⟩ = some (.int .i64 0) := by rw [Lib.cell_of_heap z]; rfl
        have z2 : w2.cell? ⟨g2, 2, none⟩ = some (.bool false) := by rw [Lib.cell_of_heap z]; rfl
        have f0 := Lib.frozen_of_heap z 0; have f1 := Lib.frozen_of_heap z 1; have f2 := Lib.frozen_of_heap z 2
        clear z; rw [HC.out] at y2
        go_wp2_with fail
        refine bodyPost_ret (results_cell_row rfl _ _ g2 106 #[.int .i64 a.n, .int .i64 a.d, .bool a.c] (0, 0) _ rfl ?_ Try.underlying106 rfl (by kernel_rfl)) rfl ?_
        · have hz := HZ.out
          simp [World.setCell, Array.getElem?_modify, hz]
        · rw [HT.out]
          refine ⟨rfl, ?_⟩
          rw [HGG.out]
          exact below_set3 HB2.out HWG.out _ _ _ _ _ _
set_option maxHeartbeats 16000000 in
theorem elower_any (a b : Bd) (w : World) (ha : BdIn a) (hb : BdIn b) : Calls Try.prog 103 #[.agg #[.int .i64 a.n, .int .i64 a.d, .bool a.c], .agg #[.int .i64 b.n, .int .i64 b.d, .bool b.c]] w (BdRes (loB a b) w) := by
  have HF := Lib.hid (fun w' => eless_any b a hb ha w')
  have HS := Lib.hid (fun w' => eless_any a b ha hb w')
  have E0 := Lib.hid (Hb11.new w a b)
  have HW : Hid (Below w.heap.size w (((w.alloc (.cells #[.int .i64 a.n, .int .i64 a.d, .bool a.c] 106)).alloc (.cells #[.int .i64 b.n, .int .i64 b.d, .bool b.c] 106)).alloc (.cells #[.int .i64 0, .int .i64 0, .bool false] 106))) := Lib.hid ((((Below.refl _ _).alloc (Nat.le_refl _) _).alloc (by simp) _).alloc (by simp; omega) _)
  have HWG : Hid (w.heap.size ≤ w.heap.size + 1 + 1) := Lib.hid (by omega)
  clear ha hb
  by_cases c1 : b.n * a.d < a.n * b.d
  · rw [lessB_yes c1] at HF
    have HT : Hid (loB a b = b) := Lib.hid (by unfold loB; rw [if_pos (Or.inl c1)])
    clear c1 HS
    go_enter Try.func103, Try.ntmps103
    go_upto_region 1 with fail
    generalize World.alloc (World.alloc (World.alloc w _) _) _ = W at *
    generalize w.heap.size + 1 + 1 = g2 at *
    generalize w.heap.size + 1 = g1 at *
    generalize hgg : w.heap.size = g at E0 ⊢
    rw [hgg] at HW HWG
    have HGG := Lib.hid hgg
    clear hgg
    obtain ⟨x0, x1, x2, y0, y1, y2, z, l0, l1, l2⟩ := E0.out
    clear z
    go_wp2_with fail
    refine (HF.out _).mono ?_
    rintro e w1 ⟨rfl, hb⟩
    have E1 := Lib.hid (E0.out.go hb)
    have HB1 := Lib.hid (HW.out.trans (hb.mono (Nat.le_trans HWG.out (Nat.le_of_lt (Nat.lt_of_le_of_lt (Nat.le_refl _) l2)))))
    clear hb E0 HW HF x0 x1 x2 y0 y1 y2 l0 l1 l2
    obtain ⟨x0, x1, x2, y0, y1, y2, z, l0, l1, l2⟩ := E1.out
    have HZ := Lib.hid z
    have z0 : w1.cell? ⟨g2, 0, none⟩ = some (.int .i64 0) := by rw [Lib.cell_of_heap z]; rfl
    have z1 : w1.cell? ⟨g2, 1, none⟩ = some (.int .i64 0) := by rw [Lib.cell_of_heap z]; rfl
    have z2 : w1.cell? ⟨g2, 2, none⟩ = some (.bool false) := by rw [Lib.cell_of_heap z]; rfl
    have f0 := Lib.frozen_of_heap z 0; have f1 := Lib.frozen_of_heap z 1; have f2 := Lib.frozen_of_heap z 2
    clear z
    go_wp2_with fail
    refine bodyPost_ret (results_cell_row rfl _ _ g2 106 #[.int .i64 b.n, .int .i64 b.d, .bool b.c] (0, 0) _ rfl ?_ Try.underlying106 rfl (by kernel_rfl)) rfl ?_
    · have hz := HZ.out
      simp [World.setCell, Array.getElem?_modify, hz]
    · rw [HT.out]
      refine ⟨rfl, ?_⟩
      rw [HGG.out]
      exact below_set3 HB1.out HWG.out _ _ _ _ _ _
  · rw [lessB_no c1] at HF
    by_cases c2 : a.n * b.d < b.n * a.d
    · rw [lessB_yes c2] at HS
      have HT : Hid (loB a b = a) := Lib.hid (by unfold loB; rw [if_neg (by rintro (k | ⟨k, _⟩); exact c1 k; exact k c2)])
      clear c1 c2
      go_enter Try.func103, Try.ntmps103
      go_upto_region 1 with fail
      generalize World.alloc (World.alloc (World.alloc w _) _) _ = W at *
      generalize w.heap.size + 1 + 1 = g2 at *
      generalize w.heap.size + 1 = g1 at *
      generalize hgg : w.heap.size = g at E0 ⊢
      rw [hgg] at HW HWG
      have HGG := Lib.hid hgg
      clear hgg
      obtain ⟨x0, x1, x2, y0, y1, y2, z, l0, l1, l2⟩ := E0.out
      clear z
      go_wp2_with fail
      refine (HF.out _).mono ?_
      rintro e w1 ⟨rfl, hb⟩
      have E1 := Lib.hid (E0.out.go hb)
      have HB1 := Lib.hid (HW.out.trans (hb.mono (Nat.le_trans HWG.out (Nat.le_of_lt (Nat.lt_of_le_of_lt (Nat.le_refl _) l2)))))
      clear hb E0 HW HF x0 x1 x2 y0 y1 y2 l0 l1 l2
      obtain ⟨x0, x1, x2, y0, y1, y2, z, l0, l1, l2⟩ := E1.out
      clear z
      go_wp2_with fail
      refine (HS.out _).mono ?_
      rintro e w2 ⟨rfl, hb⟩
      have E2 := Lib.hid (E1.out.go hb)
      have HB2 := Lib.hid (HB1.out.trans (hb.mono (Nat.le_trans HWG.out (Nat.le_of_lt l2))))
      clear hb E1 HB1 HS x0 x1 x2 y0 y1 y2 l0 l1 l2
      obtain ⟨x0, x1, x2, y0, y1, y2, z, l0, l1, l2⟩ := E2.out
      have HZ := Lib.hid z
      have z0 : w2.cell? ⟨g2, 0, none⟩ = some (.int .i64 0) := by rw [Lib.cell_of_heap z]; rfl
      have z1 : w2.cell? ⟨g2, 1, none⟩ = some (.int .i64 0) := by rw [Lib.cell_of_heap z]; rfl
      have z2 : w2.cell? ⟨g2, 2, none⟩ = some (.bool false) := by rw [Lib.cell_of_heap z]; rfl
      have f0 := Lib.frozen_of_heap z 0; have f1 := Lib.frozen_of_heap z 1; have f2 := Lib.frozen_of_heap z 2
      clear z
      go_wp2_with fail
      refine bodyPost_ret (results_cell_row rfl _ _ g2 106 #[.int .i64 a.n, .int .i64 a.d, .bool a.c] (0, 0) _ rfl ?_ Try.underlying106 rfl (by kernel_rfl)) rfl ?_
      · have hz := HZ.out
        simp [World.setCell, Array.getElem?_modify, hz]
      · rw [HT.out]
        refine ⟨rfl, ?_⟩
        rw [HGG.out]
        exact below_set3 HB2.out HWG.out _ _ _ _ _ _
    · rw [lessB_no c2] at HS
      have HT1 : Hid (b.c = true → loB a b = b) := Lib.hid (fun k => by unfold loB; rw [if_pos (Or.inr ⟨c2, k⟩)])
      have HT2 : Hid (b.c = false → loB a b = a) := Lib.hid (fun k => by unfold loB; rw [if_neg (by rintro (q | ⟨_, q⟩); exact c1 q; rw [k] at q; cases q)])
      clear c1 c2
      by_cases hc : b.c = true
      · have HT := Lib.hid (HT1.out hc); clear HT1 HT2
        have HC := Lib.hid hc; clear hc
        go_enter Try.func103, Try.ntmps103
        go_upto_region 1 with fail
        generalize World.alloc (World.alloc (World.alloc w _) _) _ = W at *
        generalize w.heap.size + 1 + 1 = g2 at *
        generalize w.heap.size + 1 = g1 at *
        generalize hgg : w.heap.size = g at E0 ⊢
        rw [hgg] at HW HWG
        have HGG := Lib.hid hgg
        clear hgg
        obtain ⟨x0, x1, x2, y0, y1, y2, z, l0, l1, l2⟩ := E0.out
        clear z
        go_wp2_with fail
        refine (HF.out _).mono ?_
        rintro e w1 ⟨rfl, hb⟩
        have E1 := Lib.hid (E0.out.go hb)
        have HB1 := Lib.hid (HW.out.trans (hb.mono (Nat.le_trans HWG.out (Nat.le_of_lt (Nat.lt_of_le_of_lt (Nat.le_refl _) l2)))))
        clear hb E0 HW HF x0 x1 x2 y0 y1 y2 l0 l1 l2
        obtain ⟨x0, x1, x2, y0, y1, y2, z, l0, l1, l2⟩ := E1.out
        clear z
        go_wp2_with fail
        refine (HS.out _).mono ?_
        rintro e w2 ⟨rfl, hb⟩
        have E2 := Lib.hid (E1.out.go hb)
        have HB2 := Lib.hid (HB1.out.trans (hb.mono (Nat.le_trans HWG.out (Nat.le_of_lt l2))))
        clear hb E1 HB1 HS x0 x1 x2 y0 y1 y2 l0 l1 l2
        obtain ⟨x0, x1, x2, y0, y1, y2, z, l0, l1, l2⟩ := E2.out
        have HZ := Lib.hid z
        have z0 : w2.cell? ⟨g2, 0, none⟩ = some (.int .i64 0) := by rw [Lib.cell_of_heap z]; rfl
        have z1 : w2.cell? ⟨g2, 1, none⟩ = some (.int .i64 0) := by rw [Lib.cell_of_heap z]; rfl
        have z2 : w2.cell? ⟨g2, 2, none⟩ = some (.bool false) := by rw [Lib.cell_of_heap z]; rfl
        have f0 := Lib.frozen_of_heap z 0; have f1 := Lib.frozen_of_heap z 1; have f2 := Lib.frozen_of_heap z 2
        clear z; rw [HC.out] at y2
        go_wp2_with fail
        refine bodyPost_ret (results_cell_row rfl _ _ g2 106 #[.int .i64 b.n, .int .i64 b.d, .bool true] (0, 0) _ rfl ?_ Try.underlying106 rfl (by kernel_rfl)) rfl ?_
        · have hz := HZ.out
          simp [World.setCell, Array.getElem?_modify, hz]
        · rw [HT.out]
          refine ⟨by rw [HC.out], ?_⟩
          rw [HGG.out]
          exact below_set3 HB2.out HWG.out _ _ _ _ _ _
      · replace hc : b.c = false := by simpa using hc
        have HT := Lib.hid (HT2.out hc); clear HT1 HT2
        have HC := Lib.hid hc; clear hc
        go_enter Try.func103, Try.ntmps103
        go_upto_region 1 with fail
        generalize World.alloc (World.alloc (World.alloc w _) _) _ = W at *
        generalize w.heap.size + 1 + 1 = g2 at *
        generalize w.heap.size + 1 = g1 at *
        generalize hgg : w.heap.size = g at E0 ⊢
        rw [hgg] at HW HWG
        have HGG := Lib.hid hgg
        clear hgg
        obtain ⟨x0, x1, x2, y0, y1, y2, z, l0, l1, l2⟩ := E0.out
        clear z
        go_wp2_with fail
        refine (HF.out _).mono ?_
        rintro e w1 ⟨rfl, hb⟩
        have E1 := Lib.hid (E0.out.go hb)
        have HB1 := Lib.hid (HW.out.trans (hb.mono (Nat.le_trans HWG.out (Nat.le_of_lt (Nat.lt_of_le_of_lt (Nat.le_refl _) l2)))))
        clear hb E0 HW HF x0 x1 x2 y0 y1 y2 l0 l1 l2
        obtain ⟨x0, x1, x2, y0, y1, y2, z, l0, l1, l2⟩ := E1.out
        clear z
        go_wp2_with fail
        refine (HS.out _).mono ?_
        rintro e w2 ⟨rfl, hb⟩
        have E2 := Lib.hid (E1.out.go hb)
        have HB2 := Lib.hid (HB1.out.trans (hb.mono (Nat.le_trans HWG.out (Nat.le_of_lt l2))))
        clear hb E1 HB1 HS x0 x1 x2 y0 y1 y2 l0 l1 l2
        obtain ⟨x0, x1, x2, y0, y1, y2, z, l0, l1, l2⟩ := E2.out
        have HZ := Lib.hid z
        have z0 : w2.cell? ⟨g2, 0, none⟩ = some (.int .i64 0) := by rw [Lib.cell_of_heap z]; rfl
        have z1 : w2.cell? ⟨g2, 1, none⟩ = some (.int .i64 0) := by rw [Lib.cell_of_heap z]; rfl
        have z2 : w2.cell? ⟨g2, 2, none⟩ = some (.bool false) := by rw [Lib.cell_of_heap z]; rfl
        have f0 := Lib.frozen_of_heap z 0; have f1 := Lib.frozen_of_heap z 1; have f2 := Lib.frozen_of_heap z 2
        clear z; rw [HC.out] at y2
        go_wp2_with fail
        refine bodyPost_ret (results_cell_row rfl _ _ g2 106 #[.int .i64 a.n, .int .i64 a.d, .bool a.c] (0, 0) _ rfl ?_ Try.underlying106 rfl (by kernel_rfl)) rfl ?_
        · have hz := HZ.out
          simp [World.setCell, Array.getElem?_modify, hz]
        · rw [HT.out]
          refine ⟨rfl, ?_⟩
          rw [HGG.out]
          exact below_set3 HB2.out HWG.out _ _ _ _ _ _
end Go.Proofs.Ytdnoadngfkiabaa
namespace Go.Proofs.Ytdnoadngfkiabaa
open Go.RowKit

def PrIn (x : Pr) : Prop := BdIn x.lo ∧ BdIn x.hi
theorem hiB_in {a b : Bd} (h : BdIn a) (k : BdIn b) : BdIn (hiB a b) := by unfold hiB; split <;> assumption
theorem loB_in {a b : Bd} (h : BdIn a) (k : BdIn b) : BdIn (loB a b) := by unfold loB; split <;> assumption
theorem narR_in {x : Pr} (h : PrIn x) {p d f e : Int} (hp : 0 ≤ p ∧ p ≤ 1048576) (hd : -1048576 ≤ d ∧ d ≤ 1048576) (hf : 0 ≤ f ∧ f ≤ 1048576) (he : 0 ≤ e ∧ e ≤ 1048576) : PrIn (narR x p d f e) := by
  unfold narR
  split
  · exact ⟨hiB_in h.1 (by unfold BdIn; simp only; omega), loB_in h.2 (by unfold BdIn; simp only; omega)⟩
  · split
    · exact ⟨hiB_in h.1 (by unfold BdIn; simp only; omega), loB_in h.2 (by unfold BdIn; simp only; omega)⟩
    · exact h
/-- an interval of the reference at a block. -/
def PrAt (w : World) (r : Nat) (x : Pr) : Prop := w.heap[r]? = some (.cells #[.int .i64 x.lo.n, .int .i64 x.lo.d, .bool x.lo.c, .int .i64 x.hi.n, .int .i64 x.hi.d, .bool x.hi.c, .bool x.no] 108 (0, 0))
section
variable {w w' : World} {r : Nat} {x : Pr}
theorem PrAt.lt (h : PrAt w r x) : r < w.heap.size := (Array.getElem?_eq_some_iff.1 h).1
theorem PrAt.c0 (h : PrAt w r x) : w.cell? ⟨r, 0, none⟩ = some (.int .i64 x.lo.n) := by rw [Lib.cell_of_heap h]; rfl
theorem PrAt.c1 (h : PrAt w r x) : w.cell? ⟨r, 1, none⟩ = some (.int .i64 x.lo.d) := by rw [Lib.cell_of_heap h]; rfl
theorem PrAt.c2 (h : PrAt w r x) : w.cell? ⟨r, 2, none⟩ = some (.bool x.lo.c) := by rw [Lib.cell_of_heap h]; rfl
theorem PrAt.c3 (h : PrAt w r x) : w.cell? ⟨r, 3, none⟩ = some (.int .i64 x.hi.n) := by rw [Lib.cell_of_heap h]; rfl
theorem PrAt.c4 (h : PrAt w r x) : w.cell? ⟨r, 4, none⟩ = some (.int .i64 x.hi.d) := by rw [Lib.cell_of_heap h]; rfl
theorem PrAt.c5 (h : PrAt w r x) : w.cell? ⟨r, 5, none⟩ = some (.bool x.hi.c) := by rw [Lib.cell_of_heap h]; rfl
theorem PrAt.c6 (h : PrAt w r x) : w.cell? ⟨r, 6, none⟩ = some (.bool x.no) := by rw [Lib.cell_of_heap h]; rfl
theorem PrAt.froz (h : PrAt w r x) (k : Nat) : w.frozen? ⟨r, k, none⟩ = false := Lib.frozen_of_heap h k
theorem PrAt.setlo (h : PrAt w r x) (b : Bd) : PrAt (((w.setCell ⟨r, 0, none⟩ (.int .i64 b.n)).setCell ⟨r, 1, none⟩ (.int .i64 b.d)).setCell ⟨r, 2, none⟩ (.bool b.c)) r ⟨b, x.hi, x.no⟩ := by
  unfold PrAt at h ⊢
  simp [World.setCell, Array.getElem?_modify, h]
theorem PrAt.sethi (h : PrAt w r x) (b : Bd) : PrAt (((w.setCell ⟨r, 3, none⟩ (.int .i64 b.n)).setCell ⟨r, 4, none⟩ (.int .i64 b.d)).setCell ⟨r, 5, none⟩ (.bool b.c)) r ⟨x.lo, b, x.no⟩ := by
  unfold PrAt at h ⊢
  simp [World.setCell, Array.getElem?_modify, h]
theorem PrAt.setno (h : PrAt w r x) (b : Bool) : PrAt (w.setCell ⟨r, 6, none⟩ (.bool b)) r ⟨x.lo, x.hi, b⟩ := by
  unfold PrAt at h ⊢
  simp [World.setCell, Array.getElem?_modify, h]
theorem PrAt.set7 (h : PrAt w r x) (y : Pr) : PrAt (((((((w.setCell ⟨r, 0, none⟩ (.int .i64 y.lo.n)).setCell ⟨r, 1, none⟩ (.int .i64 y.lo.d)).setCell ⟨r, 2, none⟩ (.bool y.lo.c)).setCell ⟨r, 3, none⟩ (.int .i64 y.hi.n)).setCell ⟨r, 4, none⟩ (.int .i64 y.hi.d)).setCell ⟨r, 5, none⟩ (.bool y.hi.c)).setCell ⟨r, 6, none⟩ (.bool y.no)) r y := by
  unfold PrAt at h ⊢
  simp [World.setCell, Array.getElem?_modify, h]
theorem PrAt.below {B : Nat} (h : PrAt w r x) (hg : Below B w w') (hr : r < B) : PrAt w' r x := (hg.block r hr).trans h
theorem PrAt.go (h : PrAt w r x) (hg : Below w.heap.size w w') : PrAt w' r x := h.below hg h.lt
theorem PrAt.far (h : PrAt w r x) {c k : Nat} (v : Value) (hc : r ≠ c) : PrAt (w.setCell ⟨c, k, none⟩ v) r x := by
  unfold PrAt at h ⊢
  simp [World.setCell, Array.getElem?_modify, h, hc.symm]
end
def prZ : Pr := ⟨⟨0, 0, false⟩, ⟨0, 0, false⟩, false⟩
def PrRes (x : Pr) (w : World) (e : Ending) (w' : World) : Prop := e = .returned (.agg #[.int .i64 x.lo.n, .int .i64 x.lo.d, .bool x.lo.c, .int .i64 x.hi.n, .int .i64 x.hi.d, .bool x.hi.c, .bool x.no]) ∧ Below w.heap.size w w'
/-- inside of narrow: the interval at g, the result's block at g1. -/
structure Nw11 (g g1 : Nat) (x : Pr) (w0 w : World) : Prop where
  at_ : PrAt w g x
  z : PrAt w g1 prZ
  b : Below w0.heap.size w0 w
  l0 : w0.heap.size ≤ g
  l1 : w0.heap.size ≤ g1
  ne : g ≠ g1
theorem Nw11.go {g g1 : Nat} {x : Pr} {w0 w w' : World} (h : Nw11 g g1 x w0 w) (hb : Below w.heap.size w w') : Nw11 g g1 x w0 w' := ⟨h.at_.go hb, h.z.go hb, h.b.trans (hb.mono h.b.size), h.l0, h.l1, h.ne⟩
theorem Nw11.setlo {g g1 : Nat} {x : Pr} {w0 w : World} (h : Nw11 g g1 x w0 w) (b : Bd) : Nw11 g g1 ⟨b, x.hi, x.no⟩ w0 (((w.setCell ⟨g, 0, none⟩ (.int .i64 b.n)).setCell ⟨g, 1, none⟩ (.int .i64 b.d)).setCell ⟨g, 2, none⟩ (.bool b.c)) := ⟨h.at_.setlo b, ((h.z.far _ h.ne.symm).far _ h.ne.symm).far _ h.ne.symm, below_set3 h.b h.l0 _ _ _ _ _ _, h.l0, h.l1, h.ne⟩
theorem Nw11.sethi {g g1 : Nat} {x : Pr} {w0 w : World} (h : Nw11 g g1 x w0 w) (b : Bd) : Nw11 g g1 ⟨x.lo, b, x.no⟩ w0 (((w.setCell ⟨g, 3, none⟩ (.int .i64 b.n)).setCell ⟨g, 4, none⟩ (.int .i64 b.d)).setCell ⟨g, 5, none⟩ (.bool b.c)) := ⟨h.at_.sethi b, ((h.z.far _ h.ne.symm).far _ h.ne.symm).far _ h.ne.symm, below_set3 h.b h.l0 _ _ _ _ _ _, h.l0, h.l1, h.ne⟩
theorem Nw11.setno {g g1 : Nat} {x : Pr} {w0 w : World} (h : Nw11 g g1 x w0 w) (b : Bool) : Nw11 g g1 ⟨x.lo, x.hi, b⟩ w0 (w.setCell ⟨g, 6, none⟩ (.bool b)) := ⟨h.at_.setno b, h.z.far _ h.ne.symm, h.b.setCell h.l0 _, h.l0, h.l1, h.ne⟩
theorem Nw11.new (w : World) (x : Pr) : Nw11 w.heap.size (w.heap.size + 1) x w ((w.alloc (.cells #[.int .i64 x.lo.n, .int .i64 x.lo.d, .bool x.lo.c, .int .i64 x.hi.n, .int .i64 x.hi.d, .bool x.hi.c, .bool x.no] 108)).alloc (.cells #[.int .i64 0, .int .i64 0, .bool false, .int .i64 0, .int .i64 0, .bool false, .bool false] 108)) := by
  obtain ⟨h0, h1⟩ := heap2 w (.cells #[.int .i64 x.lo.n, .int .i64 x.lo.d, .bool x.lo.c, .int .i64 x.hi.n, .int .i64 x.hi.d, .bool x.hi.c, .bool x.no] 108) (.cells #[.int .i64 0, .int .i64 0, .bool false, .int .i64 0, .int .i64 0, .bool false, .bool false] 108)
  exact ⟨h0, h1, ((Below.refl _ _).alloc (Nat.le_refl _) _).alloc (by simp) _, Nat.le_refl _, by omega, by omega⟩
theorem below_set7 {B r : Nat} {W w : World} (h : Below B W w) (hr : B ≤ r) (a b c d e f g : Value) : Below B W (((((((w.setCell ⟨r, 0, none⟩ a).setCell ⟨r, 1, none⟩ b).setCell ⟨r, 2, none⟩ c).setCell ⟨r, 3, none⟩ d).setCell ⟨r, 4, none⟩ e).setCell ⟨r, 5, none⟩ f).setCell ⟨r, 6, none⟩ g) := ((((((h.setCell hr _).setCell hr _).setCell hr _).setCell hr _).setCell hr _).setCell hr _).setCell hr _
set_option maxHeartbeats 16000000 in
theorem enar_pos_true (lo hi : Bd) (p d f g : Int) (w : World) (hi1 : BdIn lo) (hi2 : BdIn hi) (hp : 0 ≤ p ∧ p ≤ 1048576) (hd : -1048576 ≤ d ∧ d ≤ 1048576) (hf : 0 ≤ f ∧ f ≤ 1048576) (hg : 0 ≤ g ∧ g ≤ 1048576) (hk : 0 < d) : Calls Try.prog 78 #[.agg #[.int .i64 lo.n, .int .i64 lo.d, .bool lo.c, .int .i64 hi.n, .int .i64 hi.d, .bool hi.c, .bool true], .int .i64 p, .int .i64 d, .int .i64 f, .int .i64 g] w (PrRes (narR ⟨lo, hi, true⟩ p d f g) w) := by
  have HT : Hid (narR ⟨lo, hi, true⟩ p d f g = ⟨hiB lo ⟨f - p, d, false⟩, loB hi ⟨g - p, d, true⟩, true⟩) := Lib.hid (by unfold narR; rw [if_pos hk])
  rw [HT.out]; clear HT
  have HA := Lib.hid (fun w' => ehigher_any lo ⟨f - p, d, false⟩ w' hi1 (by unfold BdIn; simp only; omega))
  have HB := Lib.hid (fun w' => elower_any hi ⟨g - p, d, true⟩ w' hi2 (by unfold BdIn; simp only; omega))
  simp only at HA HB
  generalize hA : hiB lo ⟨f - p, d, false⟩ = ra at *
  generalize hB : loB hi ⟨g - p, d, true⟩ = rb at *
  clear hA hB
  have nd : ¬ d < 0 := by omega
  have ne0 : (d == 0) = false := by simp; omega
  have E0 := Lib.hid (Nw11.new w ⟨lo, hi, true⟩)
  simp only at E0
  clear hi1 hi2
  go_enter Try.func78, Try.ntmps78
  go_upto_region 1 with fail
  generalize World.alloc (World.alloc w _) _ = W at *
  generalize w.heap.size + 1 = g1 at *
  obtain ⟨g0, hgg⟩ : ∃ g0, g0 = w.heap.size := ⟨_, rfl⟩
  rw [← hgg] at E0
  simp only [← hgg]
  clear hgg
  obtain ⟨k0, k1, k2, k3, k4, k5, k6, kl⟩ : _ ∧ _ ∧ _ ∧ _ ∧ _ ∧ _ ∧ _ ∧ _ := ⟨E0.out.at_.c0, E0.out.at_.c1, E0.out.at_.c2, E0.out.at_.c3, E0.out.at_.c4, E0.out.at_.c5, E0.out.at_.c6, E0.out.at_.lt⟩
  go_wp2_with fail
  refine (HA.out _).mono ?_
  rintro e w1 ⟨rfl, hb⟩
  have D1 := Lib.hid (E0.out.go hb)
  clear k0 k1 k2 k3 k4 k5 k6 kl
  clear hb HA E0
  obtain ⟨k0, k1, k2, k3, k4, k5, k6, kl⟩ : _ ∧ _ ∧ _ ∧ _ ∧ _ ∧ _ ∧ _ ∧ _ := ⟨D1.out.at_.c0, D1.out.at_.c1, D1.out.at_.c2, D1.out.at_.c3, D1.out.at_.c4, D1.out.at_.c5, D1.out.at_.c6, D1.out.at_.lt⟩
  have f0 := D1.out.at_.froz 0; have f1 := D1.out.at_.froz 1; have f2 := D1.out.at_.froz 2
  have E1 := Lib.hid (D1.out.setlo ra)
  simp only at E1
  go_upto_region 3 with fail
  generalize World.setCell (World.setCell (World.setCell w1 _ _) _ _) _ _ = w2 at *
  clear k0 k1 k2 k3 k4 k5 k6 kl
  clear f0 f1 f2 D1
  obtain ⟨k0, k1, k2, k3, k4, k5, k6, kl⟩ : _ ∧ _ ∧ _ ∧ _ ∧ _ ∧ _ ∧ _ ∧ _ := ⟨E1.out.at_.c0, E1.out.at_.c1, E1.out.at_.c2, E1.out.at_.c3, E1.out.at_.c4, E1.out.at_.c5, E1.out.at_.c6, E1.out.at_.lt⟩
  go_wp2_with fail
  refine (HB.out _).mono ?_
  rintro e w3 ⟨rfl, hb⟩
  have D2 := Lib.hid (E1.out.go hb)
  clear k0 k1 k2 k3 k4 k5 k6 kl
  clear hb HB E1
  obtain ⟨k0, k1, k2, k3, k4, k5, k6, kl⟩ : _ ∧ _ ∧ _ ∧ _ ∧ _ ∧ _ ∧ _ ∧ _ := ⟨D2.out.at_.c0, D2.out.at_.c1, D2.out.at_.c2, D2.out.at_.c3, D2.out.at_.c4, D2.out.at_.c5, D2.out.at_.c6, D2.out.at_.lt⟩
  have f3 := D2.out.at_.froz 3; have f4 := D2.out.at_.froz 4; have f5 := D2.out.at_.froz 5
  have E2 := Lib.hid (D2.out.sethi rb)
  simp only at E2
  go_upto_region 4 with fail
  generalize World.setCell (World.setCell (World.setCell w3 _ _) _ _) _ _ = w4 at *
  clear k0 k1 k2 k3 k4 k5 k6 kl
  clear f3 f4 f5 D2
  obtain ⟨k0, k1, k2, k3, k4, k5, k6, kl⟩ : _ ∧ _ ∧ _ ∧ _ ∧ _ ∧ _ ∧ _ ∧ _ := ⟨E2.out.at_.c0, E2.out.at_.c1, E2.out.at_.c2, E2.out.at_.c3, E2.out.at_.c4, E2.out.at_.c5, E2.out.at_.c6, E2.out.at_.lt⟩
  have f6 := E2.out.at_.froz 6
  have E3 := Lib.hid (E2.out.setno true)
  simp only at E3
  go_upto_region 8 with fail
  generalize World.setCell w4 _ _ = w5 at *
  clear k0 k1 k2 k3 k4 k5 k6 kl
  clear f6 E2
  obtain ⟨k0, k1, k2, k3, k4, k5, k6, kl⟩ : _ ∧ _ ∧ _ ∧ _ ∧ _ ∧ _ ∧ _ ∧ _ := ⟨E3.out.at_.c0, E3.out.at_.c1, E3.out.at_.c2, E3.out.at_.c3, E3.out.at_.c4, E3.out.at_.c5, E3.out.at_.c6, E3.out.at_.lt⟩
  have z0 := E3.out.z.c0; have z1 := E3.out.z.c1; have z2 := E3.out.z.c2; have z3 := E3.out.z.c3; have z4 := E3.out.z.c4; have z5 := E3.out.z.c5; have z6 := E3.out.z.c6; have zl := E3.out.z.lt
  have f0 := E3.out.z.froz 0; have f1 := E3.out.z.froz 1; have f2 := E3.out.z.froz 2; have f3 := E3.out.z.froz 3; have f4 := E3.out.z.froz 4; have f5 := E3.out.z.froz 5; have f6 := E3.out.z.froz 6
  go_wp2_with fail
  refine bodyPost_ret (results_cell_row rfl _ _ g1 108 #[.int .i64 ra.n, .int .i64 ra.d, .bool ra.c, .int .i64 rb.n, .int .i64 rb.d, .bool rb.c, .bool true] (0, 0) _ rfl ?_ Try.underlying108 rfl (by kernel_rfl)) rfl ?_
  · exact E3.out.z.set7 ⟨ra, rb, true⟩
  · exact ⟨rfl, below_set7 E3.out.b E3.out.l1 _ _ _ _ _ _ _⟩
set_option maxHeartbeats 16000000 in
theorem enar_neg_true (lo hi : Bd) (p d f g : Int) (w : World) (hi1 : BdIn lo) (hi2 : BdIn hi) (hp : 0 ≤ p ∧ p ≤ 1048576) (hd : -1048576 ≤ d ∧ d ≤ 1048576) (hf : 0 ≤ f ∧ f ≤ 1048576) (hg : 0 ≤ g ∧ g ≤ 1048576) (hk : d < 0) : Calls Try.prog 78 #[.agg #[.int .i64 lo.n, .int .i64 lo.d, .bool lo.c, .int .i64 hi.n, .int .i64 hi.d, .bool hi.c, .bool true], .int .i64 p, .int .i64 d, .int .i64 f, .int .i64 g] w (PrRes (narR ⟨lo, hi, true⟩ p d f g) w) := by
  have HT : Hid (narR ⟨lo, hi, true⟩ p d f g = ⟨hiB lo ⟨p - g, -d, true⟩, loB hi ⟨p - f, -d, false⟩, true⟩) := Lib.hid (by unfold narR; rw [if_neg (by omega), if_pos hk])
  rw [HT.out]; clear HT
  have HA := Lib.hid (fun w' => ehigher_any lo ⟨p - g, -d, true⟩ w' hi1 (by unfold BdIn; simp only; omega))
  have HB := Lib.hid (fun w' => elower_any hi ⟨p - f, -d, false⟩ w' hi2 (by unfold BdIn; simp only; omega))
  simp only at HA HB
  generalize hA : hiB lo ⟨p - g, -d, true⟩ = ra at *
  generalize hB : loB hi ⟨p - f, -d, false⟩ = rb at *
  clear hA hB
  have nd : ¬ 0 < d := by omega
  have ne0 : (d == 0) = false := by simp; omega
  have E0 := Lib.hid (Nw11.new w ⟨lo, hi, true⟩)
  simp only at E0
  clear hi1 hi2
  go_enter Try.func78, Try.ntmps78
  go_upto_region 1 with fail
  generalize World.alloc (World.alloc w _) _ = W at *
  generalize w.heap.size + 1 = g1 at *
  obtain ⟨g0, hgg⟩ : ∃ g0, g0 = w.heap.size := ⟨_, rfl⟩
  rw [← hgg] at E0
  simp only [← hgg]
  clear hgg
  obtain ⟨k0, k1, k2, k3, k4, k5, k6, kl⟩ : _ ∧ _ ∧ _ ∧ _ ∧ _ ∧ _ ∧ _ ∧ _ := ⟨E0.out.at_.c0, E0.out.at_.c1, E0.out.at_.c2, E0.out.at_.c3, E0.out.at_.c4, E0.out.at_.c5, E0.out.at_.c6, E0.out.at_.lt⟩
  go_wp2_with fail
  refine (HA.out _).mono ?_
  rintro e w1 ⟨rfl, hb⟩
  have D1 := Lib.hid (E0.out.go hb)
  clear k0 k1 k2 k3 k4 k5 k6 kl
  clear hb HA E0
  obtain ⟨k0, k1, k2, k3, k4, k5, k6, kl⟩ : _ ∧ _ ∧ _ ∧ _ ∧ _ ∧ _ ∧ _ ∧ _ := ⟨D1.out.at_.c0, D1.out.at_.c1, D1.out.at_.c2, D1.out.at_.c3, D1.out.at_.c4, D1.out.at_.c5, D1.out.at_.c6, D1.out.at_.lt⟩
  have f0 := D1.out.at_.froz 0; have f1 := D1.out.at_.froz 1; have f2 := D1.out.at_.froz 2
  have E1 := Lib.hid (D1.out.setlo ra)
  simp only at E1
  go_upto_region 6 with fail
  generalize World.setCell (World.setCell (World.setCell w1 _ _) _ _) _ _ = w2 at *
  clear k0 k1 k2 k3 k4 k5 k6 kl
  clear f0 f1 f2 D1
  obtain ⟨k0, k1, k2, k3, k4, k5, k6, kl⟩ : _ ∧ _ ∧ _ ∧ _ ∧ _ ∧ _ ∧ _ ∧ _ := ⟨E1.out.at_.c0, E1.out.at_.c1, E1.out.at_.c2, E1.out.at_.c3, E1.out.at_.c4, E1.out.at_.c5, E1.out.at_.c6, E1.out.at_.lt⟩
  go_wp2_with fail
  refine (HB.out _).mono ?_
  rintro e w3 ⟨rfl, hb⟩
  have D2 := Lib.hid (E1.out.go hb)
  clear k0 k1 k2 k3 k4 k5 k6 kl
  clear hb HB E1
  obtain ⟨k0, k1, k2, k3, k4, k5, k6, kl⟩ : _ ∧ _ ∧ _ ∧ _ ∧ _ ∧ _ ∧ _ ∧ _ := ⟨D2.out.at_.c0, D2.out.at_.c1, D2.out.at_.c2, D2.out.at_.c3, D2.out.at_.c4, D2.out.at_.c5, D2.out.at_.c6, D2.out.at_.lt⟩
  have f3 := D2.out.at_.froz 3; have f4 := D2.out.at_.froz 4; have f5 := D2.out.at_.froz 5
  have E2 := Lib.hid (D2.out.sethi rb)
  simp only at E2
  go_upto_region 7 with fail
  generalize World.setCell (World.setCell (World.setCell w3 _ _) _ _) _ _ = w4 at *
  clear k0 k1 k2 k3 k4 k5 k6 kl
  clear f3 f4 f5 D2
  obtain ⟨k0, k1, k2, k3, k4, k5, k6, kl⟩ : _ ∧ _ ∧ _ ∧ _ ∧ _ ∧ _ ∧ _ ∧ _ := ⟨E2.out.at_.c0, E2.out.at_.c1, E2.out.at_.c2, E2.out.at_.c3, E2.out.at_.c4, E2.out.at_.c5, E2.out.at_.c6, E2.out.at_.lt⟩
  have f6 := E2.out.at_.froz 6
  have E3 := Lib.hid (E2.out.setno true)
  simp only at E3
  go_upto_region 8 with fail
  generalize World.setCell w4 _ _ = w5 at *
  clear k0 k1 k2 k3 k4 k5 k6 kl
  clear f6 E2
  obtain ⟨k0, k1, k2, k3, k4, k5, k6, kl⟩ : _ ∧ _ ∧ _ ∧ _ ∧ _ ∧ _ ∧ _ ∧ _ := ⟨E3.out.at_.c0, E3.out.at_.c1, E3.out.at_.c2, E3.out.at_.c3, E3.out.at_.c4, E3.out.at_.c5, E3.out.at_.c6, E3.out.at_.lt⟩
  have z0 := E3.out.z.c0; have z1 := E3.out.z.c1; have z2 := E3.out.z.c2; have z3 := E3.out.z.c3; have z4 := E3.out.z.c4; have z5 := E3.out.z.c5; have z6 := E3.out.z.c6; have zl := E3.out.z.lt
  have f0 := E3.out.z.froz 0; have f1 := E3.out.z.froz 1; have f2 := E3.out.z.froz 2; have f3 := E3.out.z.froz 3; have f4 := E3.out.z.froz 4; have f5 := E3.out.z.froz 5; have f6 := E3.out.z.froz 6
  go_wp2_with fail
  refine bodyPost_ret (results_cell_row rfl _ _ g1 108 #[.int .i64 ra.n, .int .i64 ra.d, .bool ra.c, .int .i64 rb.n, .int .i64 rb.d, .bool rb.c, .bool true] (0, 0) _ rfl ?_ Try.underlying108 rfl (by kernel_rfl)) rfl ?_
  · exact E3.out.z.set7 ⟨ra, rb, true⟩
  · exact ⟨rfl, below_set7 E3.out.b E3.out.l1 _ _ _ _ _ _ _⟩
set_option maxHeartbeats 16000000 in
theorem enar_pos_false (lo hi : Bd) (p d f g : Int) (w : World) (hi1 : BdIn lo) (hi2 : BdIn hi) (hp : 0 ≤ p ∧ p ≤ 1048576) (hd : -1048576 ≤ d ∧ d ≤ 1048576) (hf : 0 ≤ f ∧ f ≤ 1048576) (hg : 0 ≤ g ∧ g ≤ 1048576) (hk : 0 < d) : Calls Try.prog 78 #[.agg #[.int .i64 lo.n, .int .i64 lo.d, .bool lo.c, .int .i64 hi.n, .int .i64 hi.d, .bool hi.c, .bool false], .int .i64 p, .int .i64 d, .int .i64 f, .int .i64 g] w (PrRes (narR ⟨lo, hi, false⟩ p d f g) w) := by
  have HT : Hid (narR ⟨lo, hi, false⟩ p d f g = ⟨hiB lo ⟨f - p, d, false⟩, loB hi ⟨g - p, d, true⟩, false⟩) := Lib.hid (by unfold narR; rw [if_pos hk])
  rw [HT.out]; clear HT
  have HA := Lib.hid (fun w' => ehigher_any lo ⟨f - p, d, false⟩ w' hi1 (by unfold BdIn; simp only; omega))
  have HB := Lib.hid (fun w' => elower_any hi ⟨g - p, d, true⟩ w' hi2 (by unfold BdIn; simp only; omega))
  simp only at HA HB
  generalize hA : hiB lo ⟨f - p, d, false⟩ = ra at *
  generalize hB : loB hi ⟨g - p, d, true⟩ = rb at *
  clear hA hB
  have nd : ¬ d < 0 := by omega
  have ne0 : (d == 0) = false := by simp; omega
  have E0 := Lib.hid (Nw11.new w ⟨lo, hi, false⟩)
  simp only at E0
  clear hi1 hi2
  go_enter Try.func78, Try.ntmps78
  go_upto_region 1 with fail
  generalize World.alloc (World.alloc w _) _ = W at *
  generalize w.heap.size + 1 = g1 at *
  obtain ⟨g0, hgg⟩ : ∃ g0, g0 = w.heap.size := ⟨_, rfl⟩
  rw [← hgg] at E0
  simp only [← hgg]
  clear hgg
  obtain ⟨k0, k1, k2, k3, k4, k5, k6, kl⟩ : _ ∧ _ ∧ _ ∧ _ ∧ _ ∧ _ ∧ _ ∧ _ := ⟨E0.out.at_.c0, E0.out.at_.c1, E0.out.at_.c2, E0.out.at_.c3, E0.out.at_.c4, E0.out.at_.c5, E0.out.at_.c6, E0.out.at_.lt⟩
  go_wp2_with fail
  refine (HA.out _).mono ?_
  rintro e w1 ⟨rfl, hb⟩
  have D1 := Lib.hid (E0.out.go hb)
  clear k0 k1 k2 k3 k4 k5 k6 kl
  clear hb HA E0
  obtain ⟨k0, k1, k2, k3, k4, k5, k6, kl⟩ : _ ∧ _ ∧ _ ∧ _ ∧ _ ∧ _ ∧ _ ∧ _ := ⟨D1.out.at_.c0, D1.out.at_.c1, D1.out.at_.c2, D1.out.at_.c3, D1.out.at_.c4, D1.out.at_.c5, D1.out.at_.c6, D1.out.at_.lt⟩
  have f0 := D1.out.at_.froz 0; have f1 := D1.out.at_.froz 1; have f2 := D1.out.at_.froz 2
  have E1 := Lib.hid (D1.out.setlo ra)
  simp only at E1
  go_upto_region 3 with fail
  generalize World.setCell (World.setCell (World.setCell w1 _ _) _ _) _ _ = w2 at *
  clear k0 k1 k2 k3 k4 k5 k6 kl
  clear f0 f1 f2 D1
  obtain ⟨k0, k1, k2, k3, k4, k5, k6, kl⟩ : _ ∧ _ ∧ _ ∧ _ ∧ _ ∧ _ ∧ _ ∧ _ := ⟨E1.out.at_.c0, E1.out.at_.c1, E1.out.at_.c2, E1.out.at_.c3, E1.out.at_.c4, E1.out.at_.c5, E1.out.at_.c6, E1.out.at_.lt⟩
  go_wp2_with fail
  refine (HB.out _).mono ?_
  rintro e w3 ⟨rfl, hb⟩
  have D2 := Lib.hid (E1.out.go hb)
  clear k0 k1 k2 k3 k4 k5 k6 kl
  clear hb HB E1
  obtain ⟨k0, k1, k2, k3, k4, k5, k6, kl⟩ : _ ∧ _ ∧ _ ∧ _ ∧ _ ∧ _ ∧ _ ∧ _ := ⟨D2.out.at_.c0, D2.out.at_.c1, D2.out.at_.c2, D2.out.at_.c3, D2.out.at_.c4, D2.out.at_.c5, D2.out.at_.c6, D2.out.at_.lt⟩
  have f3 := D2.out.at_.froz 3; have f4 := D2.out.at_.froz 4; have f5 := D2.out.at_.froz 5
  have E2 := Lib.hid (D2.out.sethi rb)
  simp only at E2
  go_upto_region 4 with fail
  generalize World.setCell (World.setCell (World.setCell w3 _ _) _ _) _ _ = w4 at *
  clear k0 k1 k2 k3 k4 k5 k6 kl
  clear f3 f4 f5 D2
  obtain ⟨k0, k1, k2, k3, k4, k5, k6, kl⟩ : _ ∧ _ ∧ _ ∧ _ ∧ _ ∧ _ ∧ _ ∧ _ := ⟨E2.out.at_.c0, E2.out.at_.c1, E2.out.at_.c2, E2.out.at_.c3, E2.out.at_.c4, E2.out.at_.c5, E2.out.at_.c6, E2.out.at_.lt⟩
  have f6 := E2.out.at_.froz 6
  have E3 := Lib.hid (E2.out.setno false)
  simp only at E3
  go_upto_region 8 with fail
  generalize World.setCell w4 _ _ = w5 at *
  clear k0 k1 k2 k3 k4 k5 k6 kl
  clear f6 E2
  obtain ⟨k0, k1, k2, k3, k4, k5, k6, kl⟩ : _ ∧ _ ∧ _ ∧ _ ∧ _ ∧ _ ∧ _ ∧ _ := ⟨E3.out.at_.c0, E3.out.at_.c1, E3.out.at_.c2, E3.out.at_.c3, E3.out.at_.c4, E3.out.at_.c5, E3.out.at_.c6, E3.out.at_.lt⟩
  have z0 := E3.out.z.c0; have z1 := E3.out.z.c1; have z2 := E3.out.z.c2; have z3 := E3.out.z.c3; have z4 := E3.out.z.c4; have z5 := E3.out.z.c5; have z6 := E3.out.z.c6; have zl := E3.out.z.lt
  have f0 := E3.out.z.froz 0; have f1 := E3.out.z.froz 1; have f2 := E3.out.z.froz 2; have f3 := E3.out.z.froz 3; have f4 := E3.out.z.froz 4; have f5 := E3.out.z.froz 5; have f6 := E3.out.z.froz 6
  go_wp2_with fail
  refine bodyPost_ret (results_cell_row rfl _ _ g1 108 #[.int .i64 ra.n, .int .i64 ra.d, .bool ra.c, .int .i64 rb.n, .int .i64 rb.d, .bool rb.c, .bool false] (0, 0) _ rfl ?_ Try.underlying108 rfl (by kernel_rfl)) rfl ?_
  · exact E3.out.z.set7 ⟨ra, rb, false⟩
  · exact ⟨rfl, below_set7 E3.out.b E3.out.l1 _ _ _ _ _ _ _⟩
set_option maxHeartbeats 16000000 in
theorem enar_neg_false (lo hi : Bd) (p d f g : Int) (w : World) (hi1 : BdIn lo) (hi2 : BdIn hi) (hp : 0 ≤ p ∧ p ≤ 1048576) (hd : -1048576 ≤ d ∧ d ≤ 1048576) (hf : 0 ≤ f ∧ f ≤ 1048576) (hg : 0 ≤ g ∧ g ≤ 1048576) (hk : d < 0) : Calls Try.prog 78 #[.agg #[.int .i64 lo.n, .int .i64 lo.d, .bool lo.c, .int .i64 hi.n, .int .i64 hi.d, .bool hi.c, .bool false], .int .i64 p, .int .i64 d, .int .i64 f, .int .i64 g] w (PrRes (narR ⟨lo, hi, false⟩ p d f g) w) := by
  have HT : Hid (narR ⟨lo, hi, false⟩ p d f g = ⟨hiB lo ⟨p - g, -d, true⟩, loB hi ⟨p - f, -d, false⟩, false⟩) := Lib.hid (by unfold narR; rw [if_neg (by omega), if_pos hk])
  rw [HT.out]; clear HT
  have HA := Lib.hid (fun w' => ehigher_any lo ⟨p - g, -d, true⟩ w' hi1 (by unfold BdIn; simp only; omega))
  have HB := Lib.hid (fun w' => elower_any hi ⟨p - f, -d, false⟩ w' hi2 (by unfold BdIn; simp only; omega))
  simp only at HA HB
  generalize hA : hiB lo ⟨p - g, -d, true⟩ = ra at *
  generalize hB : loB hi ⟨p - f, -d, false⟩ = rb at *
  clear hA hB
  have nd : ¬ 0 < d := by omega
  have ne0 : (d == 0) = false := by simp; omega
  have E0 := Lib.hid (Nw11.new w ⟨lo, hi, false⟩)
  simp only at E0
  clear hi1 hi2
  go_enter Try.func78, Try.ntmps78
  go_upto_region 1 with fail
  generalize World.alloc (World.alloc w _) _ = W at *
  generalize w.heap.size + 1 = g1 at *
  obtain ⟨g0, hgg⟩ : ∃ g0, g0 = w.heap.size := ⟨_, rfl⟩
  rw [← hgg] at E0
  simp only [← hgg]
  clear hgg
  obtain ⟨k0, k1, k2, k3, k4, k5, k6, kl⟩ : _ ∧ _ ∧ _ ∧ _ ∧ _ ∧ _ ∧ _ ∧ _ := ⟨E0.out.at_.c0, E0.out.at_.c1, E0.out.at_.c2, E0.out.at_.c3, E0.out.at_.c4, E0.out.at_.c5, E0.out.at_.c6, E0.out.at_.lt⟩
  go_wp2_with fail
  refine (HA.out _).mono ?_
  rintro e w1 ⟨rfl, hb⟩
  have D1 := Lib.hid (E0.out.go hb)
  clear k0 k1 k2 k3 k4 k5 k6 kl
  clear hb HA E0
  obtain ⟨k0, k1, k2, k3, k4, k5, k6, kl⟩ : _ ∧ _ ∧ _ ∧ _ ∧ _ ∧ _ ∧ _ ∧ _ := ⟨D1.out.at_.c0, D1.out.at_.c1, D1.out.at_.c2, D1.out.at_.c3, D1.out.at_.c4, D1.out.at_.c5, D1.out.at_.c6, D1.out.at_.lt⟩
  have f0 := D1.out.at_.froz 0; have f1 := D1.out.at_.froz 1; have f2 := D1.out.at_.froz 2
  have E1 := Lib.hid (D1.out.setlo ra)
  simp only at E1
  go_upto_region 6 with fail
  generalize World.setCell (World.setCell (World.setCell w1 _ _) _ _) _ _ = w2 at *
  clear k0 k1 k2 k3 k4 k5 k6 kl
  clear f0 f1 f2 D1
  obtain ⟨k0, k1, k2, k3, k4, k5, k6, kl⟩ : _ ∧ _ ∧ _ ∧ _ ∧ _ ∧ _ ∧ _ ∧ _ := ⟨E1.out.at_.c0, E1.out.at_.c1, E1.out.at_.c2, E1.out.at_.c3, E1.out.at_.c4, E1.out.at_.c5, E1.out.at_.c6, E1.out.at_.lt⟩
  go_wp2_with fail
  refine (HB.out _).mono ?_
  rintro e w3 ⟨rfl, hb⟩
  have D2 := Lib.hid (E1.out.go hb)
  clear k0 k1 k2 k3 k4 k5 k6 kl
  clear hb HB E1
  obtain ⟨k0, k1, k2, k3, k4, k5, k6, kl⟩ : _ ∧ _ ∧ _ ∧ _ ∧ _ ∧ _ ∧ _ ∧ _ := ⟨D2.out.at_.c0, D2.out.at_.c1, D2.out.at_.c2, D2.out.at_.c3, D2.out.at_.c4, D2.out.at_.c5, D2.out.at_.c6, D2.out.at_.lt⟩
  have f3 := D2.out.at_.froz 3; have f4 := D2.out.at_.froz 4; have f5 := D2.out.at_.froz 5
  have E2 := Lib.hid (D2.out.sethi rb)
  simp only at E2
  go_upto_region 7 with fail
  generalize World.setCell (World.setCell (World.setCell w3 _ _) _ _) _ _ = w4 at *
  clear k0 k1 k2 k3 k4 k5 k6 kl
  clear f3 f4 f5 D2
  obtain ⟨k0, k1, k2, k3, k4, k5, k6, kl⟩ : _ ∧ _ ∧ _ ∧ _ ∧ _ ∧ _ ∧ _ ∧ _ := ⟨E2.out.at_.c0, E2.out.at_.c1, E2.out.at_.c2, E2.out.at_.c3, E2.out.at_.c4, E2.out.at_.c5, E2.out.at_.c6, E2.out.at_.lt⟩
  have f6 := E2.out.at_.froz 6
  have E3 := Lib.hid (E2.out.setno false)
  simp only at E3
  go_upto_region 8 with fail
  generalize World.setCell w4 _ _ = w5 at *
  clear k0 k1 k2 k3 k4 k5 k6 kl
  clear f6 E2
  obtain ⟨k0, k1, k2, k3, k4, k5, k6, kl⟩ : _ ∧ _ ∧ _ ∧ _ ∧ _ ∧ _ ∧ _ ∧ _ := ⟨E3.out.at_.c0, E3.out.at_.c1, E3.out.at_.c2, E3.out.at_.c3, E3.out.at_.c4, E3.out.at_.c5, E3.out.at_.c6, E3.out.at_.lt⟩
  have z0 := E3.out.z.c0; have z1 := E3.out.z.c1; have z2 := E3.out.z.c2; have z3 := E3.out.z.c3; have z4 := E3.out.z.c4; have z5 := E3.out.z.c5; have z6 := E3.out.z.c6; have zl := E3.out.z.lt
  have f0 := E3.out.z.froz 0; have f1 := E3.out.z.froz 1; have f2 := E3.out.z.froz 2; have f3 := E3.out.z.froz 3; have f4 := E3.out.z.froz 4; have f5 := E3.out.z.froz 5; have f6 := E3.out.z.froz 6
  go_wp2_with fail
  refine bodyPost_ret (results_cell_row rfl _ _ g1 108 #[.int .i64 ra.n, .int .i64 ra.d, .bool ra.c, .int .i64 rb.n, .int .i64 rb.d, .bool rb.c, .bool false] (0, 0) _ rfl ?_ Try.underlying108 rfl (by kernel_rfl)) rfl ?_
  · exact E3.out.z.set7 ⟨ra, rb, false⟩
  · exact ⟨rfl, below_set7 E3.out.b E3.out.l1 _ _ _ _ _ _ _⟩
set_option maxHeartbeats 16000000 in
theorem enar_zero_true_any (lo hi : Bd) (p f g : Int) (w : World) (hi1 : BdIn lo) (hi2 : BdIn hi) (hp : 0 ≤ p ∧ p ≤ 1048576) (hf : 0 ≤ f ∧ f ≤ 1048576) (hg : 0 ≤ g ∧ g ≤ 1048576) : Calls Try.prog 78 #[.agg #[.int .i64 lo.n, .int .i64 lo.d, .bool lo.c, .int .i64 hi.n, .int .i64 hi.d, .bool hi.c, .bool true], .int .i64 p, .int .i64 0, .int .i64 f, .int .i64 g] w (PrRes (narR ⟨lo, hi, true⟩ p 0 f g) w) := by
  have HT : Hid (narR ⟨lo, hi, true⟩ p 0 f g = ⟨lo, hi, true⟩) := Lib.hid (by unfold narR; rw [if_neg (by omega), if_neg (by omega)]; rfl)
  rw [HT.out]; clear HT
  have E0 := Lib.hid (Nw11.new w ⟨lo, hi, true⟩)
  simp only at E0
  clear hi1 hi2
  go_enter Try.func78, Try.ntmps78
  go_upto_region 1 with fail
  generalize World.alloc (World.alloc w _) _ = W at *
  generalize w.heap.size + 1 = g1 at *
  obtain ⟨g0, hgg⟩ : ∃ g0, g0 = w.heap.size := ⟨_, rfl⟩
  rw [← hgg] at E0
  simp only [← hgg]
  clear hgg
  obtain ⟨k0, k1, k2, k3, k4, k5, k6, kl⟩ : _ ∧ _ ∧ _ ∧ _ ∧ _ ∧ _ ∧ _ ∧ _ := ⟨E0.out.at_.c0, E0.out.at_.c1, E0.out.at_.c2, E0.out.at_.c3, E0.out.at_.c4, E0.out.at_.c5, E0.out.at_.c6, E0.out.at_.lt⟩
  have f6 := E0.out.at_.froz 6
  have E3 := Lib.hid (E0.out.setno true)
  simp only at E3
  go_upto_region 8 with fail
  generalize World.setCell W _ _ = w5 at *
  clear k0 k1 k2 k3 k4 k5 k6 kl
  clear f6 E0
  obtain ⟨k0, k1, k2, k3, k4, k5, k6, kl⟩ : _ ∧ _ ∧ _ ∧ _ ∧ _ ∧ _ ∧ _ ∧ _ := ⟨E3.out.at_.c0, E3.out.at_.c1, E3.out.at_.c2, E3.out.at_.c3, E3.out.at_.c4, E3.out.at_.c5, E3.out.at_.c6, E3.out.at_.lt⟩
  have z0 := E3.out.z.c0; have z1 := E3.out.z.c1; have z2 := E3.out.z.c2; have z3 := E3.out.z.c3; have z4 := E3.out.z.c4; have z5 := E3.out.z.c5; have z6 := E3.out.z.c6; have zl := E3.out.z.lt
  have f0 := E3.out.z.froz 0; have f1 := E3.out.z.froz 1; have f2 := E3.out.z.froz 2; have f3 := E3.out.z.froz 3; have f4 := E3.out.z.froz 4; have f5 := E3.out.z.froz 5; have f6 := E3.out.z.froz 6
  go_wp2_with fail
  refine bodyPost_ret (results_cell_row rfl _ _ g1 108 #[.int .i64 lo.n, .int .i64 lo.d, .bool lo.c, .int .i64 hi.n, .int .i64 hi.d, .bool hi.c, .bool true] (0, 0) _ rfl ?_ Try.underlying108 rfl (by kernel_rfl)) rfl ?_
  · exact E3.out.z.set7 ⟨lo, hi, true⟩
  · exact ⟨rfl, below_set7 E3.out.b E3.out.l1 _ _ _ _ _ _ _⟩
set_option maxHeartbeats 16000000 in
theorem enar_zero_false_low (lo hi : Bd) (p f g : Int) (w : World) (hi1 : BdIn lo) (hi2 : BdIn hi) (hp : 0 ≤ p ∧ p ≤ 1048576) (hf : 0 ≤ f ∧ f ≤ 1048576) (hg : 0 ≤ g ∧ g ≤ 1048576) (hk : p < f) : Calls Try.prog 78 #[.agg #[.int .i64 lo.n, .int .i64 lo.d, .bool lo.c, .int .i64 hi.n, .int .i64 hi.d, .bool hi.c, .bool false], .int .i64 p, .int .i64 0, .int .i64 f, .int .i64 g] w (PrRes (narR ⟨lo, hi, false⟩ p 0 f g) w) := by
  have HT : Hid (narR ⟨lo, hi, false⟩ p 0 f g = ⟨lo, hi, true⟩) := Lib.hid (by unfold narR; rw [if_neg (by omega), if_neg (by omega), decide_eq_true hk]; rfl)
  rw [HT.out]; clear HT
  have E0 := Lib.hid (Nw11.new w ⟨lo, hi, false⟩)
  simp only at E0
  clear hi1 hi2
  go_enter Try.func78, Try.ntmps78
  go_upto_region 1 with fail
  generalize World.alloc (World.alloc w _) _ = W at *
  generalize w.heap.size + 1 = g1 at *
  obtain ⟨g0, hgg⟩ : ∃ g0, g0 = w.heap.size := ⟨_, rfl⟩
  rw [← hgg] at E0
  simp only [← hgg]
  clear hgg
  obtain ⟨k0, k1, k2, k3, k4, k5, k6, kl⟩ : _ ∧ _ ∧ _ ∧ _ ∧ _ ∧ _ ∧ _ ∧ _ := ⟨E0.out.at_.c0, E0.out.at_.c1, E0.out.at_.c2, E0.out.at_.c3, E0.out.at_.c4, E0.out.at_.c5, E0.out.at_.c6, E0.out.at_.lt⟩
  have f6 := E0.out.at_.froz 6
  have E3 := Lib.hid (E0.out.setno true)
  simp only at E3
  go_upto_region 8 with fail
  generalize World.setCell W _ _ = w5 at *
  clear k0 k1 k2 k3 k4 k5 k6 kl
  clear f6 E0
  obtain ⟨k0, k1, k2, k3, k4, k5, k6, kl⟩ : _ ∧ _ ∧ _ ∧ _ ∧ _ ∧ _ ∧ _ ∧ _ := ⟨E3.out.at_.c0, E3.out.at_.c1, E3.out.at_.c2, E3.out.at_.c3, E3.out.at_.c4, E3.out.at_.c5, E3.out.at_.c6, E3.out.at_.lt⟩
  have z0 := E3.out.z.c0; have z1 := E3.out.z.c1; have z2 := E3.out.z.c2; have z3 := E3.out.z.c3; have z4 := E3.out.z.c4; have z5 := E3.out.z.c5; have z6 := E3.out.z.c6; have zl := E3.out.z.lt
  have f0 := E3.out.z.froz 0; have f1 := E3.out.z.froz 1; have f2 := E3.out.z.froz 2; have f3 := E3.out.z.froz 3; have f4 := E3.out.z.froz 4; have f5 := E3.out.z.froz 5; have f6 := E3.out.z.froz 6
  go_wp2_with fail
  refine bodyPost_ret (results_cell_row rfl _ _ g1 108 #[.int .i64 lo.n, .int .i64 lo.d, .bool lo.c, .int .i64 hi.n, .int .i64 hi.d, .bool hi.c, .bool true] (0, 0) _ rfl ?_ Try.underlying108 rfl (by kernel_rfl)) rfl ?_
  · exact E3.out.z.set7 ⟨lo, hi, true⟩
  · exact ⟨rfl, below_set7 E3.out.b E3.out.l1 _ _ _ _ _ _ _⟩
set_option maxHeartbeats 16000000 in
theorem enar_zero_false_high (lo hi : Bd) (p f g : Int) (w : World) (hi1 : BdIn lo) (hi2 : BdIn hi) (hp : 0 ≤ p ∧ p ≤ 1048576) (hf : 0 ≤ f ∧ f ≤ 1048576) (hg : 0 ≤ g ∧ g ≤ 1048576) (h0 : ¬ p < f) (hk : g ≤ p) : Calls Try.prog 78 #[.agg #[.int .i64 lo.n, .int .i64 lo.d, .bool lo.c, .int .i64 hi.n, .int .i64 hi.d, .bool hi.c, .bool false], .int .i64 p, .int .i64 0, .int .i64 f, .int .i64 g] w (PrRes (narR ⟨lo, hi, false⟩ p 0 f g) w) := by
  have HT : Hid (narR ⟨lo, hi, false⟩ p 0 f g = ⟨lo, hi, true⟩) := Lib.hid (by unfold narR; rw [if_neg (by omega), if_neg (by omega), decide_eq_false h0, decide_eq_true hk]; rfl)
  rw [HT.out]; clear HT
  have E0 := Lib.hid (Nw11.new w ⟨lo, hi, false⟩)
  simp only at E0
  clear hi1 hi2
  go_enter Try.func78, Try.ntmps78
  go_upto_region 1 with fail
  generalize World.alloc (World.alloc w _) _ = W at *
  generalize w.heap.size + 1 = g1 at *
  obtain ⟨g0, hgg⟩ : ∃ g0, g0 = w.heap.size := ⟨_, rfl⟩
  rw [← hgg] at E0
  simp only [← hgg]
  clear hgg
  obtain ⟨k0, k1, k2, k3, k4, k5, k6, kl⟩ : _ ∧ _ ∧ _ ∧ _ ∧ _ ∧ _ ∧ _ ∧ _ := ⟨E0.out.at_.c0, E0.out.at_.c1, E0.out.at_.c2, E0.out.at_.c3, E0.out.at_.c4, E0.out.at_.c5, E0.out.at_.c6, E0.out.at_.lt⟩
  have f6 := E0.out.at_.froz 6
  have E3 := Lib.hid (E0.out.setno true)
  simp only at E3
  go_upto_region 8 with fail
  generalize World.setCell W _ _ = w5 at *
  clear k0 k1 k2 k3 k4 k5 k6 kl
  clear f6 E0
  obtain ⟨k0, k1, k2, k3, k4, k5, k6, kl⟩ : _ ∧ _ ∧ _ ∧ _ ∧ _ ∧ _ ∧ _ ∧ _ := ⟨E3.out.at_.c0, E3.out.at_.c1, E3.out.at_.c2, E3.out.at_.c3, E3.out.at_.c4, E3.out.at_.c5, E3.out.at_.c6, E3.out.at_.lt⟩
  have z0 := E3.out.z.c0; have z1 := E3.out.z.c1; have z2 := E3.out.z.c2; have z3 := E3.out.z.c3; have z4 := E3.out.z.c4; have z5 := E3.out.z.c5; have z6 := E3.out.z.c6; have zl := E3.out.z.lt
  have f0 := E3.out.z.froz 0; have f1 := E3.out.z.froz 1; have f2 := E3.out.z.froz 2; have f3 := E3.out.z.froz 3; have f4 := E3.out.z.froz 4; have f5 := E3.out.z.froz 5; have f6 := E3.out.z.froz 6
  go_wp2_with fail
  refine bodyPost_ret (results_cell_row rfl _ _ g1 108 #[.int .i64 lo.n, .int .i64 lo.d, .bool lo.c, .int .i64 hi.n, .int .i64 hi.d, .bool hi.c, .bool true] (0, 0) _ rfl ?_ Try.underlying108 rfl (by kernel_rfl)) rfl ?_
  · exact E3.out.z.set7 ⟨lo, hi, true⟩
  · exact ⟨rfl, below_set7 E3.out.b E3.out.l1 _ _ _ _ _ _ _⟩
set_option maxHeartbeats 16000000 in
theorem enar_zero_false_in (lo hi : Bd) (p f g : Int) (w : World) (hi1 : BdIn lo) (hi2 : BdIn hi) (hp : 0 ≤ p ∧ p ≤ 1048576) (hf : 0 ≤ f ∧ f ≤ 1048576) (hg : 0 ≤ g ∧ g ≤ 1048576) (h0 : ¬ p < f) (hk : ¬ g ≤ p) : Calls Try.prog 78 #[.agg #[.int .i64 lo.n, .int .i64 lo.d, .bool lo.c, .int .i64 hi.n, .int .i64 hi.d, .bool hi.c, .bool false], .int .i64 p, .int .i64 0, .int .i64 f, .int .i64 g] w (PrRes (narR ⟨lo, hi, false⟩ p 0 f g) w) := by
  have HT : Hid (narR ⟨lo, hi, false⟩ p 0 f g = ⟨lo, hi, false⟩) := Lib.hid (by unfold narR; rw [if_neg (by omega), if_neg (by omega), decide_eq_false h0, decide_eq_false hk]; rfl)
  rw [HT.out]; clear HT
  have E0 := Lib.hid (Nw11.new w ⟨lo, hi, false⟩)
  simp only at E0
  clear hi1 hi2
  go_enter Try.func78, Try.ntmps78
  go_upto_region 1 with fail
  generalize World.alloc (World.alloc w _) _ = W at *
  generalize w.heap.size + 1 = g1 at *
  obtain ⟨g0, hgg⟩ : ∃ g0, g0 = w.heap.size := ⟨_, rfl⟩
  rw [← hgg] at E0
  simp only [← hgg]
  clear hgg
  obtain ⟨k0, k1, k2, k3, k4, k5, k6, kl⟩ : _ ∧ _ ∧ _ ∧ _ ∧ _ ∧ _ ∧ _ ∧ _ := ⟨E0.out.at_.c0, E0.out.at_.c1, E0.out.at_.c2, E0.out.at_.c3, E0.out.at_.c4, E0.out.at_.c5, E0.out.at_.c6, E0.out.at_.lt⟩
  have f6 := E0.out.at_.froz 6
  have E3 := Lib.hid (E0.out.setno false)
  simp only at E3
  go_upto_region 8 with fail
  generalize World.setCell W _ _ = w5 at *
  clear k0 k1 k2 k3 k4 k5 k6 kl
  clear f6 E0
  obtain ⟨k0, k1, k2, k3, k4, k5, k6, kl⟩ : _ ∧ _ ∧ _ ∧ _ ∧ _ ∧ _ ∧ _ ∧ _ := ⟨E3.out.at_.c0, E3.out.at_.c1, E3.out.at_.c2, E3.out.at_.c3, E3.out.at_.c4, E3.out.at_.c5, E3.out.at_.c6, E3.out.at_.lt⟩
  have z0 := E3.out.z.c0; have z1 := E3.out.z.c1; have z2 := E3.out.z.c2; have z3 := E3.out.z.c3; have z4 := E3.out.z.c4; have z5 := E3.out.z.c5; have z6 := E3.out.z.c6; have zl := E3.out.z.lt
  have f0 := E3.out.z.froz 0; have f1 := E3.out.z.froz 1; have f2 := E3.out.z.froz 2; have f3 := E3.out.z.froz 3; have f4 := E3.out.z.froz 4; have f5 := E3.out.z.froz 5; have f6 := E3.out.z.froz 6
  go_wp2_with fail
  refine bodyPost_ret (results_cell_row rfl _ _ g1 108 #[.int .i64 lo.n, .int .i64 lo.d, .bool lo.c, .int .i64 hi.n, .int .i64 hi.d, .bool hi.c, .bool false] (0, 0) _ rfl ?_ Try.underlying108 rfl (by kernel_rfl)) rfl ?_
  · exact E3.out.z.set7 ⟨lo, hi, false⟩
  · exact ⟨rfl, below_set7 E3.out.b E3.out.l1 _ _ _ _ _ _ _⟩
theorem enar_any (x : Pr) (p d f g : Int) (w : World) (hx : PrIn x) (hp : 0 ≤ p ∧ p ≤ 1048576) (hd : -1048576 ≤ d ∧ d ≤ 1048576) (hf : 0 ≤ f ∧ f ≤ 1048576) (hg : 0 ≤ g ∧ g ≤ 1048576) : Calls Try.prog 78 #[.agg #[.int .i64 x.lo.n, .int .i64 x.lo.d, .bool x.lo.c, .int .i64 x.hi.n, .int .i64 x.hi.d, .bool x.hi.c, .bool x.no], .int .i64 p, .int .i64 d, .int .i64 f, .int .i64 g] w (PrRes (narR x p d f g) w) := by
  obtain ⟨lo, hi, no⟩ := x
  rcases Int.lt_trichotomy d 0 with k | k | k
  · cases no with
    | true => exact enar_neg_true lo hi p d f g w hx.1 hx.2 hp hd hf hg k
    | false => exact enar_neg_false lo hi p d f g w hx.1 hx.2 hp hd hf hg k
  · subst k
    cases no with
    | true => exact enar_zero_true_any lo hi p f g w hx.1 hx.2 hp hf hg
    | false =>
      by_cases c1 : p < f
      · exact enar_zero_false_low lo hi p f g w hx.1 hx.2 hp hf hg c1
      · by_cases c2 : g ≤ p
        · exact enar_zero_false_high lo hi p f g w hx.1 hx.2 hp hf hg c1 c2
        · exact enar_zero_false_in lo hi p f g w hx.1 hx.2 hp hf hg c1 c2
  · cases no with
    | true => exact enar_pos_true lo hi p d f g w hx.1 hx.2 hp hd hf hg k
    | false => exact enar_pos_false lo hi p d f g w hx.1 hx.2 hp hd hf hg k
end Go.Proofs.Ytdnoadngfkiabaa
namespace Go.Proofs.Ytdnoadngfkiabaa
open Go.RowKit

theorem meetQ_append (i : Pr) (p v : V3) (l m : List Bx) : meetQ i p v (l ++ m) = (meetQ i p v l || meetQ i p v m) := by unfold meetQ; rw [List.any_append]
theorem meetQ_one (i : Pr) (p v : V3) (b : Bx) : meetQ i p v [b] = okR (narR3 i p v b) := by unfold meetQ; simp
theorem meetQ_in {i : Pr} {p v : V3} {l : List Bx} {b : Bx} (hb : b ∈ l) (h : okR (narR3 i p v b) = true) : meetQ i p v l = true := by unfold meetQ; exact List.any_eq_true.2 ⟨b, hb, h⟩
theorem narR3_in {i : Pr} (h : PrIn i) {p v : V3} {b : Bx} (hp : PtOk p) (hv : VOk v) (hb : BOk b) : PrIn (narR i p.x v.x b.r.X0 b.r.X1) ∧ PrIn (narR (narR i p.x v.x b.r.X0 b.r.X1) p.y v.y b.r.Y0 b.r.Y1) ∧ PrIn (narR3 i p v b) := by
  obtain ⟨⟨⟨x0, x1, x2⟩, y0, y1, y2⟩, z0, z1, z2⟩ := hb
  obtain ⟨p0, p1, p2⟩ := hp
  obtain ⟨v0, v1, v2⟩ := hv
  have k1 := narR_in h (p := p.x) (d := v.x) (f := b.r.X0) (e := b.r.X1) p0 v0 (by omega) (by omega)
  have k2 := narR_in k1 (p := p.y) (d := v.y) (f := b.r.Y0) (e := b.r.Y1) p1 v1 (by omega) (by omega)
  exact ⟨k1, k2, narR_in k2 (p := p.z) (d := v.z) (f := b.z0) (e := b.z1) (by omega) v2 (by omega) (by omega)⟩
/-- what a round of the reference's meets has: the interval at r, the point, the direction, the box in its row. -/
structure Rd11 (g gv r bb o : Nat) (p v : V3) (q : Bx) (x : Pr) (W w : World) : Prop where
  at_ : PrAt w r x
  a0 : w.cell? ⟨g, 0, none⟩ = some (.int .i64 p.x)
  a1 : w.cell? ⟨g, 1, none⟩ = some (.int .i64 p.y)
  a2 : w.cell? ⟨g, 2, none⟩ = some (.int .i64 p.z)
  b0 : w.cell? ⟨gv, 0, none⟩ = some (.int .i64 v.x)
  b1 : w.cell? ⟨gv, 1, none⟩ = some (.int .i64 v.y)
  b2 : w.cell? ⟨gv, 2, none⟩ = some (.int .i64 v.z)
  c0 : w.cell? ⟨bb, o, none⟩ = some (.int .i64 q.r.X0)
  c1 : w.cell? ⟨bb, o + 1, none⟩ = some (.int .i64 q.r.Y0)
  c2 : w.cell? ⟨bb, o + 2, none⟩ = some (.int .i64 q.r.X1)
  c3 : w.cell? ⟨bb, o + 3, none⟩ = some (.int .i64 q.r.Y1)
  c4 : w.cell? ⟨bb, o + 4, none⟩ = some (.int .i64 q.z0)
  c5 : w.cell? ⟨bb, o + 5, none⟩ = some (.int .i64 q.z1)
  lg : g < w.heap.size
  lv : gv < w.heap.size
  lr : r < w.heap.size
  lb : bb < w.heap.size
  bel : Below W.heap.size W w
  old : W.heap.size ≤ r
  n0 : r ≠ g
  n1 : r ≠ gv
  n2 : r ≠ bb
theorem Rd11.go {g gv r bb o : Nat} {p v : V3} {q : Bx} {x : Pr} {W w w' : World} (h : Rd11 g gv r bb o p v q x W w) (hb : Below w.heap.size w w') : Rd11 g gv r bb o p v q x W w' := by
  have cg := fun k => hb.cell (p := ⟨g, k, none⟩) h.lg
  have cv := fun k => hb.cell (p := ⟨gv, k, none⟩) h.lv
  have cb := fun k => hb.cell (p := ⟨bb, k, none⟩) h.lb
  exact ⟨h.at_.go hb, (cg _).trans h.a0, (cg _).trans h.a1, (cg _).trans h.a2, (cv _).trans h.b0, (cv _).trans h.b1, (cv _).trans h.b2, (cb _).trans h.c0, (cb _).trans h.c1, (cb _).trans h.c2, (cb _).trans h.c3, (cb _).trans h.c4, (cb _).trans h.c5, Nat.lt_of_lt_of_le h.lg hb.size, Nat.lt_of_lt_of_le h.lv hb.size, Nat.lt_of_lt_of_le h.lr hb.size, Nat.lt_of_lt_of_le h.lb hb.size, h.bel.trans (hb.mono h.bel.size), h.old, h.n0, h.n1, h.n2⟩
theorem set7_size (w : World) (r : Nat) (a b c d e f g : Value) : (((((((w.setCell ⟨r, 0, none⟩ a).setCell ⟨r, 1, none⟩ b).setCell ⟨r, 2, none⟩ c).setCell ⟨r, 3, none⟩ d).setCell ⟨r, 4, none⟩ e).setCell ⟨r, 5, none⟩ f).setCell ⟨r, 6, none⟩ g).heap.size = w.heap.size := by simp
theorem set7_block (w : World) (r k : Nat) (hk : r ≠ k) (a b c d e f g : Value) : (((((((w.setCell ⟨r, 0, none⟩ a).setCell ⟨r, 1, none⟩ b).setCell ⟨r, 2, none⟩ c).setCell ⟨r, 3, none⟩ d).setCell ⟨r, 4, none⟩ e).setCell ⟨r, 5, none⟩ f).setCell ⟨r, 6, none⟩ g).heap[k]? = w.heap[k]? := by
  simp [World.setCell, Array.getElem?_modify, hk]
theorem set7_cell (w : World) (r k j : Nat) (hk : r ≠ k) (a b c d e f g : Value) : (((((((w.setCell ⟨r, 0, none⟩ a).setCell ⟨r, 1, none⟩ b).setCell ⟨r, 2, none⟩ c).setCell ⟨r, 3, none⟩ d).setCell ⟨r, 4, none⟩ e).setCell ⟨r, 5, none⟩ f).setCell ⟨r, 6, none⟩ g).cell? ⟨k, j, none⟩ = w.cell? ⟨k, j, none⟩ := World.cell?_of_block (set7_block w r k hk a b c d e f g)
theorem Rd11.set {g gv r bb o : Nat} {p v : V3} {q : Bx} {x : Pr} {W w : World} (h : Rd11 g gv r bb o p v q x W w) (y : Pr) : Rd11 g gv r bb o p v q y W (((((((w.setCell ⟨r, 0, none⟩ (.int .i64 y.lo.n)).setCell ⟨r, 1, none⟩ (.int .i64 y.lo.d)).setCell ⟨r, 2, none⟩ (.bool y.lo.c)).setCell ⟨r, 3, none⟩ (.int .i64 y.hi.n)).setCell ⟨r, 4, none⟩ (.int .i64 y.hi.d)).setCell ⟨r, 5, none⟩ (.bool y.hi.c)).setCell ⟨r, 6, none⟩ (.bool y.no)) := by
  have cc := fun (k j : Nat) (hk : r ≠ k) => (set7_cell w r k j hk (.int .i64 y.lo.n) (.int .i64 y.lo.d) (.bool y.lo.c) (.int .i64 y.hi.n) (.int .i64 y.hi.d) (.bool y.hi.c) (.bool y.no))
  have hs := set7_size w r (.int .i64 y.lo.n) (.int .i64 y.lo.d) (.bool y.lo.c) (.int .i64 y.hi.n) (.int .i64 y.hi.d) (.bool y.hi.c) (.bool y.no)
  exact ⟨h.at_.set7 y, (cc _ _ h.n0).trans h.a0, (cc _ _ h.n0).trans h.a1, (cc _ _ h.n0).trans h.a2, (cc _ _ h.n1).trans h.b0, (cc _ _ h.n1).trans h.b1, (cc _ _ h.n1).trans h.b2, (cc _ _ h.n2).trans h.c0, (cc _ _ h.n2).trans h.c1, (cc _ _ h.n2).trans h.c2, (cc _ _ h.n2).trans h.c3, (cc _ _ h.n2).trans h.c4, (cc _ _ h.n2).trans h.c5, by rw [hs]; exact h.lg, by rw [hs]; exact h.lv, by rw [hs]; exact h.lr, by rw [hs]; exact h.lb, below_set7 h.bel h.old _ _ _ _ _ _ _, h.old, h.n0, h.n1, h.n2⟩
set_option maxHeartbeats 40000000 in
theorem emeets_l {A : Option Addr} {cap : Nat} {S : List Sl} {w : World} (l : List Bx) (p v : V3) (most : Int) (hbx : ∀ w', Below w.heap.size w w' → Calls Try.prog 77 #[.slice A S.length cap] w' (BxRes l w')) (hokb : ∀ b ∈ l, BOk b) (hBL : l.length ≤ 16000) (hp : PtOk p) (hv : VOk v) (hm : 0 ≤ most ∧ most ≤ 2097152) : Calls Try.prog 60 #[.slice A S.length cap, .agg #[.int .i64 p.x, .int .i64 p.y, .int .i64 p.z], .agg #[.int .i64 v.x, .int .i64 v.y, .int .i64 v.z], .int .i64 most] w (BlIs (meetQ (prI most) p v l) w) := by
  have HBX := Lib.hid hbx
  have HOKB := Lib.hid hokb
  have HP := Lib.hid hp; have HVO := Lib.hid hv
  have HI : Hid (PrIn (prI most)) := Lib.hid ⟨by unfold BdIn prI; simp only; omega, by unfold BdIn prI; simp only; omega⟩
  clear hbx hokb hp hv
  obtain ⟨W, hW⟩ : ∃ W, W = (w.alloc (.cells #[.int .i64 p.x, .int .i64 p.y, .int .i64 p.z] 25)).alloc (.cells #[.int .i64 v.x, .int .i64 v.y, .int .i64 v.z] 25) := ⟨_, rfl⟩
  have HW : Hid (Below w.heap.size w W) := Lib.hid (by rw [hW]; exact ((Below.refl _ _).alloc (Nat.le_refl _) _).alloc (by simp) _)
  have E0 : Hid (Pq11 w.heap.size (w.heap.size + 1) p v W) := Lib.hid (by rw [hW]; exact Pq11.new w p v)
  have HWW := Lib.hid hW; clear hW
  go_enter Try.func60, Try.ntmps60
  go_upto_region 1 with fail
  rw [← HWW.out]; clear HWW
  have HG : Hid (w.heap.size ≤ w.heap.size) := Lib.hid (Nat.le_refl _)
  generalize w.heap.size + 1 = gv at *
  obtain ⟨g, hg⟩ : ∃ g, g = w.heap.size := ⟨_, rfl⟩
  rw [← hg] at E0
  simp only [← hg]
  clear hg HG
  go_wp2_with fail
  refine (HBX.out _ HW.out).mono ?_
  rintro e w1 ⟨vb, rfl, ho, hb⟩
  obtain ⟨AB, cb, rfl, hrow, hroom, hroom2⟩ := own_boxes ho
  have E1 := Lib.hid (E0.out.go hb)
  have HROW := Lib.hid hrow
  have HB1 := Lib.hid (HW.out.trans (hb.mono HW.out.size))
  clear hb ho hrow E0 HBX HW
  have K0 : Hid (Below w1.heap.size w1 w1) := Lib.hid (Below.refl _ _)
  go_wp2_with fail
  go_loopw [10] (fun t wr => ∃ (k : Nat), k ≤ l.length ∧ t = .int .i64 k ∧ Hid (Below w1.heap.size w1 wr) ∧ Hid (meetQ (prI most) p v (l.take k) = false)) (fun t _ => l.length - (intOf t).toNat)
  case atStart => exact ⟨0, Nat.zero_le _, rfl, K0, Lib.hid rfl⟩
  case round =>
    clear K0
    obtain ⟨k, hk, rfl, HB, HT⟩ := hrel
    by_cases hlt : k < l.length
    · obtain ⟨bb, o1, rfl, hb1, hv1⟩ := HROW.out (by omega)
      obtain ⟨q0, q1, q2, q3, q4, q5⟩ := hv1 k hlt
      have n0 : (0 : Int) ≤ (k : Int) := by omega
      have n1 : (k : Int) < (l.length : Int) := by omega
      have BQ : Hid (BOk l[k]) := Lib.hid (HOKB.out _ (List.getElem_mem hlt))
      have HYES : Hid (okR (narR3 (prI most) p v l[k]) = true → meetQ (prI most) p v l = true) := Lib.hid (fun hh => meetQ_in (List.getElem_mem hlt) hh)
      have HNO : Hid (okR (narR3 (prI most) p v l[k]) = false → meetQ (prI most) p v (l.take (k + 1)) = false) := Lib.hid (fun hh => by rw [List.take_succ_eq_append_getElem hlt, meetQ_append, HT.out, meetQ_one, hh]; rfl)
      obtain ⟨q, hq⟩ : ∃ q, q = l[k] := ⟨_, rfl⟩
      rw [← hq] at q0 q1 q2 q3 q4 q5 BQ HYES HNO
      clear hq hv1 HT
      have hbw : bb < wr.heap.size := Nat.lt_of_lt_of_le hb1 HB.out.size
      have HE : Hid (∀ w', Below wr.heap.size wr w' → PrAt w' wr.heap.size (prI most) → Rd11 g gv wr.heap.size bb (o1 + k * 6) p v q (prI most) w1 w') := Lib.hid (fun w' hh hz => by
        have hb2 := HB.out.trans (hh.mono HB.out.size)
        obtain ⟨a0, a1, a2, a3, a4, a5, l0, l1⟩ := E1.out.go hb2
        have cb := fun k => hb2.cell (p := ⟨bb, k, none⟩) hb1
        have l0' := E1.out.2.2.2.2.2.2.1
        have l1' := E1.out.2.2.2.2.2.2.2
        have hs := HB.out.size
        exact ⟨hz, a0, a1, a2, a3, a4, a5, (cb _).trans q0, (cb _).trans q1, (cb _).trans q2, (cb _).trans q3, (cb _).trans q4, (cb _).trans q5, l0, l1, hz.lt, Nat.lt_of_lt_of_le hb1 hb2.size, hb2, hs, by omega, by omega, by omega⟩)
      have KX := Lib.hid (narR3_in HI.out HP.out HVO.out BQ.out)
      have HA1 : Hid (∀ w', Calls Try.prog 78 #[.agg #[.int .i64 0, .int .i64 1, .bool true, .int .i64 most, .int .i64 1, .bool true, .bool false], .int .i64 p.x, .int .i64 v.x, .int .i64 q.r.X0, .int .i64 q.r.X1] w' (PrRes (narR (prI most) p.x v.x q.r.X0 q.r.X1) w')) := Lib.hid (fun w' => by
        obtain ⟨⟨⟨x0, x1, x2⟩, y0, y1, y2⟩, z0, z1, z2⟩ := BQ.out
        exact enar_any (prI most) p.x v.x q.r.X0 q.r.X1 w' HI.out HP.out.1 HVO.out.1 (by omega) (by omega))
      obtain ⟨x1, hx1⟩ : ∃ x1, x1 = narR (prI most) p.x v.x q.r.X0 q.r.X1 := ⟨_, rfl⟩
      obtain ⟨x2, hx2⟩ : ∃ x2, x2 = narR x1 p.y v.y q.r.Y0 q.r.Y1 := ⟨_, rfl⟩
      obtain ⟨x3, hx3⟩ : ∃ x3, x3 = narR x2 p.z v.z q.z0 q.z1 := ⟨_, rfl⟩
      have e3 : narR3 (prI most) p v q = x3 := by unfold narR3; rw [hx3, hx2, hx1]
      rw [e3] at HYES HNO KX
      rw [← hx1] at HA1 KX
      rw [← hx2] at KX
      clear e3
      have HA2 : Hid (∀ w', Calls Try.prog 78 #[.agg #[.int .i64 x1.lo.n, .int .i64 x1.lo.d, .bool x1.lo.c, .int .i64 x1.hi.n, .int .i64 x1.hi.d, .bool x1.hi.c, .bool x1.no], .int .i64 p.y, .int .i64 v.y, .int .i64 q.r.Y0, .int .i64 q.r.Y1] w' (PrRes x2 w')) := Lib.hid (fun w' => by
        obtain ⟨⟨⟨x0, x1, x2⟩, y0, y1, y2⟩, z0, z1, z2⟩ := BQ.out
        rw [hx2]
        exact enar_any _ p.y v.y q.r.Y0 q.r.Y1 w' KX.out.1 HP.out.2.1 HVO.out.2.1 (by omega) (by omega))
      have HA3 : Hid (∀ w', Calls Try.prog 78 #[.agg #[.int .i64 x2.lo.n, .int .i64 x2.lo.d, .bool x2.lo.c, .int .i64 x2.hi.n, .int .i64 x2.hi.d, .bool x2.hi.c, .bool x2.no], .int .i64 p.z, .int .i64 v.z, .int .i64 q.z0, .int .i64 q.z1] w' (PrRes x3 w')) := Lib.hid (fun w' => by
        obtain ⟨⟨⟨x0, x1, x2⟩, y0, y1, y2⟩, z0, z1, z2⟩ := BQ.out
        have hp2 := HP.out.2.2
        rw [hx3]
        exact enar_any _ p.z v.z q.z0 q.z1 w' KX.out.2.1 (by omega) HVO.out.2.2 (by omega) (by omega))
      have HL1 := Lib.hid (fun w' => eless_any x3.lo x3.hi KX.out.2.2.1 KX.out.2.2.2 w')
      have HL2 := Lib.hid (fun w' => eless_any x3.hi x3.lo KX.out.2.2.2 KX.out.2.2.1 w')
      have HOK : Hid (okR x3 = (!x3.no && (lessB x3.lo x3.hi || (!lessB x3.lo x3.hi && (!lessB x3.hi x3.lo && (!x3.lo.c && !x3.hi.c)))))) := Lib.hid rfl
      clear hx1 hx2 hx3 KX BQ q0 q1 q2 q3 q4 q5
      obtain ⟨r, hr⟩ : ∃ r, r = wr.heap.size := ⟨_, rfl⟩
      have HZ : Hid (PrAt (wr.alloc (.cells #[.int .i64 0, .int .i64 1, .bool true, .int .i64 most, .int .i64 1, .bool true, .bool false] 108)) wr.heap.size (prI most)) := Lib.hid (heap_alloc_new wr _)
      have HE2 := Lib.hid (HE.out _ ((Below.refl _ _).alloc (Nat.le_refl _) _) HZ.out)
      clear HE HZ
      go_upto_region 6 with fail
      generalize World.alloc wr _ = w2 at *
      rw [← hr] at HE2
      simp only [← hr]
      clear hr
      obtain ⟨k0, k1, k2, k3, k4, k5, k6, k7, k8, k9, k10, k11, k12, k13, k14, k15, k16, k17, k18, k19, k20, k21, k22⟩ : _ ∧ _ ∧ _ ∧ _ ∧ _ ∧ _ ∧ _ ∧ _ ∧ _ ∧ _ ∧ _ ∧ _ ∧ _ ∧ _ ∧ _ ∧ _ ∧ _ ∧ _ ∧ _ ∧ _ ∧ _ ∧ _ ∧ _ := ⟨HE2.out.at_.c0, HE2.out.at_.c1, HE2.out.at_.c2, HE2.out.at_.c3, HE2.out.at_.c4, HE2.out.at_.c5, HE2.out.at_.c6, HE2.out.a0, HE2.out.a1, HE2.out.a2, HE2.out.b0, HE2.out.b1, HE2.out.b2, HE2.out.c0, HE2.out.c1, HE2.out.c2, HE2.out.c3, HE2.out.c4, HE2.out.c5, HE2.out.lg, HE2.out.lv, HE2.out.lr, HE2.out.lb⟩
      simp only [prI] at k0 k1 k2 k3 k4 k5 k6
      go_upto_region 6 with fail
      go_still_tail 17, (by kernel_rfl)
      change wpList _ _ _ _ _ w2.drew
      have D6 : Hid (Rd11 g gv r bb (o1 + k * 6) p v q (prI most) w1 w2.drew) := Lib.hid (HE2.out.go (below_drewN (Below.refl _ w2) 1))
      clear k0 k1 k2 k3 k4 k5 k6 k7 k8 k9 k10 k11 k12 k13 k14 k15 k16 k17 k18 k19 k20 k21 k22
      clear HE2
      generalize w2.drew = wd6 at *
      go_wp2_with fail
      refine (HA1.out _).mono ?_
      rintro e v6 ⟨rfl, hb⟩
      have F6 := Lib.hid (D6.out.go hb)
      clear hb D6 HA1
      obtain ⟨k0, k1, k2, k3, k4, k5, k6, kl⟩ : _ ∧ _ ∧ _ ∧ _ ∧ _ ∧ _ ∧ _ ∧ _ := ⟨F6.out.at_.c0, F6.out.at_.c1, F6.out.at_.c2, F6.out.at_.c3, F6.out.at_.c4, F6.out.at_.c5, F6.out.at_.c6, F6.out.lr⟩
      have f0 := F6.out.at_.froz 0; have f1 := F6.out.at_.froz 1; have f2 := F6.out.at_.froz 2; have f3 := F6.out.at_.froz 3; have f4 := F6.out.at_.froz 4; have f5 := F6.out.at_.froz 5; have f6 := F6.out.at_.froz 6
      have G6 := Lib.hid (F6.out.set x1)
      go_upto_region 7 with fail
      generalize World.setCell (World.setCell (World.setCell (World.setCell (World.setCell (World.setCell (World.setCell v6 _ _) _ _) _ _) _ _) _ _) _ _) _ _ = w3 at *
      clear k0 k1 k2 k3 k4 k5 k6 kl f0 f1 f2 f3 f4 f5 f6 F6
      obtain ⟨k0, k1, k2, k3, k4, k5, k6, k7, k8, k9, k10, k11, k12, k13, k14, k15, k16, k17, k18, k19, k20, k21, k22⟩ : _ ∧ _ ∧ _ ∧ _ ∧ _ ∧ _ ∧ _ ∧ _ ∧ _ ∧ _ ∧ _ ∧ _ ∧ _ ∧ _ ∧ _ ∧ _ ∧ _ ∧ _ ∧ _ ∧ _ ∧ _ ∧ _ ∧ _ := ⟨G6.out.at_.c0, G6.out.at_.c1, G6.out.at_.c2, G6.out.at_.c3, G6.out.at_.c4, G6.out.at_.c5, G6.out.at_.c6, G6.out.a0, G6.out.a1, G6.out.a2, G6.out.b0, G6.out.b1, G6.out.b2, G6.out.c0, G6.out.c1, G6.out.c2, G6.out.c3, G6.out.c4, G6.out.c5, G6.out.lg, G6.out.lv, G6.out.lr, G6.out.lb⟩
      go_upto_region 7 with fail
      go_still_tail 17, (by kernel_rfl)
      change wpList _ _ _ _ _ w3.drew
      have D7 : Hid (Rd11 g gv r bb (o1 + k * 6) p v q x1 w1 w3.drew) := Lib.hid (G6.out.go (below_drewN (Below.refl _ w3) 1))
      clear k0 k1 k2 k3 k4 k5 k6 k7 k8 k9 k10 k11 k12 k13 k14 k15 k16 k17 k18 k19 k20 k21 k22
      clear G6
      generalize w3.drew = wd7 at *
      go_wp2_with fail
      refine (HA2.out _).mono ?_
      rintro e v7 ⟨rfl, hb⟩
      have F7 := Lib.hid (D7.out.go hb)
      clear hb D7 HA2
      obtain ⟨k0, k1, k2, k3, k4, k5, k6, kl⟩ : _ ∧ _ ∧ _ ∧ _ ∧ _ ∧ _ ∧ _ ∧ _ := ⟨F7.out.at_.c0, F7.out.at_.c1, F7.out.at_.c2, F7.out.at_.c3, F7.out.at_.c4, F7.out.at_.c5, F7.out.at_.c6, F7.out.lr⟩
      have f0 := F7.out.at_.froz 0; have f1 := F7.out.at_.froz 1; have f2 := F7.out.at_.froz 2; have f3 := F7.out.at_.froz 3; have f4 := F7.out.at_.froz 4; have f5 := F7.out.at_.froz 5; have f6 := F7.out.at_.froz 6
      have G7 := Lib.hid (F7.out.set x2)
      go_upto_region 8 with fail
      generalize World.setCell (World.setCell (World.setCell (World.setCell (World.setCell (World.setCell (World.setCell v7 _ _) _ _) _ _) _ _) _ _) _ _) _ _ = w4 at *
      clear k0 k1 k2 k3 k4 k5 k6 kl f0 f1 f2 f3 f4 f5 f6 F7
      obtain ⟨k0, k1, k2, k3, k4, k5, k6, k7, k8, k9, k10, k11, k12, k13, k14, k15, k16, k17, k18, k19, k20, k21, k22⟩ : _ ∧ _ ∧ _ ∧ _ ∧ _ ∧ _ ∧ _ ∧ _ ∧ _ ∧ _ ∧ _ ∧ _ ∧ _ ∧ _ ∧ _ ∧ _ ∧ _ ∧ _ ∧ _ ∧ _ ∧ _ ∧ _ ∧ _ := ⟨G7.out.at_.c0, G7.out.at_.c1, G7.out.at_.c2, G7.out.at_.c3, G7.out.at_.c4, G7.out.at_.c5, G7.out.at_.c6, G7.out.a0, G7.out.a1, G7.out.a2, G7.out.b0, G7.out.b1, G7.out.b2, G7.out.c0, G7.out.c1, G7.out.c2, G7.out.c3, G7.out.c4, G7.out.c5, G7.out.lg, G7.out.lv, G7.out.lr, G7.out.lb⟩
      go_upto_region 8 with fail
      go_still_tail 15, (by kernel_rfl)
      change wpList _ _ _ _ _ w4.drew
      have D8 : Hid (Rd11 g gv r bb (o1 + k * 6) p v q x2 w1 w4.drew) := Lib.hid (G7.out.go (below_drewN (Below.refl _ w4) 1))
      clear k0 k1 k2 k3 k4 k5 k6 k7 k8 k9 k10 k11 k12 k13 k14 k15 k16 k17 k18 k19 k20 k21 k22
      clear G7
      generalize w4.drew = wd8 at *
      go_wp2_with fail
      refine (HA3.out _).mono ?_
      rintro e v8 ⟨rfl, hb⟩
      have F8 := Lib.hid (D8.out.go hb)
      clear hb D8 HA3
      obtain ⟨k0, k1, k2, k3, k4, k5, k6, kl⟩ : _ ∧ _ ∧ _ ∧ _ ∧ _ ∧ _ ∧ _ ∧ _ := ⟨F8.out.at_.c0, F8.out.at_.c1, F8.out.at_.c2, F8.out.at_.c3, F8.out.at_.c4, F8.out.at_.c5, F8.out.at_.c6, F8.out.lr⟩
      have f0 := F8.out.at_.froz 0; have f1 := F8.out.at_.froz 1; have f2 := F8.out.at_.froz 2; have f3 := F8.out.at_.froz 3; have f4 := F8.out.at_.froz 4; have f5 := F8.out.at_.froz 5; have f6 := F8.out.at_.froz 6
      have G8 := Lib.hid (F8.out.set x3)
      go_upto_region 9 with fail
      generalize World.setCell (World.setCell (World.setCell (World.setCell (World.setCell (World.setCell (World.setCell v8 _ _) _ _) _ _) _ _) _ _) _ _) _ _ = w5 at *
      clear k0 k1 k2 k3 k4 k5 k6 kl f0 f1 f2 f3 f4 f5 f6 F8
      clear HB
      generalize lessB x3.lo x3.hi = L1 at *
      generalize lessB x3.hi x3.lo = L2 at *
      obtain ⟨⟨n1', d1', c1'⟩, ⟨n2', d2', c2'⟩, no⟩ := x3
      simp only at HL1 HL2 HOK
      cases L1 with
      | true =>
        cases no with
        | true =>
          obtain ⟨k0, k1, k2, k3, k4, k5, k6, kl⟩ : _ ∧ _ ∧ _ ∧ _ ∧ _ ∧ _ ∧ _ ∧ _ := ⟨G8.out.at_.c0, G8.out.at_.c1, G8.out.at_.c2, G8.out.at_.c3, G8.out.at_.c4, G8.out.at_.c5, G8.out.at_.c6, G8.out.lr⟩
          simp only at k0 k1 k2 k3 k4 k5 k6
          go_wp2_with fail
          refine (HL1.out _).mono ?_
          rintro e u1 ⟨rfl, hb⟩
          have T1 := Lib.hid (G8.out.go hb)
          clear k0 k1 k2 k3 k4 k5 k6 kl
          clear hb G8
          obtain ⟨k0, k1, k2, k3, k4, k5, k6, kl⟩ : _ ∧ _ ∧ _ ∧ _ ∧ _ ∧ _ ∧ _ ∧ _ := ⟨T1.out.at_.c0, T1.out.at_.c1, T1.out.at_.c2, T1.out.at_.c3, T1.out.at_.c4, T1.out.at_.c5, T1.out.at_.c6, T1.out.lr⟩
          simp only at k0 k1 k2 k3 k4 k5 k6
          have HFB := Lib.hid T1.out.bel
          clear T1
          have HF := Lib.hid (HNO.out (HOK.out.trans rfl))
          clear HYES HNO HOK HL1 HL2
          go_wp2_with fail
          clear k0 k1 k2 k3 k4 k5 k6 kl
          go_roundw
          case rel => exact ⟨k + 1, by omega, by go_num, HFB, HF⟩
          case measure => simp [intOf]; omega
        | false =>
          obtain ⟨k0, k1, k2, k3, k4, k5, k6, kl⟩ : _ ∧ _ ∧ _ ∧ _ ∧ _ ∧ _ ∧ _ ∧ _ := ⟨G8.out.at_.c0, G8.out.at_.c1, G8.out.at_.c2, G8.out.at_.c3, G8.out.at_.c4, G8.out.at_.c5, G8.out.at_.c6, G8.out.lr⟩
          simp only at k0 k1 k2 k3 k4 k5 k6
          go_wp2_with fail
          refine (HL1.out _).mono ?_
          rintro e u1 ⟨rfl, hb⟩
          have T1 := Lib.hid (G8.out.go hb)
          clear k0 k1 k2 k3 k4 k5 k6 kl
          clear hb G8
          obtain ⟨k0, k1, k2, k3, k4, k5, k6, kl⟩ : _ ∧ _ ∧ _ ∧ _ ∧ _ ∧ _ ∧ _ ∧ _ := ⟨T1.out.at_.c0, T1.out.at_.c1, T1.out.at_.c2, T1.out.at_.c3, T1.out.at_.c4, T1.out.at_.c5, T1.out.at_.c6, T1.out.lr⟩
          simp only at k0 k1 k2 k3 k4 k5 k6
          go_wp2_with fail
          refine (HL1.out _).mono ?_
          rintro e u3 ⟨rfl, hb⟩
          have T3 := Lib.hid (T1.out.go hb)
          clear k0 k1 k2 k3 k4 k5 k6 kl
          clear hb T1
          obtain ⟨k0, k1, k2, k3, k4, k5, k6, kl⟩ : _ ∧ _ ∧ _ ∧ _ ∧ _ ∧ _ ∧ _ ∧ _ := ⟨T3.out.at_.c0, T3.out.at_.c1, T3.out.at_.c2, T3.out.at_.c3, T3.out.at_.c4, T3.out.at_.c5, T3.out.at_.c6, T3.out.lr⟩
          simp only at k0 k1 k2 k3 k4 k5 k6
          have HFB := Lib.hid T3.out.bel
          clear T3
          have HF := Lib.hid (HYES.out (HOK.out.trans rfl))
          have HF2 := Lib.hid (HB1.out.trans (HFB.out.mono HB1.out.size))
          clear HYES HNO HOK HL1 HL2
          go_wp2_with fail
          clear k0 k1 k2 k3 k4 k5 k6 kl
          go_ret
          exact ⟨by rw [HF.out]; rfl, HF2.out⟩
      | false =>
        cases L2 with
        | true =>
          cases no with
          | true =>
            obtain ⟨k0, k1, k2, k3, k4, k5, k6, kl⟩ : _ ∧ _ ∧ _ ∧ _ ∧ _ ∧ _ ∧ _ ∧ _ := ⟨G8.out.at_.c0, G8.out.at_.c1, G8.out.at_.c2, G8.out.at_.c3, G8.out.at_.c4, G8.out.at_.c5, G8.out.at_.c6, G8.out.lr⟩
            simp only at k0 k1 k2 k3 k4 k5 k6
            go_wp2_with fail
            refine (HL1.out _).mono ?_
            rintro e u1 ⟨rfl, hb⟩
            have T1 := Lib.hid (G8.out.go hb)
            clear k0 k1 k2 k3 k4 k5 k6 kl
            clear hb G8
            obtain ⟨k0, k1, k2, k3, k4, k5, k6, kl⟩ : _ ∧ _ ∧ _ ∧ _ ∧ _ ∧ _ ∧ _ ∧ _ := ⟨T1.out.at_.c0, T1.out.at_.c1, T1.out.at_.c2, T1.out.at_.c3, T1.out.at_.c4, T1.out.at_.c5, T1.out.at_.c6, T1.out.lr⟩
            simp only at k0 k1 k2 k3 k4 k5 k6
            go_wp2_with fail
            refine (HL2.out _).mono ?_
            rintro e u2 ⟨rfl, hb⟩
            have T2 := Lib.hid (T1.out.go hb)
            clear k0 k1 k2 k3 k4 k5 k6 kl
            clear hb T1
            obtain ⟨k0, k1, k2, k3, k4, k5, k6, kl⟩ : _ ∧ _ ∧ _ ∧ _ ∧ _ ∧ _ ∧ _ ∧ _ := ⟨T2.out.at_.c0, T2.out.at_.c1, T2.out.at_.c2, T2.out.at_.c3, T2.out.at_.c4, T2.out.at_.c5, T2.out.at_.c6, T2.out.lr⟩
            simp only at k0 k1 k2 k3 k4 k5 k6
            have HFB := Lib.hid T2.out.bel
            clear T2
            have HF := Lib.hid (HNO.out (HOK.out.trans rfl))
            clear HYES HNO HOK HL1 HL2
            go_wp2_with fail
            clear k0 k1 k2 k3 k4 k5 k6 kl
            go_roundw
            case rel => exact ⟨k + 1, by omega, by go_num, HFB, HF⟩
            case measure => simp [intOf]; omega
          | false =>
            obtain ⟨k0, k1, k2, k3, k4, k5, k6, kl⟩ : _ ∧ _ ∧ _ ∧ _ ∧ _ ∧ _ ∧ _ ∧ _ := ⟨G8.out.at_.c0, G8.out.at_.c1, G8.out.at_.c2, G8.out.at_.c3, G8.out.at_.c4, G8.out.at_.c5, G8.out.at_.c6, G8.out.lr⟩
            simp only at k0 k1 k2 k3 k4 k5 k6
            go_wp2_with fail
            refine (HL1.out _).mono ?_
            rintro e u1 ⟨rfl, hb⟩
            have T1 := Lib.hid (G8.out.go hb)
            clear k0 k1 k2 k3 k4 k5 k6 kl
            clear hb G8
            obtain ⟨k0, k1, k2, k3, k4, k5, k6, kl⟩ : _ ∧ _ ∧ _ ∧ _ ∧ _ ∧ _ ∧ _ ∧ _ := ⟨T1.out.at_.c0, T1.out.at_.c1, T1.out.at_.c2, T1.out.at_.c3, T1.out.at_.c4, T1.out.at_.c5, T1.out.at_.c6, T1.out.lr⟩
            simp only at k0 k1 k2 k3 k4 k5 k6
            go_wp2_with fail
            refine (HL2.out _).mono ?_
            rintro e u2 ⟨rfl, hb⟩
            have T2 := Lib.hid (T1.out.go hb)
            clear k0 k1 k2 k3 k4 k5 k6 kl
            clear hb T1
            obtain ⟨k0, k1, k2, k3, k4, k5, k6, kl⟩ : _ ∧ _ ∧ _ ∧ _ ∧ _ ∧ _ ∧ _ ∧ _ := ⟨T2.out.at_.c0, T2.out.at_.c1, T2.out.at_.c2, T2.out.at_.c3, T2.out.at_.c4, T2.out.at_.c5, T2.out.at_.c6, T2.out.lr⟩
            simp only at k0 k1 k2 k3 k4 k5 k6
            go_wp2_with fail
            refine (HL1.out _).mono ?_
            rintro e u3 ⟨rfl, hb⟩
            have T3 := Lib.hid (T2.out.go hb)
            clear k0 k1 k2 k3 k4 k5 k6 kl
            clear hb T2
            obtain ⟨k0, k1, k2, k3, k4, k5, k6, kl⟩ : _ ∧ _ ∧ _ ∧ _ ∧ _ ∧ _ ∧ _ ∧ _ := ⟨T3.out.at_.c0, T3.out.at_.c1, T3.out.at_.c2, T3.out.at_.c3, T3.out.at_.c4, T3.out.at_.c5, T3.out.at_.c6, T3.out.lr⟩
            simp only at k0 k1 k2 k3 k4 k5 k6
            have HFB := Lib.hid T3.out.bel
            clear T3
            have HF := Lib.hid (HNO.out (HOK.out.trans rfl))
            clear HYES HNO HOK HL1 HL2
            go_wp2_with fail
            clear k0 k1 k2 k3 k4 k5 k6 kl
            go_roundw
            case rel => exact ⟨k + 1, by omega, by go_num, HFB, HF⟩
            case measure => simp [intOf]; omega
        | false =>
          cases c1' with
          | true =>
            cases no with
            | true =>
              obtain ⟨k0, k1, k2, k3, k4, k5, k6, kl⟩ : _ ∧ _ ∧ _ ∧ _ ∧ _ ∧ _ ∧ _ ∧ _ := ⟨G8.out.at_.c0, G8.out.at_.c1, G8.out.at_.c2, G8.out.at_.c3, G8.out.at_.c4, G8.out.at_.c5, G8.out.at_.c6, G8.out.lr⟩
              simp only at k0 k1 k2 k3 k4 k5 k6
              go_wp2_with fail
              refine (HL1.out _).mono ?_
              rintro e u1 ⟨rfl, hb⟩
              have T1 := Lib.hid (G8.out.go hb)
              clear k0 k1 k2 k3 k4 k5 k6 kl
              clear hb G8
              obtain ⟨k0, k1, k2, k3, k4, k5, k6, kl⟩ : _ ∧ _ ∧ _ ∧ _ ∧ _ ∧ _ ∧ _ ∧ _ := ⟨T1.out.at_.c0, T1.out.at_.c1, T1.out.at_.c2, T1.out.at_.c3, T1.out.at_.c4, T1.out.at_.c5, T1.out.at_.c6, T1.out.lr⟩
              simp only at k0 k1 k2 k3 k4 k5 k6
              go_wp2_with fail
              refine (HL2.out _).mono ?_
              rintro e u2 ⟨rfl, hb⟩
              have T2 := Lib.hid (T1.out.go hb)
              clear k0 k1 k2 k3 k4 k5 k6 kl
              clear hb T1
              obtain ⟨k0, k1, k2, k3, k4, k5, k6, kl⟩ : _ ∧ _ ∧ _ ∧ _ ∧ _ ∧ _ ∧ _ ∧ _ := ⟨T2.out.at_.c0, T2.out.at_.c1, T2.out.at_.c2, T2.out.at_.c3, T2.out.at_.c4, T2.out.at_.c5, T2.out.at_.c6, T2.out.lr⟩
              simp only at k0 k1 k2 k3 k4 k5 k6
              have HFB := Lib.hid T2.out.bel
              clear T2
              have HF := Lib.hid (HNO.out (HOK.out.trans rfl))
              clear HYES HNO HOK HL1 HL2
              go_wp2_with fail
              clear k0 k1 k2 k3 k4 k5 k6 kl
              go_roundw
              case rel => exact ⟨k + 1, by omega, by go_num, HFB, HF⟩
              case measure => simp [intOf]; omega
            | false =>
              obtain ⟨k0, k1, k2, k3, k4, k5, k6, kl⟩ : _ ∧ _ ∧ _ ∧ _ ∧ _ ∧ _ ∧ _ ∧ _ := ⟨G8.out.at_.c0, G8.out.at_.c1, G8.out.at_.c2, G8.out.at_.c3, G8.out.at_.c4, G8.out.at_.c5, G8.out.at_.c6, G8.out.lr⟩
              simp only at k0 k1 k2 k3 k4 k5 k6
              go_wp2_with fail
              refine (HL1.out _).mono ?_
              rintro e u1 ⟨rfl, hb⟩
              have T1 := Lib.hid (G8.out.go hb)
              clear k0 k1 k2 k3 k4 k5 k6 kl
              clear hb G8
              obtain ⟨k0, k1, k2, k3, k4, k5, k6, kl⟩ : _ ∧ _ ∧ _ ∧ _ ∧ _ ∧ _ ∧ _ ∧ _ := ⟨T1.out.at_.c0, T1.out.at_.c1, T1.out.at_.c2, T1.out.at_.c3, T1.out.at_.c4, T1.out.at_.c5, T1.out.at_.c6, T1.out.lr⟩
              simp only at k0 k1 k2 k3 k4 k5 k6
              go_wp2_with fail
              refine (HL2.out _).mono ?_
              rintro e u2 ⟨rfl, hb⟩
              have T2 := Lib.hid (T1.out.go hb)
              clear k0 k1 k2 k3 k4 k5 k6 kl
              clear hb T1
              obtain ⟨k0, k1, k2, k3, k4, k5, k6, kl⟩ : _ ∧ _ ∧ _ ∧ _ ∧ _ ∧ _ ∧ _ ∧ _ := ⟨T2.out.at_.c0, T2.out.at_.c1, T2.out.at_.c2, T2.out.at_.c3, T2.out.at_.c4, T2.out.at_.c5, T2.out.at_.c6, T2.out.lr⟩
              simp only at k0 k1 k2 k3 k4 k5 k6
              go_wp2_with fail
              refine (HL1.out _).mono ?_
              rintro e u3 ⟨rfl, hb⟩
              have T3 := Lib.hid (T2.out.go hb)
              clear k0 k1 k2 k3 k4 k5 k6 kl
              clear hb T2
              obtain ⟨k0, k1, k2, k3, k4, k5, k6, kl⟩ : _ ∧ _ ∧ _ ∧ _ ∧ _ ∧ _ ∧ _ ∧ _ := ⟨T3.out.at_.c0, T3.out.at_.c1, T3.out.at_.c2, T3.out.at_.c3, T3.out.at_.c4, T3.out.at_.c5, T3.out.at_.c6, T3.out.lr⟩
              simp only at k0 k1 k2 k3 k4 k5 k6
              have HFB := Lib.hid T3.out.bel
              clear T3
              have HF := Lib.hid (HNO.out (HOK.out.trans rfl))
              clear HYES HNO HOK HL1 HL2
              go_wp2_with fail
              clear k0 k1 k2 k3 k4 k5 k6 kl
              go_roundw
              case rel => exact ⟨k + 1, by omega, by go_num, HFB, HF⟩
              case measure => simp [intOf]; omega
          | false =>
            cases c2' with
            | true =>
              cases no with
              | true =>
                obtain ⟨k0, k1, k2, k3, k4, k5, k6, kl⟩ : _ ∧ _ ∧ _ ∧ _ ∧ _ ∧ _ ∧ _ ∧ _ := ⟨G8.out.at_.c0, G8.out.at_.c1, G8.out.at_.c2, G8.out.at_.c3, G8.out.at_.c4, G8.out.at_.c5, G8.out.at_.c6, G8.out.lr⟩
                simp only at k0 k1 k2 k3 k4 k5 k6
                go_wp2_with fail
                refine (HL1.out _).mono ?_
                rintro e u1 ⟨rfl, hb⟩
                have T1 := Lib.hid (G8.out.go hb)
                clear k0 k1 k2 k3 k4 k5 k6 kl
                clear hb G8
                obtain ⟨k0, k1, k2, k3, k4, k5, k6, kl⟩ : _ ∧ _ ∧ _ ∧ _ ∧ _ ∧ _ ∧ _ ∧ _ := ⟨T1.out.at_.c0, T1.out.at_.c1, T1.out.at_.c2, T1.out.at_.c3, T1.out.at_.c4, T1.out.at_.c5, T1.out.at_.c6, T1.out.lr⟩
                simp only at k0 k1 k2 k3 k4 k5 k6
                go_wp2_with fail
                refine (HL2.out _).mono ?_
                rintro e u2 ⟨rfl, hb⟩
                have T2 := Lib.hid (T1.out.go hb)
                clear k0 k1 k2 k3 k4 k5 k6 kl
                clear hb T1
                obtain ⟨k0, k1, k2, k3, k4, k5, k6, kl⟩ : _ ∧ _ ∧ _ ∧ _ ∧ _ ∧ _ ∧ _ ∧ _ := ⟨T2.out.at_.c0, T2.out.at_.c1, T2.out.at_.c2, T2.out.at_.c3, T2.out.at_.c4, T2.out.at_.c5, T2.out.at_.c6, T2.out.lr⟩
                simp only at k0 k1 k2 k3 k4 k5 k6
                have HFB := Lib.hid T2.out.bel
                clear T2
                have HF := Lib.hid (HNO.out (HOK.out.trans rfl))
                clear HYES HNO HOK HL1 HL2
                go_wp2_with fail
                clear k0 k1 k2 k3 k4 k5 k6 kl
                go_roundw
                case rel => exact ⟨k + 1, by omega, by go_num, HFB, HF⟩
                case measure => simp [intOf]; omega
              | false =>
                obtain ⟨k0, k1, k2, k3, k4, k5, k6, kl⟩ : _ ∧ _ ∧ _ ∧ _ ∧ _ ∧ _ ∧ _ ∧ _ := ⟨G8.out.at_.c0, G8.out.at_.c1, G8.out.at_.c2, G8.out.at_.c3, G8.out.at_.c4, G8.out.at_.c5, G8.out.at_.c6, G8.out.lr⟩
                simp only at k0 k1 k2 k3 k4 k5 k6
                go_wp2_with fail
                refine (HL1.out _).mono ?_
                rintro e u1 ⟨rfl, hb⟩
                have T1 := Lib.hid (G8.out.go hb)
                clear k0 k1 k2 k3 k4 k5 k6 kl
                clear hb G8
                obtain ⟨k0, k1, k2, k3, k4, k5, k6, kl⟩ : _ ∧ _ ∧ _ ∧ _ ∧ _ ∧ _ ∧ _ ∧ _ := ⟨T1.out.at_.c0, T1.out.at_.c1, T1.out.at_.c2, T1.out.at_.c3, T1.out.at_.c4, T1.out.at_.c5, T1.out.at_.c6, T1.out.lr⟩
                simp only at k0 k1 k2 k3 k4 k5 k6
                go_wp2_with fail
                refine (HL2.out _).mono ?_
                rintro e u2 ⟨rfl, hb⟩
                have T2 := Lib.hid (T1.out.go hb)
                clear k0 k1 k2 k3 k4 k5 k6 kl
                clear hb T1
                obtain ⟨k0, k1, k2, k3, k4, k5, k6, kl⟩ : _ ∧ _ ∧ _ ∧ _ ∧ _ ∧ _ ∧ _ ∧ _ := ⟨T2.out.at_.c0, T2.out.at_.c1, T2.out.at_.c2, T2.out.at_.c3, T2.out.at_.c4, T2.out.at_.c5, T2.out.at_.c6, T2.out.lr⟩
                simp only at k0 k1 k2 k3 k4 k5 k6
                go_wp2_with fail
                refine (HL1.out _).mono ?_
                rintro e u3 ⟨rfl, hb⟩
                have T3 := Lib.hid (T2.out.go hb)
                clear k0 k1 k2 k3 k4 k5 k6 kl
                clear hb T2
                obtain ⟨k0, k1, k2, k3, k4, k5, k6, kl⟩ : _ ∧ _ ∧ _ ∧ _ ∧ _ ∧ _ ∧ _ ∧ _ := ⟨T3.out.at_.c0, T3.out.at_.c1, T3.out.at_.c2, T3.out.at_.c3, T3.out.at_.c4, T3.out.at_.c5, T3.out.at_.c6, T3.out.lr⟩
                simp only at k0 k1 k2 k3 k4 k5 k6
                have HFB := Lib.hid T3.out.bel
                clear T3
                have HF := Lib.hid (HNO.out (HOK.out.trans rfl))
                clear HYES HNO HOK HL1 HL2
                go_wp2_with fail
                clear k0 k1 k2 k3 k4 k5 k6 kl
                go_roundw
                case rel => exact ⟨k + 1, by omega, by go_num, HFB, HF⟩
                case measure => simp [intOf]; omega
            | false =>
              cases no with
              | true =>
                obtain ⟨k0, k1, k2, k3, k4, k5, k6, kl⟩ : _ ∧ _ ∧ _ ∧ _ ∧ _ ∧ _ ∧ _ ∧ _ := ⟨G8.out.at_.c0, G8.out.at_.c1, G8.out.at_.c2, G8.out.at_.c3, G8.out.at_.c4, G8.out.at_.c5, G8.out.at_.c6, G8.out.lr⟩
                simp only at k0 k1 k2 k3 k4 k5 k6
                go_wp2_with fail
                refine (HL1.out _).mono ?_
                rintro e u1 ⟨rfl, hb⟩
                have T1 := Lib.hid (G8.out.go hb)
                clear k0 k1 k2 k3 k4 k5 k6 kl
                clear hb G8
                obtain ⟨k0, k1, k2, k3, k4, k5, k6, kl⟩ : _ ∧ _ ∧ _ ∧ _ ∧ _ ∧ _ ∧ _ ∧ _ := ⟨T1.out.at_.c0, T1.out.at_.c1, T1.out.at_.c2, T1.out.at_.c3, T1.out.at_.c4, T1.out.at_.c5, T1.out.at_.c6, T1.out.lr⟩
                simp only at k0 k1 k2 k3 k4 k5 k6
                go_wp2_with fail
                refine (HL2.out _).mono ?_
                rintro e u2 ⟨rfl, hb⟩
                have T2 := Lib.hid (T1.out.go hb)
                clear k0 k1 k2 k3 k4 k5 k6 kl
                clear hb T1
                obtain ⟨k0, k1, k2, k3, k4, k5, k6, kl⟩ : _ ∧ _ ∧ _ ∧ _ ∧ _ ∧ _ ∧ _ ∧ _ := ⟨T2.out.at_.c0, T2.out.at_.c1, T2.out.at_.c2, T2.out.at_.c3, T2.out.at_.c4, T2.out.at_.c5, T2.out.at_.c6, T2.out.lr⟩
                simp only at k0 k1 k2 k3 k4 k5 k6
                have HFB := Lib.hid T2.out.bel
                clear T2
                have HF := Lib.hid (HNO.out (HOK.out.trans rfl))
                clear HYES HNO HOK HL1 HL2
                go_wp2_with fail
                clear k0 k1 k2 k3 k4 k5 k6 kl
                go_roundw
                case rel => exact ⟨k + 1, by omega, by go_num, HFB, HF⟩
                case measure => simp [intOf]; omega
              | false =>
                obtain ⟨k0, k1, k2, k3, k4, k5, k6, kl⟩ : _ ∧ _ ∧ _ ∧ _ ∧ _ ∧ _ ∧ _ ∧ _ := ⟨G8.out.at_.c0, G8.out.at_.c1, G8.out.at_.c2, G8.out.at_.c3, G8.out.at_.c4, G8.out.at_.c5, G8.out.at_.c6, G8.out.lr⟩
                simp only at k0 k1 k2 k3 k4 k5 k6
                go_wp2_with fail
                refine (HL1.out _).mono ?_
                rintro e u1 ⟨rfl, hb⟩
                have T1 := Lib.hid (G8.out.go hb)
                clear k0 k1 k2 k3 k4 k5 k6 kl
                clear hb G8
                obtain ⟨k0, k1, k2, k3, k4, k5, k6, kl⟩ : _ ∧ _ ∧ _ ∧ _ ∧ _ ∧ _ ∧ _ ∧ _ := ⟨T1.out.at_.c0, T1.out.at_.c1, T1.out.at_.c2, T1.out.at_.c3, T1.out.at_.c4, T1.out.at_.c5, T1.out.at_.c6, T1.out.lr⟩
                simp only at k0 k1 k2 k3 k4 k5 k6
                go_wp2_with fail
                refine (HL2.out _).mono ?_
                rintro e u2 ⟨rfl, hb⟩
                have T2 := Lib.hid (T1.out.go hb)
                clear k0 k1 k2 k3 k4 k5 k6 kl
                clear hb T1
                obtain ⟨k0, k1, k2, k3, k4, k5, k6, kl⟩ : _ ∧ _ ∧ _ ∧ _ ∧ _ ∧ _ ∧ _ ∧ _ := ⟨T2.out.at_.c0, T2.out.at_.c1, T2.out.at_.c2, T2.out.at_.c3, T2.out.at_.c4, T2.out.at_.c5, T2.out.at_.c6, T2.out.lr⟩
                simp only at k0 k1 k2 k3 k4 k5 k6
                go_wp2_with fail
                refine (HL1.out _).mono ?_
                rintro e u3 ⟨rfl, hb⟩
                have T3 := Lib.hid (T2.out.go hb)
                clear k0 k1 k2 k3 k4 k5 k6 kl
                clear hb T2
                obtain ⟨k0, k1, k2, k3, k4, k5, k6, kl⟩ : _ ∧ _ ∧ _ ∧ _ ∧ _ ∧ _ ∧ _ ∧ _ := ⟨T3.out.at_.c0, T3.out.at_.c1, T3.out.at_.c2, T3.out.at_.c3, T3.out.at_.c4, T3.out.at_.c5, T3.out.at_.c6, T3.out.lr⟩
                simp only at k0 k1 k2 k3 k4 k5 k6
                have HFB := Lib.hid T3.out.bel
                clear T3
                have HF := Lib.hid (HYES.out (HOK.out.trans rfl))
                have HF2 := Lib.hid (HB1.out.trans (HFB.out.mono HB1.out.size))
                clear HYES HNO HOK HL1 HL2
                go_wp2_with fail
                clear k0 k1 k2 k3 k4 k5 k6 kl
                go_ret
                exact ⟨by rw [HF.out]; rfl, HF2.out⟩
    · obtain rfl : k = l.length := by omega
      have FIN : Hid (meetQ (prI most) p v l = false) := Lib.hid (by have := HT.out; rw [List.take_length] at this; exact this)
      have HF := Lib.hid (HB1.out.trans (HB.out.mono HB1.out.size))
      go_wp2_with fail
      go_ret
      exact ⟨by rw [FIN.out]; rfl, HF.out⟩
theorem ewithin_any (n : Int) (w : World) : Calls Try.prog 59 #[.int .i64 n] w fun e w' => e = .returned (.bool (decide (-1048576 ≤ n ∧ n ≤ 1048576))) ∧ w = w' := by
  by_cases h1 : -1048576 ≤ n
  · by_cases h2 : n ≤ 1048576
    · rw [show decide (-1048576 ≤ n ∧ n ≤ 1048576) = true from decide_eq_true ⟨h1, h2⟩]
      go_enter Try.func59, Try.ntmps59
      go_wp2
      go_ret
      exact ⟨rfl, rfl⟩
    · rw [show decide (-1048576 ≤ n ∧ n ≤ 1048576) = false from decide_eq_false (fun h => h2 h.2)]
      go_enter Try.func59, Try.ntmps59
      go_wp2
      go_ret
      exact ⟨rfl, rfl⟩
  · rw [show decide (-1048576 ≤ n ∧ n ≤ 1048576) = false from decide_eq_false (fun h => h1 h.1)]
    go_enter Try.func59, Try.ntmps59
    go_wp2
    go_ret
    exact ⟨rfl, rfl⟩
/-- the boxes that the reference looks at. -/
theorem eboxes_any {A : Option Addr} {cap : Nat} {S : List Sl} {w : World} (h : SIn w A cap S) : ∃ l : List Bx, (∀ w', Below w.heap.size w w' → Calls Try.prog 77 #[.slice A S.length cap] w' (BxRes l w')) ∧ (∀ b ∈ l, BOk b) ∧ l.length ≤ 16000 ∧ ∀ i p v, meetB i p v l = (solPB S && meetB i p v (boxesS S)) := by
  by_cases hs : SolP S
  · refine ⟨boxesS S, fun w' hb => dboxes_yes (h.below hb) hs, boxes_ok hs.form, ?_, fun i p v => by rw [solPB_yes hs, Bool.true_and]⟩
    have h1 := boxesS_len (S := S) hs.rects
    have h2 := Nat.mul_le_mul_right 200 hs.len
    omega
  · exact ⟨[], fun w' hb => dboxes_no (h.below hb) hs, fun b hb => (by cases hb), by simp, fun i p v => by rw [solPB_no hs, Bool.false_and]; rfl⟩
theorem emeets_any {A : Option Addr} {cap : Nat} {S : List Sl} {w : World} (p v : V3) (most : Int) (h : SIn w A cap S) (hp : PtOk p) (hv : VOk v) (hm : 0 ≤ most ∧ most ≤ 2097152) : Calls Try.prog 60 #[.slice A S.length cap, .agg #[.int .i64 p.x, .int .i64 p.y, .int .i64 p.z], .agg #[.int .i64 v.x, .int .i64 v.y, .int .i64 v.z], .int .i64 most] w (BlIs (solPB S && meetB (iTop most) p v (boxesS S)) w) := by
  obtain ⟨l, h1, h2, h3, h4⟩ := eboxes_any h
  rw [← h4, ← meetQ_eq]
  exact emeets_l l p v most h1 h2 h3 hp hv hm
end Go.Proofs.Ytdnoadngfkiabaa
namespace Go.Proofs.Ytdnoadngfkiabaa
open Go.RowKit

set_option maxHeartbeats 16000000 in
theorem eray_any (A : Option Addr) (cap : Nat) (S : List Sl) (p q : V3) (w : World) (h : SIn w A cap S) : Calls Try.prog 42 #[.slice A S.length cap, .agg #[.int .i64 p.x, .int .i64 p.y, .int .i64 p.z], .agg #[.int .i64 q.x, .int .i64 q.y, .int .i64 q.z]] w (BlIs (ryB S p q) w) := by
  have HP := Lib.hid (fun w' => eValid_nd p.x p.y p.z w')
  obtain ⟨W, hW⟩ : ∃ W, W = (w.alloc (.cells #[.int .i64 p.x, .int .i64 p.y, .int .i64 p.z] 25)).alloc (.cells #[.int .i64 q.x, .int .i64 q.y, .int .i64 q.z] 25) := ⟨_, rfl⟩
  have HW : Hid (Below w.heap.size w W) := Lib.hid (by rw [hW]; exact ((Below.refl _ _).alloc (Nat.le_refl _) _).alloc (by simp) _)
  have E0 : Hid (Pq11 w.heap.size (w.heap.size + 1) p q W) := Lib.hid (by rw [hW]; exact Pq11.new w p q)
  have HWW := Lib.hid hW; clear hW
  have HSI := Lib.hid h; clear h
  have HX : Hid (∀ w', Calls Try.prog 59 #[.int .i64 q.x] w' fun e w'' => e = .returned (.bool (decide (-1048576 ≤ q.x ∧ q.x ≤ 1048576))) ∧ w' = w'') := Lib.hid (fun w' => ewithin_any q.x w')
  have HY : Hid (∀ w', Calls Try.prog 59 #[.int .i64 q.y] w' fun e w'' => e = .returned (.bool (decide (-1048576 ≤ q.y ∧ q.y ≤ 1048576))) ∧ w' = w'') := Lib.hid (fun w' => ewithin_any q.y w')
  have HZ : Hid (∀ w', Calls Try.prog 59 #[.int .i64 q.z] w' fun e w'' => e = .returned (.bool (decide (-1048576 ≤ q.z ∧ q.z ≤ 1048576))) ∧ w' = w'') := Lib.hid (fun w' => ewithin_any q.z w')
  by_cases cp : PtOk p
  · rw [show decide (PtOk ⟨p.x, p.y, p.z⟩) = true from decide_eq_true cp] at HP
    by_cases cx : -1048576 ≤ q.x ∧ q.x ≤ 1048576
    · rw [decide_eq_true cx] at HX
      by_cases cy : -1048576 ≤ q.y ∧ q.y ≤ 1048576
      · rw [decide_eq_true cy] at HY
        by_cases cz : -1048576 ≤ q.z ∧ q.z ≤ 1048576
        · rw [decide_eq_true cz] at HZ
          by_cases c0 : q.x = 0 ∧ q.y = 0 ∧ q.z = 0
          · rw [show ryB S p q = false from by unfold ryB; rw [decide_eq_false (show ¬ DiOk q from fun h => by obtain ⟨a, b, c⟩ := c0; rcases h.1 with k | k | k <;> contradiction), Bool.false_and, Bool.and_false]]
            have z0 : (q.x == 0) = true := by simp [c0.1]
            have z1 : (q.y == 0) = true := by simp [c0.2.1]
            have z2 : (q.z == 0) = true := by simp [c0.2.2]
            clear cp cx cy cz c0 HSI
            go_enter Try.func42, Try.ntmps42
            go_upto_region 1 with fail
            rw [← HWW.out]; clear HWW
            generalize w.heap.size + 1 = gq at *
            obtain ⟨g, hg⟩ : ∃ g, g = w.heap.size := ⟨_, rfl⟩
            rw [← hg] at E0
            simp only [← hg]
            clear hg
            obtain ⟨x0, x1, x2, y0, y1, y2, l0, l1⟩ := E0.out
            go_wp2_with fail
            refine (HP.out _).mono ?_
            rintro e w1 ⟨rfl, hb⟩
            have E1 := Lib.hid (E0.out.go hb)
            have HB1 := Lib.hid (HW.out.trans (hb.mono HW.out.size))
            clear hb HP E0 HW
            clear x0 x1 x2 y0 y1 y2 l0 l1
            obtain ⟨x0, x1, x2, y0, y1, y2, l0, l1⟩ := E1.out
            go_wp2_with fail
            refine (HX.out _).mono ?_
            rintro e w' ⟨rfl, rfl⟩
            clear HX
            go_wp2_with fail
            refine (HY.out _).mono ?_
            rintro e w' ⟨rfl, rfl⟩
            clear HY
            go_wp2_with fail
            refine (HZ.out _).mono ?_
            rintro e w' ⟨rfl, rfl⟩
            clear HZ
            go_wp2_with fail
            go_ret
            exact ⟨rfl, HB1.out⟩
          · have dk : DiOk q := ⟨by omega, cx, cy, cz⟩
            have HM : Hid (∀ w', Below w.heap.size w w' → Calls Try.prog 60 #[.slice A S.length cap, .agg #[.int .i64 p.x, .int .i64 p.y, .int .i64 p.z], .agg #[.int .i64 q.x, .int .i64 q.y, .int .i64 q.z], .int .i64 2097152] w' (BlIs (ryB S p q) w')) := Lib.hid (fun w' hb => by
              have e : ryB S p q = (solPB S && meetB (iTop 2097152) p q (boxesS S)) := by
                unfold ryB; rw [decide_eq_true cp, decide_eq_true dk, Bool.true_and, Bool.true_and]
                by_cases cs : SolP S
                · rw [ray_top (boxes_ok cs.form) p q cp dk.1]
                · rw [solPB_no cs, Bool.false_and, Bool.false_and]
              rw [e]
              exact emeets_any p q 2097152 (HSI.out.below hb) cp dk.2 (by decide))
            clear dk cp cx cy cz HSI
            by_cases k0 : q.x = 0
            · by_cases k1 : q.y = 0
              · have k2 : ¬ q.z = 0 := fun h => c0 ⟨k0, k1, h⟩
                clear c0
                have z0 : (q.x == 0) = true := by simp [k0]
                have z1 : (q.y == 0) = true := by simp [k1]
                have z2 : (q.z == 0) = false := by simp [k2]
                have KK := Lib.hid (And.intro k0 k1)
                clear k0 k1
                go_enter Try.func42, Try.ntmps42
                go_upto_region 1 with fail
                rw [← HWW.out]; clear HWW
                generalize w.heap.size + 1 = gq at *
                obtain ⟨g, hg⟩ : ∃ g, g = w.heap.size := ⟨_, rfl⟩
                rw [← hg] at E0
                simp only [← hg]
                clear hg
                obtain ⟨x0, x1, x2, y0, y1, y2, l0, l1⟩ := E0.out
                go_wp2_with fail
                refine (HP.out _).mono ?_
                rintro e w1 ⟨rfl, hb⟩
                have E1 := Lib.hid (E0.out.go hb)
                have HB1 := Lib.hid (HW.out.trans (hb.mono HW.out.size))
                clear hb HP E0 HW
                clear x0 x1 x2 y0 y1 y2 l0 l1
                obtain ⟨x0, x1, x2, y0, y1, y2, l0, l1⟩ := E1.out
                go_wp2_with fail
                refine (HX.out _).mono ?_
                rintro e w' ⟨rfl, rfl⟩
                clear HX
                go_wp2_with fail
                refine (HY.out _).mono ?_
                rintro e w' ⟨rfl, rfl⟩
                clear HY
                go_wp2_with fail
                refine (HZ.out _).mono ?_
                rintro e w' ⟨rfl, rfl⟩
                clear HZ
                go_wp2_with fail
                refine (HM.out _ HB1.out).mono ?_
                rintro e w5 ⟨rfl, hb⟩
                have HB5 := Lib.hid (HB1.out.trans (hb.mono HB1.out.size))
                clear hb HM HB1 E1
                generalize ryB S p q = bb at *
                go_wp2_with fail
                go_ret
                exact ⟨rfl, HB5.out⟩
              · clear c0
                have z0 : (q.x == 0) = true := by simp [k0]
                have z1 : (q.y == 0) = false := by simp [k1]
                clear k0
                go_enter Try.func42, Try.ntmps42
                go_upto_region 1 with fail
                rw [← HWW.out]; clear HWW
                generalize w.heap.size + 1 = gq at *
                obtain ⟨g, hg⟩ : ∃ g, g = w.heap.size := ⟨_, rfl⟩
                rw [← hg] at E0
                simp only [← hg]
                clear hg
                obtain ⟨x0, x1, x2, y0, y1, y2, l0, l1⟩ := E0.out
                go_wp2_with fail
                refine (HP.out _).mono ?_
                rintro e w1 ⟨rfl, hb⟩
                have E1 := Lib.hid (E0.out.go hb)
                have HB1 := Lib.hid (HW.out.trans (hb.mono HW.out.size))
                clear hb HP E0 HW
                clear x0 x1 x2 y0 y1 y2 l0 l1
                obtain ⟨x0, x1, x2, y0, y1, y2, l0, l1⟩ := E1.out
                go_wp2_with fail
                refine (HX.out _).mono ?_
                rintro e w' ⟨rfl, rfl⟩
                clear HX
                go_wp2_with fail
                refine (HY.out _).mono ?_
                rintro e w' ⟨rfl, rfl⟩
                clear HY
                go_wp2_with fail
                refine (HZ.out _).mono ?_
                rintro e w' ⟨rfl, rfl⟩
                clear HZ
                go_wp2_with fail
                refine (HM.out _ HB1.out).mono ?_
                rintro e w5 ⟨rfl, hb⟩
                have HB5 := Lib.hid (HB1.out.trans (hb.mono HB1.out.size))
                clear hb HM HB1 E1
                generalize ryB S p q = bb at *
                go_wp2_with fail
                go_ret
                exact ⟨rfl, HB5.out⟩
            · clear c0
              have z0 : (q.x == 0) = false := by simp [k0]
              go_enter Try.func42, Try.ntmps42
              go_upto_region 1 with fail
              rw [← HWW.out]; clear HWW
              generalize w.heap.size + 1 = gq at *
              obtain ⟨g, hg⟩ : ∃ g, g = w.heap.size := ⟨_, rfl⟩
              rw [← hg] at E0
              simp only [← hg]
              clear hg
              obtain ⟨x0, x1, x2, y0, y1, y2, l0, l1⟩ := E0.out
              go_wp2_with fail
              refine (HP.out _).mono ?_
              rintro e w1 ⟨rfl, hb⟩
              have E1 := Lib.hid (E0.out.go hb)
              have HB1 := Lib.hid (HW.out.trans (hb.mono HW.out.size))
              clear hb HP E0 HW
              clear x0 x1 x2 y0 y1 y2 l0 l1
              obtain ⟨x0, x1, x2, y0, y1, y2, l0, l1⟩ := E1.out
              go_wp2_with fail
              refine (HX.out _).mono ?_
              rintro e w' ⟨rfl, rfl⟩
              clear HX
              go_wp2_with fail
              refine (HY.out _).mono ?_
              rintro e w' ⟨rfl, rfl⟩
              clear HY
              go_wp2_with fail
              refine (HZ.out _).mono ?_
              rintro e w' ⟨rfl, rfl⟩
              clear HZ
              go_wp2_with fail
              refine (HM.out _ HB1.out).mono ?_
              rintro e w5 ⟨rfl, hb⟩
              have HB5 := Lib.hid (HB1.out.trans (hb.mono HB1.out.size))
              clear hb HM HB1 E1
              generalize ryB S p q = bb at *
              go_wp2_with fail
              go_ret
              exact ⟨rfl, HB5.out⟩
        · rw [decide_eq_false cz] at HZ
          rw [show ryB S p q = false from by unfold ryB; rw [decide_eq_false (show ¬ DiOk q from fun h => cz h.2.2.2), Bool.false_and, Bool.and_false]]
          clear cp cx cy cz HSI
          go_enter Try.func42, Try.ntmps42
          go_upto_region 1 with fail
          rw [← HWW.out]; clear HWW
          generalize w.heap.size + 1 = gq at *
          obtain ⟨g, hg⟩ : ∃ g, g = w.heap.size := ⟨_, rfl⟩
          rw [← hg] at E0
          simp only [← hg]
          clear hg
          obtain ⟨x0, x1, x2, y0, y1, y2, l0, l1⟩ := E0.out
          go_wp2_with fail
          refine (HP.out _).mono ?_
          rintro e w1 ⟨rfl, hb⟩
          have E1 := Lib.hid (E0.out.go hb)
          have HB1 := Lib.hid (HW.out.trans (hb.mono HW.out.size))
          clear hb HP E0 HW
          clear x0 x1 x2 y0 y1 y2 l0 l1
          obtain ⟨x0, x1, x2, y0, y1, y2, l0, l1⟩ := E1.out
          go_wp2_with fail
          refine (HX.out _).mono ?_
          rintro e w' ⟨rfl, rfl⟩
          clear HX
          go_wp2_with fail
          refine (HY.out _).mono ?_
          rintro e w' ⟨rfl, rfl⟩
          clear HY
          go_wp2_with fail
          refine (HZ.out _).mono ?_
          rintro e w' ⟨rfl, rfl⟩
          clear HZ
          go_wp2_with fail
          go_ret
          exact ⟨rfl, HB1.out⟩
      · rw [decide_eq_false cy] at HY
        rw [show ryB S p q = false from by unfold ryB; rw [decide_eq_false (show ¬ DiOk q from fun h => cy h.2.2.1), Bool.false_and, Bool.and_false]]
        clear cp cx cy HSI HZ
        go_enter Try.func42, Try.ntmps42
        go_upto_region 1 with fail
        rw [← HWW.out]; clear HWW
        generalize w.heap.size + 1 = gq at *
        obtain ⟨g, hg⟩ : ∃ g, g = w.heap.size := ⟨_, rfl⟩
        rw [← hg] at E0
        simp only [← hg]
        clear hg
        obtain ⟨x0, x1, x2, y0, y1, y2, l0, l1⟩ := E0.out
        go_wp2_with fail
        refine (HP.out _).mono ?_
        rintro e w1 ⟨rfl, hb⟩
        have E1 := Lib.hid (E0.out.go hb)
        have HB1 := Lib.hid (HW.out.trans (hb.mono HW.out.size))
        clear hb HP E0 HW
        clear x0 x1 x2 y0 y1 y2 l0 l1
        obtain ⟨x0, x1, x2, y0, y1, y2, l0, l1⟩ := E1.out
        go_wp2_with fail
        refine (HX.out _).mono ?_
        rintro e w' ⟨rfl, rfl⟩
        clear HX
        go_wp2_with fail
        refine (HY.out _).mono ?_
        rintro e w' ⟨rfl, rfl⟩
        clear HY
        go_wp2_with fail
        go_ret
        exact ⟨rfl, HB1.out⟩
    · rw [decide_eq_false cx] at HX
      rw [show ryB S p q = false from by unfold ryB; rw [decide_eq_false (show ¬ DiOk q from fun h => cx h.2.1), Bool.false_and, Bool.and_false]]
      clear cp cx HSI HY HZ
      go_enter Try.func42, Try.ntmps42
      go_upto_region 1 with fail
      rw [← HWW.out]; clear HWW
      generalize w.heap.size + 1 = gq at *
      obtain ⟨g, hg⟩ : ∃ g, g = w.heap.size := ⟨_, rfl⟩
      rw [← hg] at E0
      simp only [← hg]
      clear hg
      obtain ⟨x0, x1, x2, y0, y1, y2, l0, l1⟩ := E0.out
      go_wp2_with fail
      refine (HP.out _).mono ?_
      rintro e w1 ⟨rfl, hb⟩
      have E1 := Lib.hid (E0.out.go hb)
      have HB1 := Lib.hid (HW.out.trans (hb.mono HW.out.size))
      clear hb HP E0 HW
      clear x0 x1 x2 y0 y1 y2 l0 l1
      obtain ⟨x0, x1, x2, y0, y1, y2, l0, l1⟩ := E1.out
      go_wp2_with fail
      refine (HX.out _).mono ?_
      rintro e w' ⟨rfl, rfl⟩
      clear HX
      go_wp2_with fail
      go_ret
      exact ⟨rfl, HB1.out⟩
  · rw [show decide (PtOk ⟨p.x, p.y, p.z⟩) = false from decide_eq_false cp] at HP
    rw [show ryB S p q = false from by unfold ryB; rw [decide_eq_false cp, Bool.false_and]]
    clear cp HSI HX HY HZ
    go_enter Try.func42, Try.ntmps42
    go_upto_region 1 with fail
    rw [← HWW.out]; clear HWW
    generalize w.heap.size + 1 = gq at *
    obtain ⟨g, hg⟩ : ∃ g, g = w.heap.size := ⟨_, rfl⟩
    rw [← hg] at E0
    simp only [← hg]
    clear hg
    obtain ⟨x0, x1, x2, y0, y1, y2, l0, l1⟩ := E0.out
    go_wp2_with fail
    refine (HP.out _).mono ?_
    rintro e w1 ⟨rfl, hb⟩
    have E1 := Lib.hid (E0.out.go hb)
    have HB1 := Lib.hid (HW.out.trans (hb.mono HW.out.size))
    clear hb HP E0 HW
    clear x0 x1 x2 y0 y1 y2 l0 l1
    go_wp2_with fail
    go_ret
    exact ⟨rfl, HB1.out⟩
end Go.Proofs.Ytdnoadngfkiabaa
