/-
  Contracts of layer 13 (24): what Split stands on.
  Contracts of the program's layer 5, as far as layer 8 calls it: spread, Grow, Gap.
  Contracts of the program's layer 8 (8): Gap, Within.
-/
import Derived.Test.YtngddecpfhlilaaGreatC30
import Derived.Test.YtngddecpfhlilaaGreatC32
import Derived.Test.YtngddecpfhlilaaGreatC33
import Derived.Test.YtngddecpfhlilaaGreatC02
import Derived.Test.YtngddecpfhlilaaGreatC05
import Derived.Test.YtngddecpfhlilaaGreatC11
import Derived.Test.YtngddecpfhlilaaGreatC07
import Derived.Lib.MinMax
import Derived.Deep.AppendLies
set_option linter.unusedVariables false
set_option maxRecDepth 100000
namespace Go.Proofs.YtngddecpfhlilaaGreat
open Go.RowKit
theorem asc_adj : ∀ {l : List Int}, (∀ j (h : j + 1 < l.length), l[j] < l[j + 1]) → Asc l
 | [], _ => trivial
 | [a], _ => trivial
 | a :: b :: t, h => ⟨h 0 (by simp), asc_adj (l := b :: t) (fun j hj => h (j + 1) (by simpa using hj))⟩
theorem frB_asc {l : List Int} (h : frB l = true) : Asc l ∧ ∀ n ∈ l, 1 ≤ n ∧ n ≤ 1073741824 := by
 unfold frB at h
 have h := of_decide_eq_true h
 refine ⟨asc_adj (fun j hj => ?_), fun n hn => ?_⟩
 ·exact (h (j + 1) hj).2 (by omega)
 ·obtain ⟨j, hj, rfl⟩ := List.getElem_of_mem hn
  exact (nB_iff _).1 (h j hj).1
theorem asc_room : ∀ {t : List Int} (lo hi : Int), Asc t → (∀ z ∈ t, lo ≤ z ∧ z ≤ hi) → lo ≤ hi + 1 → (t.length : Int) ≤ hi - lo + 1
 | [], lo, hi, _, _, h => by simp; omega
 | a :: t, lo, hi, ha, hb, _ => by
  have h1 := hb a (by simp)
  have := asc_room (a + 1) hi ha.tail (fun z hz => ⟨by have := ha.lt z hz; omega, (hb z (by simp [hz])).2⟩) (by omega)
  rw [List.length_cons]
  push_cast
  omega
theorem fr_room {l : List Int} (h : frB l = true) : l.length ≤ 1073741824 := by
 obtain ⟨h1, h2⟩ := frB_asc h
 have := asc_room 1 1073741824 h1 h2 (by omega)
 omega
theorem line_one {t : Lt} (h : Asc t.fr) : lineS [t] = insS t.id t.fr := by
 unfold lineS idsL
 refine asc_eq (sortS_is _).1 (insS_asc h) (fun z => ?_)
 rw [(sortS_is _).2, insS_mem]
 simp
noncomputable def rgB (l : List Rc) : Bool := @decide (RegP l) (Classical.propDecidable _)
theorem rgB_iff (l : List Rc) : rgB l = true ↔ RegP l := @decide_eq_true_iff _ (Classical.propDecidable _)
theorem rg_any (A : Option Addr) (cap : Nat) (l : List Rc) (w : World) (h : RIn w A cap l) : Calls Tryz.prog 66 #[.slice A l.length cap] w (BlIs (rgB l) w) :=
 (gright_any A cap l w h.row h.len h.room h.room2).mono (fun e w' ⟨b, hb, h'⟩ => by
  have : rgB l = b := by
   cases hc : rgB l
   ·cases b
    ·rfl
    ·have := (rgB_iff l).2 (hb.1 rfl); rw [hc] at this; exact this
   ·have := hb.2 ((rgB_iff l).1 hc); rw [this]
  rw [this]; exact h')
theorem LtIn.two {w : World} {b : Nat} {t u : Lt} {p q : LtP} (h : w.heap[b]? = some (.cells #[.int .i64 t.id, .int .i64 t.ow, .slice p.A t.ar.length p.c, .slice p.B t.fr.length p.d, .int .i64 u.id, .int .i64 u.ow, .slice q.A u.ar.length q.c, .slice q.B u.fr.length q.d] 40 (0, 0))) (hi : LtI w t p) (hu : LtI w u q) : LtIn w (some ⟨b, 0, none⟩) 2 [t, u] :=
 ⟨fun _ => ⟨b, 0, rfl, (Array.getElem?_eq_some_iff.1 h).1, fun j hj => by
  have hj2 : j = 0 ∨ j = 1 := by simp at hj; omega
  rcases hj2 with rfl | rfl
  ·exact ⟨p, ⟨by rw [Lib.cell_of_heap h]; rfl, by rw [Lib.cell_of_heap h]; rfl, by rw [Lib.cell_of_heap h]; rfl, by rw [Lib.cell_of_heap h]; rfl⟩, hi⟩
  ·exact ⟨q, ⟨by rw [Lib.cell_of_heap h]; rfl, by rw [Lib.cell_of_heap h]; rfl, by rw [Lib.cell_of_heap h]; rfl, by rw [Lib.cell_of_heap h]; rfl⟩, hu⟩⟩, by simp, by simp, by omega⟩
theorem NIn.one {w : World} {g : Nat} {k : Int} (h : w.heap[g]? = some (.cells #[.int .i64 k] 3 (0, 0))) : NIn w (some ⟨g, 0, none⟩) 1 [k] :=
 ⟨fun _ => ⟨g, 0, rfl, (Array.getElem?_eq_some_iff.1 h).1, fun j hj => by
  obtain rfl : j = 0 := by simp at hj; exact hj
  rw [Lib.cell_of_heap h]; rfl⟩, by simp, by simp, by omega⟩
theorem cap_cases (F : List Rc) : ((capR F).1 = F ∧ (capR F).2 = 0 ∧ F.length ≤ 200) ∨ ((capR F).1 = [] ∧ (capR F).2 = 6 ∧ 200 < F.length) := by
 unfold capR
 by_cases h : F.length ≤ 200
 ·rw [if_pos h]; exact .inl ⟨rfl, rfl, h⟩
 ·rw [if_neg h]; exact .inr ⟨rfl, rfl, by omega⟩
theorem op_yes (op : Bool → Bool → Bool) {a b : List Rc} (ha : RegP a) (hb : RegP b) : opR op a b = capR (formO op a b) := by
 unfold opR; rw [if_pos ⟨ha, hb⟩]
end Go.Proofs.YtngddecpfhlilaaGreat
namespace Go.Proofs.YtngddecpfhlilaaGreat
open Go.RowKit
set_option maxHeartbeats 16000000 in
theorem tgap_any (a b : Rc) (w : World) : Calls Tryz.prog 85 #[.agg #[.int .i64 a.X0, .int .i64 a.Y0, .int .i64 a.X1, .int .i64 a.Y1], .agg #[.int .i64 b.X0, .int .i64 b.Y0, .int .i64 b.X1, .int .i64 b.Y1]] w (InIs (gapR a b) w) := by
 by_cases ka : ROk a
 ·have oa : rokB ⟨a.X0, a.Y0, a.X1, a.Y1⟩ = true := (rokB_iff a).2 ka
  by_cases kb : ROk b
  ·have ob : rokB ⟨b.X0, b.Y0, b.X1, b.Y1⟩ = true := (rokB_iff b).2 kb
   rw [show gapR a b = max 0 (max (apartI a.X0 a.X1 b.X0 b.X1) (apartI a.Y0 a.Y1 b.Y0 b.Y1) - 1) from by unfold gapR; rw [if_pos ⟨ka, kb⟩]]
   have gm := ka.grid.meet kb.grid
   have HO := Lib.hid (fun w => toverlap_any a b w)
   have hx := apart_ext ka.1.2.1 kb.1.2.1
   have hy := apart_ext ka.2.2.1 kb.2.2.1
   have he : ∀ w, Calls Tryz.prog 127 #[.agg #[.int .i64 (meetR a b).X0, .int .i64 (meetR a b).Y0, .int .i64 (meetR a b).X1, .int .i64 (meetR a b).Y1]] w fun e w' => e = .returned (.tuple #[.int .i64 ((meetR a b).X1 - (meetR a b).X0), .int .i64 ((meetR a b).Y1 - (meetR a b).Y0)]) ∧ Below w.heap.size w w' := fun w => textent_any _ _ _ _ gm w
   have HE := Lib.hid he; clear he
   have gm0 := gm
   obtain ⟨⟨g1, g2⟩, ⟨g3, g4⟩, ⟨g5, g6⟩, g7, g8⟩ := gm
   have mx : min a.X1 b.X1 - max a.X0 b.X0 = (meetR a b).X1 - (meetR a b).X0 := rfl
   have my : min a.Y1 b.Y1 - max a.Y0 b.Y0 = (meetR a b).Y1 - (meetR a b).Y0 := rfl
   rw [mx] at hx; rw [my] at hy
   clear mx my ka kb gm0
   generalize meetR a b = m at *
   have hG : max 0 (max (apartI a.X0 a.X1 b.X0 b.X1) (apartI a.Y0 a.Y1 b.Y0 b.Y1) - 1) = max 0 (max (-(m.X1 - m.X0)) (-(m.Y1 - m.Y0))) := by
    rw [hx, hy]; split <;> split <;> omega
   rw [hG]; clear hG hx hy
   have hc : -1048576 ≤ m.X1 - m.X0 ∧ m.X1 - m.X0 ≤ 1048576 := by omega
   have hr : -1048576 ≤ m.Y1 - m.Y0 ∧ m.Y1 - m.Y0 ≤ 1048576 := by omega
   generalize m.X1 - m.X0 = c at *
   generalize m.Y1 - m.Y0 = r at *
   clear g1 g2 g3 g4 g5 g6 g7 g8
   have q1 : IntKind.i64.wrap (-c) = -c := IntWalk.i64_in _ (by omega)
   have q2 : IntKind.i64.wrap (-r) = -r := IntWalk.i64_in _ (by omega)
   go_enter Tryz.func85, Tryz.ntmps85
   go_wp2_with (first | (go_at_call 63; refine (tright_nd _ _ _ _ _).mono ?_; rintro e w1 ⟨rfl, hb⟩; obtain ⟨hc, hf⟩ := bcell hb; have hz := hb.size; (try simp at hz); have hz0 : w.heap.size < w1.heap.size := (by omega); have hz1 : w.heap.size + 1 < w1.heap.size := (by omega); have HBl := Lib.hid hb; clear hb) | (go_at_call 140; refine (HO.out _).mono ?_; rintro e w1 ⟨rfl, hb⟩; obtain ⟨hc, hf⟩ := bcell hb; have hz := hb.size; (try simp at hz); have hz0 : w.heap.size < w1.heap.size := (by omega); have hz1 : w.heap.size + 1 < w1.heap.size := (by omega); have HBl := Lib.hid hb; clear hb) | (go_at_call 127; refine (HE.out _).mono ?_; rintro e w1 ⟨rfl, hb⟩; obtain ⟨hc, hf⟩ := bcell hb; have hz := hb.size; (try simp at hz); have hz0 : w.heap.size < w1.heap.size := (by omega); have hz1 : w.heap.size + 1 < w1.heap.size := (by omega); have HBl := Lib.hid hb; clear hb))
   all_goals go_ret
   all_goals exact InIs.of (by omega) (by (repeat' first | exact Below.refl _ _ | assumption | (apply below_drewN) | (refine Below.setCell ?_ (by (try simp); (try omega)) _) | (refine Below.alloc ?_ (by (try simp); (try omega)) _) | (refine Below.trans ?_ (Below.mono (Hid.out (by assumption)) (by (try simp); (try omega))))))
  ·have ob : rokB ⟨b.X0, b.Y0, b.X1, b.Y1⟩ = false := (rokB_no b).2 kb
   rw [gap_no (a := a) (b := b) (fun h => kb h.2)]
   clear ka kb
   go_enter Tryz.func85, Tryz.ntmps85
   go_wp2_with ((go_at_call 63; refine (tright_nd _ _ _ _ _).mono ?_; rintro e w1 ⟨rfl, hb⟩; obtain ⟨hc, hf⟩ := bcell hb; have hz := hb.size; (try simp at hz); have hz0 : w.heap.size < w1.heap.size := (by omega); have hz1 : w.heap.size + 1 < w1.heap.size := (by omega); have HBl := Lib.hid hb; clear hb))
   go_ret
   exact ⟨rfl, by (repeat' first | exact Below.refl _ _ | assumption | (apply below_drewN) | (refine Below.setCell ?_ (by (try simp); (try omega)) _) | (refine Below.alloc ?_ (by (try simp); (try omega)) _) | (refine Below.trans ?_ (Below.mono (Hid.out (by assumption)) (by (try simp); (try omega)))))⟩
 ·have oa : rokB ⟨a.X0, a.Y0, a.X1, a.Y1⟩ = false := (rokB_no a).2 ka
  rw [gap_no (a := a) (b := b) (fun h => ka h.1)]
  clear ka
  go_enter Tryz.func85, Tryz.ntmps85
  go_wp2_with ((go_at_call 63; refine (tright_nd _ _ _ _ _).mono ?_; rintro e w1 ⟨rfl, hb⟩; obtain ⟨hc, hf⟩ := bcell hb; have hz := hb.size; (try simp at hz); have hz0 : w.heap.size < w1.heap.size := (by omega); have hz1 : w.heap.size + 1 < w1.heap.size := (by omega); have HBl := Lib.hid hb; clear hb))
  go_ret
  exact ⟨rfl, by (repeat' first | exact Below.refl _ _ | assumption | (apply below_drewN) | (refine Below.setCell ?_ (by (try simp); (try omega)) _) | (refine Below.alloc ?_ (by (try simp); (try omega)) _) | (refine Below.trans ?_ (Below.mono (Hid.out (by assumption)) (by (try simp); (try omega)))))⟩
end Go.Proofs.YtngddecpfhlilaaGreat
namespace Go.Proofs.YtngddecpfhlilaaGreat
open Go.RowKit
noncomputable def gapM (a b : List Rc) : Int × Bool := if RegP a ∧ RegP b ∧ a ≠ [] ∧ b ≠ [] then (gapL a b 1048576, true) else (0, false)
def GapIs (x : Int × Bool) (w : World) (e : Ending) (w' : World) : Prop := e = .returned (.tuple #[.int .i64 x.1, .bool x.2]) ∧ Below w.heap.size w w'
theorem gapM_no {a b : List Rc} (h : ¬ (RegP a ∧ RegP b ∧ a ≠ [] ∧ b ≠ [])) : gapM a b = (0, false) := if_neg h
theorem gapL_next (a b : List Rc) (m : Int) (k : Nat) (h : k < a.length) : gapL (a.take (k + 1)) b m = gapRow a[k] b (gapL (a.take k) b m) := by rw [List.take_succ_eq_append_getElem h, gapL_snoc]
theorem gapRow_next (r : Rc) (b : List Rc) (m : Int) (k : Nat) (h : k < b.length) : gapRow r (b.take (k + 1)) m = min (gapRow r (b.take k) m) (gapR r b[k]) := by rw [List.take_succ_eq_append_getElem h, gapRow_snoc]
set_option maxHeartbeats 8000000 in
theorem ygap_no (A1 : Option Addr) (c1 : Nat) (A2 : Option Addr) (c2 : Nat) (a b : List Rc) (w : World) (ha : RIn w A1 c1 a) (hb : RIn w A2 c2 b) (hn : ¬ (RegP a ∧ RegP b ∧ a ≠ [] ∧ b ≠ [])) :
  Calls Tryz.prog 35 #[.slice A1 a.length c1, .slice A2 b.length c2] w (GapIs (gapM a b) w) := by
 rw [gapM_no hn]
 by_cases hra : RegP a
 ·have HR1 := Lib.hid (gright_yes A1 c1 a w ha.row ha.len ha.room ha.room2 hra)
  by_cases hrb : RegP b
  ·have HR2 := Lib.hid (fun w' (h : Below w.heap.size w w') => gright_yes A2 c2 b w' (hb.below h).row hb.len hb.room hb.room2 hrb)
   have he : a = [] ∨ (0 < a.length ∧ b = []) := by
    by_cases e1 : a = []
    ·exact Or.inl e1
    ·refine Or.inr ⟨List.length_pos_iff.2 e1, Classical.byContradiction fun e2 => hn ⟨hra, hrb, e1, e2⟩⟩
   clear hra hrb hn ha hb
   rcases he with rfl | ⟨h0, rfl⟩
   ·go_enter Tryz.func35, Tryz.ntmps35
    go_wp2_with fail
    refine HR1.out.mono ?_
    rintro e1 w1 ⟨rfl, hb1⟩
    have HB1 := Lib.hid hb1; clear hb1
    go_wp2_with fail
    refine (HR2.out _ HB1.out).mono ?_
    rintro e2 w2 ⟨rfl, hb2⟩
    have HB2 := Lib.hid (HB1.out.trans (hb2.mono HB1.out.size)); clear hb2 HB1
    go_wp2_with fail
    go_ret2
    exact ⟨rfl, HB2.out⟩
   ·have e0 : ((a.length : Int) == 0) = false := beq_eq_false_iff_ne.2 (by omega)
    go_enter Tryz.func35, Tryz.ntmps35
    go_wp2_with fail
    refine HR1.out.mono ?_
    rintro e1 w1 ⟨rfl, hb1⟩
    have HB1 := Lib.hid hb1; clear hb1
    go_wp2_with fail
    refine (HR2.out _ HB1.out).mono ?_
    rintro e2 w2 ⟨rfl, hb2⟩
    have HB2 := Lib.hid (HB1.out.trans (hb2.mono HB1.out.size)); clear hb2 HB1
    go_wp2_with fail
    go_ret2
    exact ⟨rfl, HB2.out⟩
  ·have HR2 := Lib.hid (fun w' (h : Below w.heap.size w w') => gright_no A2 c2 b w' (hb.below h).row hb.len hb.room hb.room2 hrb)
   clear hra hrb hn ha hb
   go_enter Tryz.func35, Tryz.ntmps35
   go_wp2_with fail
   refine HR1.out.mono ?_
   rintro e1 w1 ⟨rfl, hb1⟩
   have HB1 := Lib.hid hb1; clear hb1
   go_wp2_with fail
   refine (HR2.out _ HB1.out).mono ?_
   rintro e2 w2 ⟨rfl, hb2⟩
   have HB2 := Lib.hid (HB1.out.trans (hb2.mono HB1.out.size)); clear hb2 HB1
   go_wp2_with fail
   go_ret2
   exact ⟨rfl, HB2.out⟩
 ·have HR1 := Lib.hid (gright_no A1 c1 a w ha.row ha.len ha.room ha.room2 hra)
  clear hra hn ha hb
  go_enter Tryz.func35, Tryz.ntmps35
  go_wp2_with fail
  refine HR1.out.mono ?_
  rintro e1 w1 ⟨rfl, hb1⟩
  have HB1 := Lib.hid hb1; clear hb1
  go_wp2_with fail
  go_ret2
  exact ⟨rfl, HB1.out⟩
set_option maxHeartbeats 16000000 in
theorem ygap_yes (A1 : Option Addr) (c1 : Nat) (A2 : Option Addr) (c2 : Nat) (a b : List Rc) (w : World) (ha : RIn w A1 c1 a) (hb : RIn w A2 c2 b) (hra : RegP a) (hrb : RegP b) (hna : a ≠ []) (hnb : b ≠ []) :
  Calls Tryz.prog 35 #[.slice A1 a.length c1, .slice A2 b.length c2] w (GapIs (gapM a b) w) := by
 rw [show gapM a b = (gapL a b 1048576, true) from if_pos ⟨hra, hrb, hna, hnb⟩]
 have HR1 := Lib.hid (gright_yes A1 c1 a w ha.row ha.len ha.room ha.room2 hra)
 have HR2 := Lib.hid (fun w' (h : Below w.heap.size w w') => gright_yes A2 c2 b w' (hb.below h).row hb.len hb.room hb.room2 hrb)
 have HA := Lib.hid ha; have HBb := Lib.hid hb
 have e0 : ((a.length : Int) == 0) = false := by have := List.length_pos_iff.2 hna; simp; omega
 have e1 : ((b.length : Int) == 0) = false := by have := List.length_pos_iff.2 hnb; simp; omega
 have hal := hra.2; have hbl := hrb.2
 clear ha hb hra hrb hna hnb
 go_enter Tryz.func35, Tryz.ntmps35
 go_wp2_with fail
 refine HR1.out.mono ?_
 rintro e1 w1 ⟨rfl, hb1⟩
 have HB1 := Lib.hid hb1; clear hb1
 go_wp2_with fail
 refine (HR2.out _ HB1.out).mono ?_
 rintro e2 w2 ⟨rfl, hb2⟩
 have HB2 := Lib.hid (HB1.out.trans (hb2.mono HB1.out.size)); clear hb2 HB1
 go_wp2_with fail
 go_loopw [6, 31] (fun m i wr => ∃ k : Nat, k ≤ a.length ∧ i = .int .i64 k ∧ m = .int .i64 (gapL (a.take k) b 1048576) ∧ Hid (Below w.heap.size w wr)) (fun _ i _ => a.length - (intOf i).toNat)
 case atStart => exact ⟨0, Nat.zero_le _, rfl, rfl, HB2⟩
 case round =>
  clear HB2
  obtain ⟨k, hk, rfl, rfl, HB⟩ := hrel
  by_cases hlt : k < a.length
  ·obtain ⟨b1, o1, rfl, hb1, hv1⟩ := HA.out.row (by omega)
   obtain ⟨x0, x1, x2, x3⟩ := hv1 k hlt
   have wc := fun o => HB.out.cell (p := ⟨b1, o, none⟩) hb1
   have x0 := (wc _).trans x0; have x1 := (wc _).trans x1; have x2 := (wc _).trans x2; have x3 := (wc _).trans x3
   clear hv1 wc
   have i0 : (0 : Int) ≤ (k : Int) := by omega
   have i1 : (k : Int) < (a.length : Int) := by omega
   have HN := Lib.hid (gapL_next a b 1048576 k hlt)
   obtain ⟨u, hu⟩ : ∃ u, u = a[k] := ⟨_, rfl⟩
   rw [← hu] at x0 x1 x2 x3 HN
   clear hu
   obtain ⟨m0, hm0⟩ : ∃ m0, m0 = gapL (a.take k) b 1048576 := ⟨_, rfl⟩
   rw [← hm0] at HN ⊢
   clear hm0
   have K0 : Hid (RcAt (wr.alloc (.cells #[.int .i64 u.X0, .int .i64 u.Y0, .int .i64 u.X1, .int .i64 u.Y1] 68)) wr.heap.size u ∧ Below w.heap.size w (wr.alloc (.cells #[.int .i64 u.X0, .int .i64 u.Y0, .int .i64 u.X1, .int .i64 u.Y1] 68))) := Lib.hid ⟨RcAt.new wr u _ rfl, HB.out.alloc HB.out.size _⟩
   have hbs := HB.out.size
   obtain ⟨wo, rfl⟩ : ∃ wo : World, wo = wr := ⟨_, rfl⟩
   clear HB
   go_wp2_with fail
   clear x0 x1 x2 x3
   go_loopw [6, 37] (fun m i w3 => ∃ j : Nat, j ≤ b.length ∧ i = .int .i64 j ∧ m = .int .i64 (gapRow u (b.take j) m0) ∧ Hid (RcAt w3 wo.heap.size u ∧ Below w.heap.size w w3)) (fun _ i _ => b.length - (intOf i).toNat)
   case atStart => exact ⟨0, Nat.zero_le _, rfl, rfl, K0⟩
   case round =>
    clear K0
    obtain ⟨j, hj, rfl, rfl, HK⟩ := hrel
    by_cases hjt : j < b.length
    ·obtain ⟨b2, o2, rfl, hb2, hv2⟩ := HBb.out.row (by omega)
     obtain ⟨y0, y1, y2, y3⟩ := hv2 j hjt
     have wc := fun o => HK.out.2.cell (p := ⟨b2, o, none⟩) hb2
     have y0 := (wc _).trans y0; have y1 := (wc _).trans y1; have y2 := (wc _).trans y2; have y3 := (wc _).trans y3
     clear hv2 wc
     have j0 : (0 : Int) ≤ (j : Int) := by omega
     have j1 : (j : Int) < (b.length : Int) := by omega
     have HN2 := Lib.hid (gapRow_next u b m0 j hjt)
     obtain ⟨v, hv⟩ : ∃ v, v = b[j] := ⟨_, rfl⟩
     rw [← hv] at y0 y1 y2 y3 HN2
     clear hv
     obtain ⟨m1, hm1⟩ : ∃ m1, m1 = gapRow u (b.take j) m0 := ⟨_, rfl⟩
     rw [← hm1] at HN2 ⊢
     clear hm1
     have z0 := HK.out.1.cell0; have z1 := HK.out.1.cell1; have z2 := HK.out.1.cell2; have z3 := HK.out.1.cell3
     have zl := HK.out.1.lt
     have hbs2 := HK.out.2.size
     have K1 : Hid (RcAt (wr.alloc (.cells #[.int .i64 v.X0, .int .i64 v.Y0, .int .i64 v.X1, .int .i64 v.Y1] 68)) wo.heap.size u ∧ Below w.heap.size w (wr.alloc (.cells #[.int .i64 v.X0, .int .i64 v.Y0, .int .i64 v.X1, .int .i64 v.Y1] 68))) := Lib.hid ⟨HK.out.1.alloc _, HK.out.2.alloc hbs2 _⟩
     clear HK
     go_wp2_with fail
     refine (tgap_any u v _).mono ?_
     rintro e3 w3 ⟨rfl, hb3⟩
     have K2 : Hid (RcAt w3 wo.heap.size u ∧ Below w.heap.size w w3) := Lib.hid ⟨K1.out.1.below hb3 K1.out.1.lt, K1.out.2.trans (hb3.mono K1.out.2.size)⟩
     clear hb3 K1 y0 y1 y2 y3 z0 z1 z2 z3
     go_wp2_with fail
     go_roundw
     case rel => exact ⟨j + 1, by omega, by go_num, by rw [HN2.out], K2⟩
     case measure => simp [intOf]; omega
    ·obtain rfl : j = b.length := by omega
     have e : gapRow u (b.take b.length) m0 = gapL (a.take (k + 1)) b 1048576 := by rw [List.take_length, HN.out]
     rw [e]
     have HKB := Lib.hid HK.out.2
     clear HK HN e
     obtain ⟨m2, hm2⟩ : ∃ m2, m2 = gapL (a.take (k + 1)) b 1048576 := ⟨_, rfl⟩
     have HM2 := Lib.hid hm2
     rw [← hm2]
     clear hm2
     go_wp2_with fail
     go_roundw
     case rel => exact ⟨k + 1, by omega, by go_num, by rw [HM2.out], HKB⟩
     case measure => simp [intOf]; omega
  ·obtain rfl : k = a.length := by omega
   rw [List.take_length]
   go_wp2_with fail
   go_ret2
   exact ⟨rfl, HB.out⟩
theorem ygap_any (A1 : Option Addr) (c1 : Nat) (A2 : Option Addr) (c2 : Nat) (a b : List Rc) (w : World) (ha : RIn w A1 c1 a) (hb : RIn w A2 c2 b) :
  Calls Tryz.prog 35 #[.slice A1 a.length c1, .slice A2 b.length c2] w (GapIs (gapM a b) w) := by
 by_cases h : RegP a ∧ RegP b ∧ a ≠ [] ∧ b ≠ []
 ·exact ygap_yes A1 c1 A2 c2 a b w ha hb h.1 h.2.1 h.2.2.1 h.2.2.2
 ·exact ygap_no A1 c1 A2 c2 a b w ha hb h
end Go.Proofs.YtngddecpfhlilaaGreat
