/-
  Contracts of layer 13 (13): clone.
-/
import Derived.Test.YtngddecpfhlilaaGreatC28
import Derived.Test.YtngddecpfhlilaaGreatC19
import Derived.Deep.RegionHeld3
set_option linter.unusedVariables false
set_option maxRecDepth 100000
namespace Go.Proofs.YtngddecpfhlilaaGreat
open Go.RowKit
structure LvOwn (B : Nat) (x : LtV) (w : World) : Prop where
 ar : w.ownsRow B 68 4 (.slice x.p.A x.t.ar.length x.p.c) x.t.ar.length (rcells x.t.ar)
 fr : w.ownsRow B 3 1 (.slice x.p.B x.t.fr.length x.p.d) x.t.fr.length (icells x.t.fr)
theorem LvOwn.go {B : Nat} {x : LtV} {w w' : World} (h : LvOwn B x w) (hb : Below w.heap.size w w') : LvOwn B x w' := ⟨own_go h.ar hb, own_go h.fr hb⟩
def ClIs (t : Lt) (w : World) (e : Ending) (w' : World) : Prop := ∃ p, e = .returned (lvl t p) ∧ LvOwn w.heap.size ⟨t, p⟩ w' ∧ Below w.heap.size w w'
set_option maxHeartbeats 16000000 in
theorem clone_any (t : Lt) (p : LtP) (w : World) (h : LtI w t p) : Calls Tryz.prog 61 #[lvl t p] w (ClIs t w) := by
 have HR := Lib.hid (fun w' (hb : Below w.heap.size w w') => rclone_any p.A p.c t.ar w' (h.ar.below hb) h.an)
 have HN := Lib.hid (fun w' (hb : Below w.heap.size w w') => nclone_any p.B p.d t.fr w' (h.fr.below hb) h.bn)
 clear h
 have HFIN : Hid (∀ (A' : Option Addr) (c' : Nat) (B' : Option Addr) (d' : Nat) w', Below w.heap.size w w' → w'.ownsRow w.heap.size 68 4 (.slice A' t.ar.length c') t.ar.length (rcells t.ar) → w'.ownsRow w.heap.size 3 1 (.slice B' t.fr.length d') t.fr.length (icells t.fr) → ClIs t w (.returned (.agg #[.int .i64 t.id, .int .i64 t.ow, .slice A' t.ar.length c', .slice B' t.fr.length d'])) w') := Lib.hid (fun A' c' B' d' w' hb h1 h2 => ⟨⟨A', c', B', d'⟩, rfl, ⟨h1, h2⟩, hb⟩)
 obtain ⟨id, ow, ar, fr⟩ := t
 obtain ⟨PA, PC, PB, PD⟩ := p
 unfold lvl
 simp only at HR HN HFIN ⊢
 have HZ0 := Lib.hid (heap_alloc2_new w (.cells #[.int .i64 id, .int .i64 ow, .slice PA ar.length PC, .slice PB fr.length PD] 40) (.cells #[.int .i64 0, .int .i64 0, .slice none 0 0, .slice none 0 0] 40))
 have HG0 := Lib.hid (heap_alloc2_old w (.cells #[.int .i64 id, .int .i64 ow, .slice PA ar.length PC, .slice PB fr.length PD] 40) (.cells #[.int .i64 0, .int .i64 0, .slice none 0 0, .slice none 0 0] 40))
 go_enter Tryz.func61, Tryz.ntmps61
 go_upto_region 1 with fail
 go_region_with (first
  | (go_at_call 116; refine (HR.out _ (by (repeat' first | exact Below.refl _ _ | assumption | (apply below_drewN) | (refine Below.setCell ?_ (by (try simp); (try omega)) _) | (refine Below.alloc ?_ (by (try simp); (try omega)) _) | (refine Below.trans ?_ (Below.mono (Hid.out (by assumption)) (by (try simp); (try omega))))))).mono ?_; rintro e w1 ⟨v1, rfl, ho1, hb1⟩; obtain ⟨A1, c1, rfl, _⟩ := own_rects ho1; obtain ⟨hc1, hf1⟩ := bcell hb1; have hz1 := hb1.size; (try simp at hz1); have hz10 : w.heap.size < w1.heap.size := (by omega); have hz11 : w.heap.size + 1 < w1.heap.size := (by omega); have hzb1 : w1.heap[w.heap.size + 1]? = some (.cells #[.int .i64 0, .int .i64 0, .slice none 0 0, .slice none 0 0] 40 (0, 0)) := (hb1.block (w.heap.size + 1) (by simp)).trans (by first | exact HZ0.out | simpa using HZ0.out); have HZ1 := Lib.hid hzb1; clear hzb1; have hgb1 : w1.heap[w.heap.size]? = some (.cells #[.int .i64 id, .int .i64 ow, .slice PA ar.length PC, .slice PB fr.length PD] 40 (0, 0)) := (hb1.block w.heap.size (by simp <;> omega)).trans (by first | exact HG0.out | simpa using HG0.out); have HG1 := Lib.hid hgb1; clear hgb1; have HBl := Lib.hid hb1; have HO1 := Lib.hid ho1; clear hb1 ho1)
  | (go_at_call 117; refine (HN.out _ (by (repeat' first | exact Below.refl _ _ | assumption | (apply below_drewN) | (refine Below.setCell ?_ (by (try simp); (try omega)) _) | (refine Below.alloc ?_ (by (try simp); (try omega)) _) | (refine Below.trans ?_ (Below.mono (Hid.out (by assumption)) (by (try simp); (try omega))))))).mono ?_; rintro e w2 ⟨v2, rfl, ho2, hb2⟩; obtain ⟨A2, c2, rfl, _⟩ := own_parts13 ho2; obtain ⟨hc2, hf2⟩ := bcell hb2; have hz2 := hb2.size; (try simp at hz2); have hz20 : w.heap.size < w2.heap.size := (by omega); have hz21 : w.heap.size + 1 < w2.heap.size := (by omega); have HZ2 := Lib.hid ((hb2.block (w.heap.size + 1) (by first | assumption | simp | omega)).trans HZ1.out); have HG2 := Lib.hid ((hb2.block w.heap.size (by first | assumption | simp | omega)).trans HG1.out); have HO1b := Lib.hid (own_go HO1.out hb2); have HBl2 := Lib.hid hb2; have HO2 := Lib.hid ho2; clear hb2 ho2))
 all_goals
  have HFF := Lib.hid (Below.trans (by (repeat' first | exact Below.refl _ _ | assumption | (apply below_drewN) | (refine Below.setCell ?_ (by (try simp); (try omega)) _) | (refine Below.alloc ?_ (by (try simp); (try omega)) _) | (refine Below.trans ?_ (Below.mono (Hid.out (by assumption)) (by (try simp); (try omega))))) : Below w.heap.size w w1) (HBl2.out.mono (by omega)))
  have HOA := Lib.hid (own_base HO1b.out (B' := w.heap.size + 2) (by simp <;> omega))
  have HOB := Lib.hid (own_base HO2.out (B' := w.heap.size + 2) (by first | omega | (simp <;> omega)))
  have hg := HG2.out
  have hz := HZ2.out
  have hgl : w.heap.size < w2.heap.size := (Array.getElem?_eq_some_iff.1 hg).1
  obtain ⟨W, hW⟩ : ∃ W, W = (w2.setCell ⟨w.heap.size, 2, none⟩ (.slice A1 ar.length c1)).setCell ⟨w.heap.size, 3, none⟩ (.slice A2 fr.length c2) := ⟨_, rfl⟩
  have hb : W.heap[w.heap.size]? = some (.cells #[.int .i64 id, .int .i64 ow, .slice A1 ar.length c1, .slice A2 fr.length c2] 40 (0, 0)) := by
   rw [hW]; simp [World.setCell, Array.getElem?_modify, hg, Array.setIfInBounds]
  have hzW : W.heap[w.heap.size + 1]? = some (.cells #[.int .i64 0, .int .i64 0, .slice none 0 0, .slice none 0 0] 40 (0, 0)) := by
   rw [hW]; simp [World.setCell, Array.getElem?_modify, hz]
  have HBW : Hid (Below w.heap.size w W) := Lib.hid (by rw [hW]; exact (HFF.out.setCell (p := ⟨w.heap.size, 2, none⟩) (Nat.le_refl _) _).setCell (p := ⟨w.heap.size, 3, none⟩) (Nat.le_refl _) _)
  have HSET : Hid (∀ (W' : World) (e s n : Nat) v xs, w2.ownsRow (w.heap.size + 2) e s v n xs → (∀ k, w.heap.size + 2 ≤ k → W'.heap[k]? = w2.heap[k]?) → W'.ownsRow w.heap.size e s v n xs) := Lib.hid (fun W' e s n v xs h h2 => own_base (own_stays h (fun k hk => h2 k (h.lt k hk).1)) (by omega))
  have HW2 : Hid (∀ k, w.heap.size + 2 ≤ k → W.heap[k]? = w2.heap[k]?) := Lib.hid (fun k hk => by
   rw [hW, set_other _ _ _ _ (by simp only; omega), set_other _ _ _ _ (by simp only; omega)])
  rw [← hW]
  have y0 : W.cell? ⟨w.heap.size, 0, none⟩ = some (.int .i64 id) := by rw [Lib.cell_of_heap hb]; rfl
  have y1 : W.cell? ⟨w.heap.size, 1, none⟩ = some (.int .i64 ow) := by rw [Lib.cell_of_heap hb]; rfl
  have y2 : W.cell? ⟨w.heap.size, 2, none⟩ = some (.slice A1 ar.length c1) := by rw [Lib.cell_of_heap hb]; rfl
  have y3 : W.cell? ⟨w.heap.size, 3, none⟩ = some (.slice A2 fr.length c2) := by rw [Lib.cell_of_heap hb]; rfl
  have z0 : W.cell? ⟨w.heap.size + 1, 0, none⟩ = some (.int .i64 0) := by rw [Lib.cell_of_heap hzW]; rfl
  have z1 : W.cell? ⟨w.heap.size + 1, 1, none⟩ = some (.int .i64 0) := by rw [Lib.cell_of_heap hzW]; rfl
  have z2 : W.cell? ⟨w.heap.size + 1, 2, none⟩ = some (.slice none 0 0) := by rw [Lib.cell_of_heap hzW]; rfl
  have z3 : W.cell? ⟨w.heap.size + 1, 3, none⟩ = some (.slice none 0 0) := by rw [Lib.cell_of_heap hzW]; rfl
  have zf : ∀ i, W.frozen? ⟨w.heap.size + 1, i, none⟩ = false := fun i => Lib.frozen_of_heap hzW i
  have zf0 := zf 0; have zf1 := zf 1; have zf2 := zf 2; have zf3 := zf 3
  have wl : w.heap.size + 1 < W.heap.size := (Array.getElem?_eq_some_iff.1 hzW).1
  have HZW := Lib.hid hzW
  clear hW hb hzW hg hz zf HO1 HO1b HO2 HG1 HG2 HZ1 HZ2 HBl HBl2 hc1 hf1 hc2 hf2
  go_wp2_with fail
  refine bodyPost_ret (results_cell_row rfl _ _ (w.heap.size + 1) 40 #[.int .i64 id, .int .i64 ow, .slice A1 ar.length c1, .slice A2 fr.length c2] (0, 0) _ rfl ?_ Tryz.underlying40 rfl (by kernel_rfl)) rfl ?_
  ·have hz := HZW.out
   simp [World.setCell, Array.getElem?_modify, hz, Array.setIfInBounds]
  ·refine HFIN.out A1 c1 A2 c2 _ ?_ (HSET.out _ _ _ _ _ _ HOA.out (fun k hk => ?_)) (HSET.out _ _ _ _ _ _ HOB.out (fun k hk => ?_))
   ·have := HBW.out
    repeat' first | assumption | refine Below.setCell ?_ (by simp only; omega) _
   ·rw [← HW2.out k hk]
    have hne : k ≠ w.heap.size + 1 := by omega
    repeat rw [set_other _ _ _ _ (by exact hne)]
   ·rw [← HW2.out k hk]
    have hne : k ≠ w.heap.size + 1 := by omega
    repeat rw [set_other _ _ _ _ (by exact hne)]
end Go.Proofs.YtngddecpfhlilaaGreat
