/-
  The contract of the reference's Arm.
-/
import Derived.Test.YtbpkcgkcamkggaaGreatDoorT909
import Derived.Laws.AppendOwnNone
set_option linter.unusedVariables false
namespace Go.Proofs.YtbpkcgkcamkggaaGreatDoor
open Go.RowKit

theorem infoInt : (Tryz.prog.info? 3).map (fun i => (i.zero, i.size, i.bytes)) = some (some (.int .i64 0), 1, 8) := by kernel_rfl

/-- a store of a new list keep. -/
theorem RAt.setK {r B : Nat} {s : RSt} {w : World} (h : RAt r B s w) {keep : List Int} {v : Value} (hv : w.ownsRow B 3 1 v keep.length (keep.map (Value.int .i64))) : RAt r B { s with keep := keep } (w.setCell ⟨r, 5, none⟩ v) := by
  obtain ⟨F, Q, K, h1, h2, h3, h4, h5⟩ := h
  have hne : ∀ {T : TypeId}, T ≠ 68 → ∀ (g : Nat) (c : Array Value) (z : Nat × Nat), w.heap[g]? = some (Obj.cells c T z) → (w.setCell ⟨r, 5, none⟩ v).heap[g]? = w.heap[g]? := by
    intro T hT g c z hg
    refine Below.heap_setCell _ _ _ _ (fun e => ?_)
    simp only at e
    subst e
    rw [h1] at hg
    simp only [Option.some.injEq, Obj.cells.injEq] at hg
    exact hT hg.2.1.symm
  exact ⟨F, Q, v, heap_set h1, own_keep h2 (hne (by decide)), own_keep h3 (hne (by decide)), own_keep hv (hne (by decide)), h5⟩

set_option maxRecDepth 100000 in
set_option maxHeartbeats 4000000 in
theorem rarm_any (r B : Nat) (s : RSt) (n : Int) (A : Option Addr) (cap : Nat) (keep : List Int) (w : World) (h : RAt r B s w) (hk : KRow B w A keep) (hA : A = none → keep = [] ∧ cap = 0) (hkl : keep.length ≤ 1073741824) :
    Calls Tryz.prog 19 #[.pointer (some ⟨r, 0, none⟩), .int .i64 n, .slice A keep.length cap] w fun e w' => e = .returned (.tuple #[]) ∧ RAt r B { s with armed := n.toNat, keep := keep } w' ∧ RFr B w w' := by
  obtain ⟨i0, hi9, hz0, hz1, hz2⟩ := info_parts infoInt
  have hBr : B ≤ r := by obtain ⟨_, _, _, _, _, _, _, h5⟩ := h; exact h5
  obtain ⟨_, _, _, _, _, _, _, c4, _, hz, _⟩ := h.cells
  have hz4 := hz 4
  have hset := h.setS (s' := { s with armed := n.toNat }) 4 (.int .i64 ((n.toNat : Nat) : Int)) rfl rfl rfl (fun F Q K => by simp)
  have hfr : RFr B w (w.setCell ⟨r, 4, none⟩ (.int .i64 ((n.toNat : Nat) : Int))) := by
    obtain ⟨_, _, _, g1, _⟩ := h
    exact RFr.of_disk (grown_one _ _ _ _) hBr g1
  have HS := Lib.hid hset
  have HF := Lib.hid hfr
  have HK := Lib.hid (hk.kept hfr)
  clear hset hfr hk h hz
  by_cases h0 : n < 0
  · have hn : ((n.toNat : Nat) : Int) = 0 := by omega
    rw [hn] at HS HF HK
    go_enter Tryz.func19, Tryz.ntmps19
    go_wp2_with (at_builtin; revert hBr)
    intro hBr
    have hsz : (w.setCell ⟨r, 4, none⟩ (.int .i64 0)).heap.size = w.heap.size := by simp [World.setCell]
    generalize w.setCell ⟨r, 4, none⟩ (.int .i64 0) = w1 at *
    have hrl := HS.out.lt
    have hal : Below w1.heap.size w1 (w1.alloc (.cells #[] 3)) := (Below.refl _ _).alloc (Nat.le_refl _) _
    have hR2 := HS.out.below hal
    have hK2 := HK.out.kept (RFr.of_below (B := B) hal)
    have hF2 : RFr B w (w1.alloc (.cells #[] 3)) := HF.out.trans (RFr.of_below hal)
    have hown : (w1.alloc (.cells #[] 3)).ownsRow w.heap.size 3 1 (.slice (some ⟨w.heap.size, 0, none⟩) 0 0) 0 [] := by
      rw [← hsz]; exact World.ownsRow_lit w1 #[] 0 (Nat.le_refl _) (Nat.zero_le _) rfl
    have hB1 : B ≤ w.heap.size := by omega
    cases A with
    | none =>
      obtain ⟨rfl, rfl⟩ := hA rfl
      refine wpList_append_own_none rfl _ _ 36 rfl w.heap.size 3 i0 1 Tryz.underlying36 hi9 _ 0 [] rfl hown rfl ?_
      have hS3 := hR2.setK (keep := []) (own_le hown hB1)
      have hz5 : (w1.alloc (.cells #[] 3)).frozen? ⟨r, 5, none⟩ = false := by
        obtain ⟨_, _, _, g2, _⟩ := hR2
        exact Lib.frozen_of_heap g2 5
      have hc5 : ∃ u, (w1.alloc (.cells #[] 3)).cell? ⟨r, 5, none⟩ = some u := by
        obtain ⟨_, _, _, _, _, _, _, _, k5, _⟩ := hR2.cells
        exact ⟨_, k5⟩
      obtain ⟨u5, hu5⟩ := hc5
      have H3 := Lib.hid hS3
      have HF2 := Lib.hid hF2
      have HR2 := Lib.hid hR2
      clear hS3 hF2 hR2 hK2 hown hal
      go_wp2
      refine bodyPost_end (results_none rfl _ _ _) rfl ?_
      obtain ⟨_, _, _, g2, _⟩ := HR2.out
      exact ⟨rfl, H3.out, HF2.out.trans (RFr.of_disk (grown_one _ _ _ _) hBr g2)⟩
    | some ad =>
      have hsrc : ∀ j u, (keep.map (Value.int .i64))[j]? = some u → (w1.alloc (.cells #[] 3)).cell? (ad.add j) = some u := by
        intro j u hu
        have hj : j < keep.length := by
          have := (List.getElem?_eq_some_iff.1 hu).1
          simpa using this
        obtain ⟨b, off, e, _, _, hc⟩ := hK2 (by omega)
        injection e with e
        subst e
        have := hc j hj
        simp only [List.getElem?_map, List.getElem?_eq_getElem hj, Option.map_some, Option.some.injEq] at hu
        rw [← hu, ← this]
        by_cases j0 : j = 0
        · subst j0; simp [Addr.add]
        · simp [Addr.add, j0]
      refine wpList_append_own _ rfl _ _ 36 rfl w.heap.size 3 i0 (.int .i64 0) 1 8 Tryz.underlying36 hi9 hz0 hz1 hz2 rfl (by decide) _ 0 [] rfl hown ad keep.length cap (keep.map (Value.int .i64)) rfl (by simp) hsrc ?c2 ?c3 ?c4 ?c5 ?_
      case c2 =>
        intro u hu
        obtain ⟨q, _, rfl⟩ := List.mem_map.1 hu
        rfl
      case c3 => unfold maxLen; omega
      case c4 => omega
      case c5 => simp; omega
      intro v' w4 hown' hgr _
      obtain ⟨A5, c5, rfl, _⟩ := own_parts hown'
      have hB4 : Below w1.heap.size w1 w4 := Below.grown (w := w1.alloc (.cells #[] 3)) hal hgr (by simp) (fun q hq => by
        have := (hown.lt q hq).1; omega)
      have hR4 := HS.out.below hB4
      have hF4 : RFr B w w4 := HF.out.trans (RFr.of_below hB4)
      have hv4 : w4.ownsRow B 3 1 (.slice A5 (0 + keep.length) c5) keep.length (keep.map (Value.int .i64)) := by
        have := own_le hown' hB1
        simpa using this
      have hS4 := hR4.setK hv4
      have hz5 : w4.frozen? ⟨r, 5, none⟩ = false := by
        obtain ⟨_, _, _, g2, _⟩ := hR4
        exact Lib.frozen_of_heap g2 5
      have hc5 : ∃ u, w4.cell? ⟨r, 5, none⟩ = some u := by
        obtain ⟨_, _, _, _, _, _, _, _, k5, _⟩ := hR4.cells
        exact ⟨_, k5⟩
      obtain ⟨u5, hu5⟩ := hc5
      have H4 := Lib.hid hS4
      have HF4 := Lib.hid hF4
      have HR4 := Lib.hid hR4
      clear hS4 hF4 hR4 hK2 hown hal hown' hgr hsrc hv4 hR2 hF2 hB4
      simp only [Nat.zero_add] at H4 ⊢
      go_wp2
      refine bodyPost_end (results_none rfl _ _ _) rfl ?_
      obtain ⟨_, _, _, g2, _⟩ := HR4.out
      exact ⟨rfl, H4.out, HF4.out.trans (RFr.of_disk (grown_one _ _ _ _) hBr g2)⟩
  · have hn : ((n.toNat : Nat) : Int) = n := by omega
    have h0' : 0 ≤ n := by omega
    rw [hn] at HS HF HK
    go_enter Tryz.func19, Tryz.ntmps19
    go_wp2_with (at_builtin; revert hBr)
    intro hBr
    have hsz : (w.setCell ⟨r, 4, none⟩ (.int .i64 n)).heap.size = w.heap.size := by simp [World.setCell]
    generalize w.setCell ⟨r, 4, none⟩ (.int .i64 n) = w1 at *
    have hrl := HS.out.lt
    have hal : Below w1.heap.size w1 (w1.alloc (.cells #[] 3)) := (Below.refl _ _).alloc (Nat.le_refl _) _
    have hR2 := HS.out.below hal
    have hK2 := HK.out.kept (RFr.of_below (B := B) hal)
    have hF2 : RFr B w (w1.alloc (.cells #[] 3)) := HF.out.trans (RFr.of_below hal)
    have hown : (w1.alloc (.cells #[] 3)).ownsRow w.heap.size 3 1 (.slice (some ⟨w.heap.size, 0, none⟩) 0 0) 0 [] := by
      rw [← hsz]; exact World.ownsRow_lit w1 #[] 0 (Nat.le_refl _) (Nat.zero_le _) rfl
    have hB1 : B ≤ w.heap.size := by omega
    cases A with
    | none =>
      obtain ⟨rfl, rfl⟩ := hA rfl
      refine wpList_append_own_none rfl _ _ 36 rfl w.heap.size 3 i0 1 Tryz.underlying36 hi9 _ 0 [] rfl hown rfl ?_
      have hS3 := hR2.setK (keep := []) (own_le hown hB1)
      have hz5 : (w1.alloc (.cells #[] 3)).frozen? ⟨r, 5, none⟩ = false := by
        obtain ⟨_, _, _, g2, _⟩ := hR2
        exact Lib.frozen_of_heap g2 5
      have hc5 : ∃ u, (w1.alloc (.cells #[] 3)).cell? ⟨r, 5, none⟩ = some u := by
        obtain ⟨_, _, _, _, _, _, _, _, k5, _⟩ := hR2.cells
        exact ⟨_, k5⟩
      obtain ⟨u5, hu5⟩ := hc5
      have H3 := Lib.hid hS3
      have HF2 := Lib.hid hF2
      have HR2 := Lib.hid hR2
      clear hS3 hF2 hR2 hK2 hown hal
      go_wp2
      refine bodyPost_end (results_none rfl _ _ _) rfl ?_
      obtain ⟨_, _, _, g2, _⟩ := HR2.out
      exact ⟨rfl, H3.out, HF2.out.trans (RFr.of_disk (grown_one _ _ _ _) hBr g2)⟩
    | some ad =>
      have hsrc : ∀ j u, (keep.map (Value.int .i64))[j]? = some u → (w1.alloc (.cells #[] 3)).cell? (ad.add j) = some u := by
        intro j u hu
        have hj : j < keep.length := by
          have := (List.getElem?_eq_some_iff.1 hu).1
          simpa using this
        obtain ⟨b, off, e, _, _, hc⟩ := hK2 (by omega)
        injection e with e
        subst e
        have := hc j hj
        simp only [List.getElem?_map, List.getElem?_eq_getElem hj, Option.map_some, Option.some.injEq] at hu
        rw [← hu, ← this]
        by_cases j0 : j = 0
        · subst j0; simp [Addr.add]
        · simp [Addr.add, j0]
      refine wpList_append_own _ rfl _ _ 36 rfl w.heap.size 3 i0 (.int .i64 0) 1 8 Tryz.underlying36 hi9 hz0 hz1 hz2 rfl (by decide) _ 0 [] rfl hown ad keep.length cap (keep.map (Value.int .i64)) rfl (by simp) hsrc ?c2 ?c3 ?c4 ?c5 ?_
      case c2 =>
        intro u hu
        obtain ⟨q, _, rfl⟩ := List.mem_map.1 hu
        rfl
      case c3 => unfold maxLen; omega
      case c4 => omega
      case c5 => simp; omega
      intro v' w4 hown' hgr _
      obtain ⟨A5, c5, rfl, _⟩ := own_parts hown'
      have hB4 : Below w1.heap.size w1 w4 := Below.grown (w := w1.alloc (.cells #[] 3)) hal hgr (by simp) (fun q hq => by
        have := (hown.lt q hq).1; omega)
      have hR4 := HS.out.below hB4
      have hF4 : RFr B w w4 := HF.out.trans (RFr.of_below hB4)
      have hv4 : w4.ownsRow B 3 1 (.slice A5 (0 + keep.length) c5) keep.length (keep.map (Value.int .i64)) := by
        have := own_le hown' hB1
        simpa using this
      have hS4 := hR4.setK hv4
      have hz5 : w4.frozen? ⟨r, 5, none⟩ = false := by
        obtain ⟨_, _, _, g2, _⟩ := hR4
        exact Lib.frozen_of_heap g2 5
      have hc5 : ∃ u, w4.cell? ⟨r, 5, none⟩ = some u := by
        obtain ⟨_, _, _, _, _, _, _, _, k5, _⟩ := hR4.cells
        exact ⟨_, k5⟩
      obtain ⟨u5, hu5⟩ := hc5
      have H4 := Lib.hid hS4
      have HF4 := Lib.hid hF4
      have HR4 := Lib.hid hR4
      clear hS4 hF4 hR4 hK2 hown hal hown' hgr hsrc hv4 hR2 hF2 hB4
      simp only [Nat.zero_add] at H4 ⊢
      go_wp2
      refine bodyPost_end (results_none rfl _ _ _) rfl ?_
      obtain ⟨_, _, _, g2, _⟩ := HR4.out
      exact ⟨rfl, H4.out, HF4.out.trans (RFr.of_disk (grown_one _ _ _ _) hBr g2)⟩

end Go.Proofs.YtbpkcgkcamkggaaGreatDoor
