/-
  Contracts of the program's layer 9, 11: Top.
-/
import Derived.Test.YtdnoadngfkiabaaP925
set_option linter.unusedVariables false
set_option maxRecDepth 100000
namespace Go.Proofs.Ytdnoadngfkiabaa
open Go.RowKit Go.Shelf

attribute [local go_sem] Oper.semAt_some
theorem keepsFrom_below {B : Nat} {W W' : World} (h : Below W.heap.size W W') : KeepsFrom B W W' :=
  ⟨h.size, fun k o _ hk _ => (h.block k (Array.getElem?_eq_some_iff.1 hk).1).trans hk⟩
set_option maxHeartbeats 8000000 in
theorem btop_yes {A : Option Addr} {cap : Nat} {S : List Sl} {w : World} (h : SIn w A cap S) (hs : SolP S) (x y : Int) : Calls Try.prog 22 #[.slice A S.length cap, .int .i64 x, .int .i64 y] w (InIs (topS S x y) w) := by
  have h1 : 1 ≤ 8 := by omega
  obtain ⟨b, off, hA, hrow⟩ : ∃ b off, (0 < S.length → A = some ⟨b, off, none⟩ ∧ b < w.heap.size) ∧ ∀ j (h : j < S.length), w.cell? ⟨b, off + j * 3, none⟩ = some (.int .i64 S[j].z0) ∧ w.cell? ⟨b, off + j * 3 + 1, none⟩ = some (.int .i64 S[j].z1) ∧ ∃ Aj cj, w.cell? ⟨b, off + j * 3 + 2, none⟩ = some (.slice Aj S[j].ar.length cj) ∧ RIn w Aj cj S[j].ar := by
    rcases Nat.eq_zero_or_pos S.length with h0 | h0
    · exact ⟨0, 0, fun h => by omega, fun j hj => by omega⟩
    · obtain ⟨b, off, e, hb, hc⟩ := h.row h0
      exact ⟨b, off, fun _ => ⟨e, hb⟩, hc⟩
  -- the areas' places
  obtain ⟨Af, cf, hAc⟩ : ∃ (Af : Nat → Option Addr) (cf : Nat → Nat), ∀ j (hj : j < S.length), w.cell? ⟨b, off + j * 3 + 2, none⟩ = some (.slice (Af j) S[j].ar.length (cf j)) ∧ RIn w (Af j) (cf j) S[j].ar := by
    refine ⟨fun j => if hj : j < S.length then Classical.choose (hrow j hj).2.2 else none, fun j => if hj : j < S.length then Classical.choose (Classical.choose_spec (hrow j hj).2.2) else 0, fun j hj => ?_⟩
    dsimp only
    rw [dif_pos hj, dif_pos hj]
    exact Classical.choose_spec (Classical.choose_spec (hrow j hj).2.2)
  have HRT : Hid (∀ w', Below w.heap.size w w' → Calls Try.prog 28 #[.slice A S.length cap] w' (BlIs true w')) := Lib.hid (fun w' hb => bright_yes (h.below hb) hs)
  have HHAS : Hid (∀ j (hj : j < S.length) w', Below w.heap.size w w' → Calls Try.prog 39 #[.slice (Af j) S[j].ar.length (cf j), .int .i64 x, .int .i64 y] w' (BlIs (hasD S[j].ar x y) w')) := Lib.hid (fun j hj w' hb => by
    have := ghas_any (Af j) (cf j) S[j].ar x y w' ((hAc j hj).2.below hb)
    have hr : RegP S[j].ar := ⟨(hs.form.each _ (List.getElem_mem hj)).form, hs.rects _ (List.getElem_mem hj)⟩
    rw [show hasRg S[j].ar x y = hasD S[j].ar x y by unfold hasRg; rw [@decide_eq_true _ (Classical.propDecidable _) hr, Bool.true_and, hasB_D]] at this
    exact this)
  have HSF : Hid (∀ w', Below w.heap.size w w' → SlF w.heap.size w' (.slice A S.length cap) S Af cf) := Lib.hid (fun w' hb => ⟨b, off, cap, A, rfl, hA, fun j hj => by
    have hbw := (hA (by omega)).2
    exact ⟨(hb.cell (p := ⟨b, _, none⟩) hbw).trans (hrow j hj).1, (hb.cell (p := ⟨b, _, none⟩) hbw).trans (hrow j hj).2.1, (hb.cell (p := ⟨b, _, none⟩) hbw).trans (hAc j hj).1⟩⟩)
  have hlen := hs.len
  have HTN := Lib.hid (fun hh => topS_none (S := S) (x := x) (y := y) hh)
  have HTA := Lib.hid (fun j hj h1 h2 => topS_at (S := S) (x := x) (y := y) (j := j) hj h1 h2)
  clear h hs hrow hAc
  refine (callsIn_wide (n := 8)).1 ?_
  refine callsIn_of_wp_marks Try.func22 rfl trivial ?_ rfl
  simp only [Try.ntmps22, List.size_toArray, List.length_cons, List.length_nil, Nat.reduceAdd, Nat.reduceSub, Array.replicate_succ, Array.replicate_zero, List.push_toArray, List.append_toArray, List.nil_append, List.cons_append]
  obtain ⟨W1, hW1⟩ : ∃ W1, W1 = ((w.alloc (.cells #[.int .i64 x] 3)).alloc (.cells #[.int .i64 y] 3)).alloc (.cells #[.int .i64 0] 3) := ⟨_, rfl⟩
  have hB1 : Below w.heap.size w W1 := by rw [hW1]; exact (((Below.refl _ _).alloc (Nat.le_refl _) _).alloc (by simp) _).alloc (by simp; omega) _
  have bX : Boxed W1 w.heap.size 3 (.int .i64 x) := by rw [hW1]; exact ((Boxed.new w 3 _).alloc _).alloc _
  have bY : Boxed W1 (w.heap.size + 1) 3 (.int .i64 y) := by
    have := (Boxed.new (w.alloc (.cells #[.int .i64 x] 3)) 3 (.int .i64 y)).alloc (.cells #[.int .i64 0] 3)
    rw [World.size_alloc] at this
    rw [hW1]; exact this
  have bZ : Boxed W1 (w.heap.size + 1 + 1) 3 (.int .i64 0) := by
    have := Boxed.new ((w.alloc (.cells #[.int .i64 x] 3)).alloc (.cells #[.int .i64 y] 3)) 3 (.int .i64 0)
    rw [World.size_alloc, World.size_alloc] at this
    rw [hW1]; exact this
  have HRW := Lib.hid (HRT.out W1 hB1)
  rw [hW1] at HRW
  gi_wp2_with (first
    | (refine ⟨trivial, ?_⟩; gi_at_call 28; refine (callsIn_wide.2 HRW.out).mono ?_; rintro e w' ⟨rfl, hb⟩)
    | (refine ⟨trivial, ?_⟩; gi_at_call 38; refine (back_in Fence.wide _ trivial rfl _ _ _ _).mono ?_; rintro e w2 ⟨rfl, rfl⟩))
  rw [← hW1] at hb
  have hsz1 : W1.heap.size = w.heap.size + 3 := by rw [hW1]; simp
  clear hW1 HRW
  obtain ⟨W0, hW0⟩ : ∃ W0, w'.alloc (.cells #[.slice A S.length cap] 23) = W0 := ⟨_, rfl⟩
  have hbw : Below W1.heap.size W1 W0 := by rw [← hW0]; exact hb.alloc hb.size _
  have bS := Boxed.new w' 23 (.slice A S.length cap)
  have hszw := hb.size
  have hsz0 : W0.heap.size = w'.heap.size + 1 := by rw [← hW0]; simp
  rw [hW0] at bS ⊢
  clear hW0
  have kX : Boxed W0 w.heap.size 3 (.int .i64 x) := (hbw.block _ bX.lt).trans bX
  have kY : Boxed W0 (w.heap.size + 1) 3 (.int .i64 y) := (hbw.block _ bY.lt).trans bY
  have kZ : Boxed W0 (w.heap.size + 1 + 1) 3 (.int .i64 0) := (hbw.block _ bZ.lt).trans bZ
  have hB0 : Below w.heap.size w W0 := hB1.trans (hbw.mono hB1.size)
  have hSF : SlF W0.heap.size W0 (.slice A S.length cap) S Af cf := by
    obtain ⟨b', off', cap', Ao, e, hlt, hc⟩ := HSF.out W0 hB0
    exact ⟨b', off', cap', Ao, e, fun h => ⟨(hlt h).1, by have := hB0.size; have := (hlt h).2; omega⟩, hc⟩
  refine wpIn_rangeFunc_ownH (F := Fence.wide) rfl h1 (gf := 55) (lb := #[.pointer (some ⟨w'.heap.size, 0, none⟩)]) rfl trivial (enters_of Try.func55 (by kernel_rfl) rfl)
    (back_stops Fence.wide (8 - 1) trivial rfl (by omega) w'.heap.size W0.heap.size (.slice A S.length cap) S Af cf hlen W0 (by omega) (Nat.le_refl _) bS.cell hSF) belowK_t (belowK_b (Nat.le_refl _)) (Below.refl _ _) (fun _ => rfl)
    (fun pre W => ((Boxed W w.heap.size 3 (.int .i64 x) ∧ Boxed W (w.heap.size + 1) 3 (.int .i64 y)) ∧ Boxed W (w.heap.size + 1 + 1) 3 (.int .i64 0)) ∧ (Below W0.heap.size W0 W ∧ ∀ j ∈ pre, hasD S[j.1].ar x y = false))
    (fun c pre W => c = Code.ret ∧ Below w.heap.size w W ∧ ∃ G j, pre = G ++ [j] ∧ (∀ i ∈ G, hasD S[i.1].ar x y = false) ∧ hasD S[j.1].ar x y = true ∧ Boxed W (w.heap.size + 1 + 1) 3 (.int .i64 S[j.1].z1))
    (OwnFrom.and (OwnFrom.and (OwnFrom.and (Own.from (boxed_own _ _ _) _) (Own.from (boxed_own _ _ _) _)) (Own.from (boxed_own _ _ _) _)) (OwnFrom.and (ownFrom_below (Nat.le_refl _) (Nat.le_refl _)) (ownFrom_pure _ _)))
    (fun c pre X Y row hs hg hr => by
      obtain ⟨e, hB, G, j, e2, h3, h4, h5⟩ := hs
      exact ⟨e, (ownFrom_below (β := Unit) (n₀ := w.heap.size) (B := W0.heap.size) (Nat.le_refl _) (by have := hB0.size; omega)) () X Y row hB hg hr, G, j, e2, h3, h4, boxed_own _ 3 (fun (_ : Unit) => Value.int .i64 S[j.1].z1) () X Y row h5 hg (fun r e => (hr r e).2)⟩)
    ⟨⟨⟨kX, kY⟩, kZ⟩, Below.refl _ _, fun j hj => by cases hj⟩
    (fun j a' W => ∃ Bx, w.heap.size + 1 + 1 < Bx ∧ SlAt W Bx S[j.1] (Af j.1) (cf j.1) ∧ a' = { tmps := #[.slice A S.length cap, .int .i64 x, .int .i64 y, undef, .pointer (some ⟨w.heap.size, 0, none⟩), .pointer (some ⟨w.heap.size + 1, 0, none⟩), .pointer (some ⟨w.heap.size + 1 + 1, 0, none⟩), undef, .pointer (some ⟨Bx, 0, none⟩), .slice A S.length cap, .bool true, .bool false, .slice A S.length cap, .func (.func 55) #[] #[.pointer (some ⟨w'.heap.size, 0, none⟩)], .int .i64 (j.1 : Int), .agg #[.int .i64 S[j.1].z0, .int .i64 S[j.1].z1, .slice (Af j.1) S[j.1].ar.length (cf j.1)], undef, undef, undef, undef, undef, undef, undef], defers := [] })
    (fun j a' _ X Y row hs hg hr => by
      obtain ⟨Bx, h1, h2, h3⟩ := hs
      exact ⟨Bx, h1, (hg.block Bx h2.lt (fun e => by
        obtain ⟨_, o, ho, hc⟩ := hr Bx e.symm
        rw [show X.heap[Bx]? = _ from h2] at ho
        injection ho with ho
        subst ho; cases hc)).trans h2, h3⟩)
    ?assign ?body ?done ?stop
  case assign =>
    rintro l pre j W K ⟨⟨⟨b1, b2⟩, b3⟩, hB, hN⟩ hK
    unfold encF
    gi_wp2
    exact hK _ _ ((KeepsOthers.alloc _ _).from _) ((Below.refl _ W).alloc hB.size _) ⟨⟨⟨b1.alloc _, b2.alloc _⟩, b3.alloc _⟩, hB.alloc hB.size _, hN⟩ ⟨W.heap.size, b3.lt, SlAt.new W S[j.1] _ _ _ rfl, rfl⟩
  case body =>
    rintro l pre j a' W hl ⟨r, hr⟩ ⟨⟨⟨b1, b2⟩, b3⟩, hB, hN⟩ ⟨Bx, hBx, hs, rfl⟩ hlt
    have y1 := b1.cell; have y2 := b2.cell; have y3 := b3.cell; have f3 := b3.frozen
    have s1 := hs.c1; have s2 := hs.c2; have sl := hs.lt
    have l1 := b1.lt; have l2 := b2.lt; have l3 := b3.lt
    have hbw2 : Below w.heap.size w W := hB0.trans (hB.mono hB0.size)
    have HH := Lib.hid (HHAS.out j.1 j.2 W hbw2)
    have h1' : 1 ≤ 8 - 1 - 1 := by omega
    by_cases hd : hasD S[j.1].ar x y = true
    · rw [hd] at HH
      have HG := Lib.hid hd
      have HNN := Lib.hid hN
      clear hd hN
      generalize S[j.1].ar.length = na at *
      gi_wp2_with (refine ⟨trivial, ?_⟩; gi_at_call 39; refine (CallsIn.inRound l (callsIn_wide.2 HH.out)).mono ?_; rintro e w2 ⟨rfl, hb2⟩; have s1 := (hb2.cell (p := ⟨Bx, 1, none⟩) sl).trans s1; have y3 := (hb2.cell (p := ⟨w.heap.size + 1 + 1, 0, none⟩) l3).trans y3; have f3 := (hb2.frozen (p := ⟨w.heap.size + 1 + 1, 0, none⟩) l3).trans f3)
      exact ⟨(keepsFrom_below hb2).trans ((KeepsOthers.setCell _ _ _).from _), rfl, (hbw2.trans (hb2.mono hbw2.size)).setCell (p := ⟨w.heap.size + 1 + 1, 0, none⟩) (by simp only; omega) _, pre, j, rfl, HNN.out, HG.out, Boxed.set _ ((hb2.block _ l3).trans b3)⟩
    · have hd2 : hasD S[j.1].ar x y = false := by simpa using hd
      rw [hd2] at HH
      have HG := Lib.hid hd2
      have HNN := Lib.hid hN
      clear hd hd2 hN
      generalize S[j.1].ar.length = na at *
      gi_wp2_with (refine ⟨trivial, ?_⟩; gi_at_call 39; refine (CallsIn.inRound l (callsIn_wide.2 HH.out)).mono ?_; rintro e w2 ⟨rfl, hb2⟩)
      refine ⟨keepsFrom_below hb2, hb2.mono hB.size, ⟨⟨(hb2.block _ l1).trans b1, (hb2.block _ l2).trans b2⟩, (hb2.block _ l3).trans b3⟩, hB.trans (hb2.mono hB.size), fun i hi => ?_⟩
      rcases List.mem_append.1 hi with hi | hi
      · exact HNN.out i hi
      · rw [List.mem_singleton] at hi; subst hi; exact HG.out
  case done =>
    rintro D zs W hD rfl ⟨⟨⟨b1, b2⟩, b3⟩, hB, hN⟩ hK
    have y3 := b3.cell; have f3 := b3.frozen; have l3 := b3.lt
    have hbw2 : Below w.heap.size w W := hB0.trans (hB.mono hB0.size)
    have HTZ : Hid (topS S x y = 0) := Lib.hid (HTN.out (fun s hs => by
      obtain ⟨i, hi, rfl⟩ := List.mem_iff_getElem.1 hs
      exact hN ⟨i, hi⟩ (rvF_mem.2 (Nat.zero_le _))))
    clear hN
    have W2K := (KeepsOthers.setCell W ⟨w.heap.size + 1 + 1, 0, none⟩ (.int .i64 0)).same D _ hK rfl
    have b4 : Boxed (W.setCell ⟨w.heap.size + 1 + 1, 0, none⟩ (.int .i64 0)) (w.heap.size + 1 + 1) 3 (.int .i64 0) := Boxed.set _ b3
    have c4 := b4.cell
    have hbw3 : Below w.heap.size w (W.setCell ⟨w.heap.size + 1 + 1, 0, none⟩ (.int .i64 0)) := hbw2.setCell (p := ⟨w.heap.size + 1 + 1, 0, none⟩) (by simp only; omega) _
    gi_wp2
    refine ⟨by simp, .inl ⟨_, _, rfl, run_takeDeferred W2K, ?_⟩⟩
    have hDn : w.heap.size + 1 + 1 ≠ D := by have := kZ.lt; omega
    have hc5 : ((W.setCell ⟨w.heap.size + 1 + 1, 0, none⟩ (.int .i64 0)).putObj D (.deferred none)).cell? ⟨w.heap.size + 1 + 1, 0, none⟩ = some (.int .i64 0) := (World.cell?_of_block (World.putObj_heap_other hDn)).trans c4
    refine ⟨.int .i64 0, ?_, by rw [HTZ.out], hbw3.trans (belowK_b (w := w) (Nat.le_refl _) _ D _ (.deferred none) (by have := hB0.size; omega) W2K rfl rfl)⟩
    simp [results, Try.f22, go_sem, hc5]
  case stop =>
    rintro D c pre W hD ⟨r, hr, e0⟩ ⟨rfl, hB, G, j, e2, h3, h4, h5⟩ hK
    have HTZ : Hid (topS S x y = S[j.1].z1) := Lib.hid (HTA.out j.1 j.2 h4 (fun i hi hij => by
      have h6 : rvF S.length r = G ++ [j] := by rw [← e0, e2]
      rcases Nat.lt_or_ge r S.length with hlt | hge
      · rw [rvF_next _ _ hlt] at h6
        obtain ⟨g1, g2⟩ := List.append_inj' h6 rfl
        simp only [List.cons.injEq, and_true] at g2
        rw [← g2] at hij
        exact h3 ⟨i, hi⟩ (by rw [← g1]; exact rvF_mem.2 (by simp only at hij ⊢; omega))
      · rw [show r = S.length by omega, rvF_all] at h6
        simp at h6))
    have c4 := h5.cell
    gi_wp2
    refine ⟨by simp, .inl ⟨_, _, rfl, run_takeDeferred hK, ?_⟩⟩
    have hDn : w.heap.size + 1 + 1 ≠ D := by have := kZ.lt; omega
    have hc5 : (W.putObj D (.deferred none)).cell? ⟨w.heap.size + 1 + 1, 0, none⟩ = some (.int .i64 S[j.1].z1) := (World.cell?_of_block (World.putObj_heap_other hDn)).trans c4
    refine ⟨.int .i64 S[j.1].z1, ?_, by rw [HTZ.out], hB.trans (belowK_b (w := w) (Nat.le_refl _) _ D _ (.deferred none) (by have := hB0.size; omega) hK rfl rfl)⟩
    simp [results, Try.f22, go_sem, hc5]
end Go.Proofs.Ytdnoadngfkiabaa
