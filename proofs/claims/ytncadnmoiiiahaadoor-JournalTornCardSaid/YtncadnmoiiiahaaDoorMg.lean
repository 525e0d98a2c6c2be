/-
  The contract of the program's mark: a sector becomes pending.
-/
import Derived.Test.YtncadnmoiiiahaaDoorMf
import Derived.Test.YtncadnmoiiiahaaDoorMc
set_option linter.unusedVariables false
set_option maxRecDepth 100000
namespace Go.Proofs.YtncadnmoiiiahaaDoor
open Go.RowKit

/-- an append to the list of pending sectors touches nothing else. -/
theorem PRaw.grownQ {r : Nat} {L : Lay} {d : Dk} {S : List (Int × Nat)} {w w1 : World} (h : PRaw r L d S w) {n : Nat} {xs : List Value} (hq : w.ownsRow 0 70 2 L.qv n xs) (hg : w.grownBy w1 L.qv.ownBlock) : PRaw r L d S w1 := by
  refine h.kept fun b hb => hg.block b (h.own_lt hb) (fun e => ?_)
  rcases hb with rfl | rfl | hb | hb
  · exact other_kind hq h.cell (by decide) e.symm
  · obtain ⟨es, c, hm⟩ := h.set.isMap
    exact other_map hq hm e.symm
  · rcases h.files.kind hb with ⟨es, c, hm⟩ | ⟨c, hm⟩ | ⟨c, hm⟩
    · exact other_map hq hm e.symm
    · exact other_kind hq hm (by decide) e.symm
    · exact other_kind hq hm (by decide) e.symm
  · obtain ⟨c, hm⟩ := ownKind h.keep hb
    exact other_kind hq hm (by decide) e.symm

theorem PRaw.queued {r : Nat} {L : Lay} {d : Dk} {q : List (Int × Nat)} {w w1 : World} (h : PRaw r L d q w) {n n' : Nat} {xs : List Value} (hq : w.ownsRow 0 70 2 L.qv n xs) (hg : w.grownBy w1 L.qv.ownBlock) {v' : Value}
    (hn : n' = q.length) (hown : w1.ownsRow 0 70 2 v' n' (qcells q)) (hl : ∀ b, v'.ownBlock = some b → L.qv.ownBlock = some b ∨ w.heap.size ≤ b) :
    PAt r { L with qv := v' } { d with q := q } (w1.setCell ⟨r, 1, none⟩ v') ∧ PStep r L { L with qv := v' } w (w1.setCell ⟨r, 1, none⟩ v') := by
  subst hn
  have h1 := h.grownQ hq hg
  refine ⟨⟨h1.store (L' := { L with qv := v' }) (d' := { d with q := q }) 1 v' rfl rfl rfl rfl rfl rfl h1.set h1.keep h1.ne, ?_⟩, ?_⟩
  · exact ownKeep hown fun b hb => Below.heap_setCell _ _ _ _ (fun e => other_kind hown h1.cell (by decide) (by rw [hb, e]))
  · refine ⟨⟨hg.os, hg.tape, hg.output, by simp [World.setCell]; exact hg.size, fun k hk hn => ?_⟩, fun b hb => ?_, fun b hb => .inl hb⟩
    · rw [Below.heap_setCell _ _ _ _ (fun e => hn (.inl e))]
      exact hg.block k hk (fun e => hn (.inr (.inr (.inl e.symm))))
    · rcases hb with hb | hb | hb | hb
      · exact .inl (.inl hb)
      · exact .inl (.inr (.inl hb))
      · rcases hl b hb with h2 | h2
        · exact .inl (.inr (.inr (.inl h2)))
        · exact .inr h2
      · exact .inl (.inr (.inr (.inr hb)))

/-- a store into the set touches nothing else. -/
theorem PRaw.turned {r : Nat} {L : Lay} {d : Dk} {S S' : List (Int × Nat)} {w w1 : World} (h : PRaw r L d S w) (ht : w.mapTurned w1 L.l) (hs : LMap w1 L.l S') : PRaw r L d S' w1 := by
  have hg := ht.grown
  obtain ⟨es, c, hml⟩ := h.set.isMap
  have hk : ∀ b, b = r ∨ FOwn L b ∨ L.kv.ownBlock = some b → w1.heap[b]? = w.heap[b]? := fun b hb => by
    refine hg.block b (h.own_lt (by rcases hb with hb | hb | hb; exact .inl hb; exact .inr (.inr (.inl hb)); exact .inr (.inr (.inr hb)))) (fun e => ?_)
    injection e with e
    subst e
    rcases hb with hb | hb | hb
    · exact h.rset hb
    · rcases hb with hb | ⟨f, hf, hb | ⟨s, hb⟩⟩
      · exact h.ne hb.symm
      · rw [hb, h.files.file f hf] at hml; cases hml
      · exact other_map (h.files.row f s hf) hml hb
    · exact other_map h.keep hml hb
  exact ⟨(hk r (.inl rfl)).trans h.cell, h.files.keep fun b hb => hk b (.inr (.inl hb)), hs, ownKeep h.keep fun b hb => hk b (.inr (.inr hb)), h.ne⟩

/-- what mark leaves. -/
def MarkPost (r : Nat) (L : Lay) (d : Dk) (x : Int × Nat) (w : World) (e : Ending) (w' : World) : Prop :=
  e = .returned (.tuple #[]) ∧ ∃ L', PAt r L' { d with q := addSec d.q x.1 x.2 } w' ∧ PStep r L L' w w' ∧ L'.fb = L.fb

set_option maxRecDepth 100000 in
set_option maxHeartbeats 4000000 in
theorem mark_any (r : Nat) (L : Lay) (d : Dk) (f : Int) (n : Nat) (w : World) (h : PAt r L d w) (hx : SecOk (f, n)) (hq : d.q.length ≤ 1099511627776) :
    Calls Tryd.prog 34 #[.pointer (some ⟨r, 0, none⟩), .agg #[.int .i64 f, .int .i64 (n : Int)]] w (MarkPost r L d (f, n) w) := by
  obtain ⟨W1, hW1⟩ : ∃ W1, W1 = w.alloc (.cells #[.int .i64 f, .int .i64 (n : Int)] 70) := ⟨_, rfl⟩
  have hbel : Below w.heap.size w W1 := by rw [hW1]; exact (Below.refl _ _).alloc (Nat.le_refl _) _
  have h1 := h.below hbel
  have hrl := h.raw.lt
  have hbox : W1.heap[w.heap.size]? = some (.cells #[.int .i64 f, .int .i64 (n : Int)] 70 (0, 0)) := by rw [hW1]; exact heap_alloc_new w _
  have b0 : W1.cell? ⟨w.heap.size, 0, none⟩ = some (.int .i64 f) := by rw [Lib.cell_of_heap hbox]; rfl
  have b1 : W1.cell? ⟨w.heap.size, 1, none⟩ = some (.int .i64 (n : Int)) := by rw [Lib.cell_of_heap hbox]; rfl
  obtain ⟨c0, c1, c2, _, _, _, _, hz⟩ := h1.raw.cells
  have hlook : ∀ m, (Instr.lookup 45 (.map (some L.l)) (.agg #[.int .i64 f, .int .i64 (n : Int)]) false).run Tryd.prog (W1.drewN m) = .ok (.bool (decide ((f, n) ∈ d.q))) (W1.drewN m) := fun m => (h1.raw.set.kept (w' := W1.drewN m) rfl).look hx
  have HBOX := Lib.hid hbox
  have H1 := Lib.hid h1
  have HB := Lib.hid hbel
  have HW := Lib.hid hW1
  clear hbox h1 hbel hW1 hz h
  go_enter Tryd.func34, Tryd.ntmps34
  go_wp2
  rw [← HW.out]
  by_cases hin : (f, n) ∈ d.q
  · rw [decide_eq_true hin] at hlook
    have HIN := Lib.hid hin
    clear hin
    go_quiet (fail)
    go_wp2
    refine bodyPost_end (results_none rfl _ _ _) rfl ?_
    refine ⟨rfl, L, ?_, ?_, rfl⟩
    · rw [show addSec d.q (f, n).1 (f, n).2 = d.q by unfold addSec; rw [if_pos HIN.out]]
      exact H1.out.kept fun b _ => rfl
    · exact PStep.of_below (HB.out.trans ⟨rfl, rfl, rfl, Nat.le_refl _, fun _ _ => rfl⟩)
  · rw [decide_eq_false hin] at hlook
    have HIN := Lib.hid hin
    clear hin
    go_quiet (fail)
    rename_i nq
    clear hlook
    have H2 : Hid (PAt r L d (W1.drewN nq)) := Lib.hid (H1.out.kept fun b _ => rfl)
    have HB2 : Hid (Below w.heap.size w (W1.drewN nq)) := Lib.hid (HB.out.trans ⟨rfl, rfl, rfl, Nat.le_refl _, fun _ _ => rfl⟩)
    have HBOX2 : Hid ((W1.drewN nq).heap[w.heap.size]? = some (.cells #[.int .i64 f, .int .i64 (n : Int)] 70 (0, 0))) := Lib.hid HBOX.out
    clear H1 HB HBOX HW b0 b1 c0 c1 c2
    generalize W1.drewN nq = W2 at *
    obtain ⟨c0, c1, c2, _, _, _, _, hz⟩ := H2.out.raw.cells
    have b0 : W2.cell? ⟨w.heap.size, 0, none⟩ = some (.int .i64 f) := by rw [Lib.cell_of_heap HBOX2.out]; rfl
    have b1 : W2.cell? ⟨w.heap.size, 1, none⟩ = some (.int .i64 (n : Int)) := by rw [Lib.cell_of_heap HBOX2.out]; rfl
    obtain ⟨W3, hadd, hset, hturn⟩ := (H2.out.raw.set.kept (w' := W2.drew) rfl).add hx HIN.out (by omega)
    clear hz
    go_wp2
    go_region
    obtain ⟨i0, hi0, hz0, hz1, hz2⟩ := info_parts infoSec
    have hq3 : W3.ownsRow 0 70 2 L.qv d.q.length (qcells d.q) := ownKeep H2.out.queue fun b hb => hturn.grown.block b (H2.out.own_lt (.inl (.inr (.inr (.inl hb))))) (fun e => by
      injection e with e
      obtain ⟨es, c, hm⟩ := H2.out.raw.set.isMap
      exact other_map H2.out.queue hm (by rw [hb, e]))
    have h3 : PRaw r L d (d.q ++ [(f, n)]) W3 := (H2.out.raw.kept (w' := W2.drew) fun b _ => rfl).turned hturn hset
    have hbox3 : W3.heap[w.heap.size]? = some (.cells #[.int .i64 f, .int .i64 (n : Int)] 70 (0, 0)) := (hturn.grown.block _ (brow_lt HBOX2.out) (fun e => by
      injection e with e
      obtain ⟨es, c, hm⟩ := H2.out.raw.set.isMap
      rw [← e, HBOX2.out] at hm; cases hm)).trans HBOX2.out
    obtain ⟨_, d1, _, _, _, _, _, dz⟩ := h3.cells
    have d3 : W3.cell? ⟨w.heap.size, 0, none⟩ = some (.int .i64 f) := by rw [Lib.cell_of_heap hbox3]; rfl
    have d4 : W3.cell? ⟨w.heap.size, 1, none⟩ = some (.int .i64 (n : Int)) := by rw [Lib.cell_of_heap hbox3]; rfl
    have dz1 := dz 1
    have hrlt := h3.lt
    have hrq : L.qv.ownBlock ≠ some r := other_kind hq3 h3.cell (by decide)
    have HST : Hid (PStep r L L w W3) := Lib.hid ((PStep.of_below (r := r) (L := L) HB2.out).trans ⟨PFr.of_grown (w := W2) (w' := W3) (row := some L.l) ⟨hturn.grown.os, hturn.grown.tape, hturn.grown.output, hturn.grown.size, hturn.grown.block⟩ (fun b e => by injection e with e; exact .inr (.inl e.symm)), fun _ h => .inl h, fun _ h => .inl h⟩)
    have HK : Hid (∀ w4, (W3.alloc (.cells #[.int .i64 f, .int .i64 (n : Int)] 70)).grownBy w4 L.qv.ownBlock → w4.cell? ⟨r, 1, none⟩ = some L.qv ∧ w4.frozen? ⟨r, 1, none⟩ = false) := Lib.hid fun w4 hg => by
      have hb := (hg.block r (by simp; omega) (fun e => hrq e.symm)).trans (heap_alloc_old W3 _ hrlt)
      rw [h3.cell] at hb
      exact ⟨by rw [Lib.cell_of_heap hb]; rfl, Lib.frozen_of_heap hb 1⟩
    have HE : Hid (∀ w4 gg cg, (W3.alloc (.cells #[.int .i64 f, .int .i64 (n : Int)] 70)).grownBy w4 L.qv.ownBlock → w4.ownsRow 0 70 2 (.slice (some ⟨gg, 0, none⟩) (d.q.length + 1) cg) (d.q.length + 1) (qcells d.q ++ [.int .i64 f, .int .i64 (n : Int)]) → (L.qv.ownBlock = some gg ∨ gg = W3.heap.size + 1) →
        MarkPost r L d (f, n) w (.returned (.tuple #[])) (w4.setCell ⟨r, 1, none⟩ (.slice (some ⟨gg, 0, none⟩) (d.q.length + 1) cg))) := Lib.hid fun w4 gg cg hg hown hl => by
      have ha : Below W3.heap.size W3 (W3.alloc (.cells #[.int .i64 f, .int .i64 (n : Int)] 70)) := (Below.refl _ _).alloc (Nat.le_refl _) _
      have e : qcells d.q ++ [.int .i64 f, .int .i64 (n : Int)] = qcells (d.q ++ [(f, n)]) := by simp [qcells]
      rw [e] at hown
      have := (h3.below ha).queued (hq3.alloc _) hg (by simp) hown (fun b hb => by
        simp only [Value.ownBlock, Option.some.injEq] at hb
        rcases hl with hl | hl
        · left; rw [hl, hb]
        · right; simp; omega)
      refine ⟨rfl, _, ?_, HST.out.trans ((PStep.of_below ha).trans this.2), rfl⟩
      rw [show addSec d.q (f, n).1 (f, n).2 = d.q ++ [(f, n)] by unfold addSec; rw [if_neg HIN.out]]
      exact this.1
    have HQ3 := Lib.hid hq3
    have hbn : d.q.length + 1 ≤ maxLen := by unfold maxLen; omega
    have hbm : (d.q.length + 1) * 16 ≤ 140737488355328 := by omega
    clear hq3 h3 hbox3 dz HST hset hturn hadd H2 HB2 HBOX2 HIN hrq b0 b1 c0 c1 c2
    go_wp2
    go_region_law (first | (refine step_append_lies _ (by rfl) _ _ _ (by rfl) 0 70 i0 _ 2 16 Tryd.underlying46 hi0 hz0 hz1 hz2 rfl (by omega) L.qv d.q.length (qcells d.q) (by rfl) ((HQ3.out.alloc _).drew) ⟨W3.heap.size, 0, none⟩ 1 1 [.int .i64 f, .int .i64 (n : Int)] (by rfl) (by rfl) (World.news_of_block (cs := #[.int .i64 f, .int .i64 (n : Int)]) (t := 70) (fr := (0, 0)) (heap_alloc_new W3 _)) (by simp [Value.oneCell']) (by omega) hbn hbm (by simp) (W3.heap.size + 1) (by simp) ?_; intro gg cg w4 hown4 hgrow hat hlt; obtain ⟨k41, k42⟩ := HK.out w4 ⟨hgrow.os, hgrow.tape, hgrow.output, hgrow.size, hgrow.block⟩; have HP := Lib.hid (HE.out w4 gg cg ⟨hgrow.os, hgrow.tape, hgrow.output, hgrow.size, hgrow.block⟩ hown4 hat); clear hown4 hgrow hat))
    all_goals (refine bodyPost_end (results_none rfl _ _ _) rfl ?_; exact HP.out)

end Go.Proofs.YtncadnmoiiiahaaDoor
