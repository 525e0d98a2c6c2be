/-
  The contract of the program's settle.
-/
import Derived.Test.YtbpkcgkcamkggaaGreatDoorT918
set_option linter.unusedVariables false
set_option maxRecDepth 100000
namespace Go.Proofs.YtbpkcgkcamkggaaGreatDoor
open Go.RowKit

theorem settle_last {d : Dk} (h : Dk.Ok d) (f : Int) : survs d.now d.last (ofs f d.q) = upd d.last f (d.now f) := by
  funext g
  by_cases c : g = f
  · subst c
    rw [upd_same]
    have ha := survs_all (ofs g d.q) h.le g
    have hlen : (survs d.now d.last (ofs g d.q) g).length = (d.now g).length := by
      by_cases c : (d.last g).length < (d.now g).length
      · have h1 := h.ext g c
        have h3 := h.inq _ h1
        have := survs_reach (ofs g d.q) h.le (g, ((d.now g).length - 1) / 64) (List.mem_filter.2 ⟨h1, by simp⟩) (by simp only; omega)
        have := ha.1.2
        simp only at *
        omega
      · have := ha.1
        omega
    refine ext_bt hlen (fun i _ => ?_)
    rw [ha.2]
    by_cases c : (g, i / 64) ∈ d.q
    · rw [if_pos (show (g, i / 64) ∈ ofs g d.q from List.mem_filter.2 ⟨c, decide_eq_true rfl⟩)]
    · rw [if_neg (show ¬ (g, i / 64) ∈ ofs g d.q from fun hm => c (List.mem_filter.1 hm).1)]; exact (h.same g i c).symm
  · rw [upd_other c]
    exact survs_none _ _ _ (fun x hx e => by
      have := (List.mem_filter.1 hx).2
      simp at this
      exact c (e.symm.trans this))

theorem setOk_of {d : Dk} (h : Dk.Ok d) {f : Int} (hf : Dk.fileOk f) (hq : d.q.length ≤ 1099511627776) : SetOk d f d.q :=
  ⟨hf, fun x hx e => by have := (h.inq x hx).2; rw [e] at this; exact this, h.big f, Nat.le_trans (h.le f) (h.big f), hq⟩

theorem Left.after {r : Nat} {L : Lay} {d' : Dk} {res : Value} {w w1 w' : World} {e : Ending} (h : Left r L d' res w1 e w') (hb : Below w.heap.size w w1) : Left r L d' res w e w' := by
  obtain ⟨he, L', p, s, e1⟩ := h
  exact ⟨he, L', p, (PStep.of_below hb).trans s, e1⟩

/-- a block of another type stays. -/
theorem PStep.block {r : Nat} {L L' : Lay} {d : Dk} {w w' : World} (k : PStep r L L' w w') (h : PAt r L d w) {b : Nat} {c : Array Value} {T : TypeId} {z : Nat × Nat} (hb : w.heap[b]? = some (.cells c T z)) (h1 : T ≠ 64) (h2 : T ≠ 5) (h3 : T ≠ 80) (h4 : T ≠ 60) : w'.heap[b]? = some (.cells c T z) :=
  (k.fr.block b (brow_lt hb) (fun ho => by
    rcases ho with rfl | rfl | ho | ho
    · rw [h.raw.cell] at hb
      simp only [Option.some.injEq, Obj.cells.injEq] at hb
      exact h4 hb.2.1.symm
    · obtain ⟨es, cc, hm⟩ := h.raw.set.isMap
      rw [hm] at hb; cases hb
    · exact other_kind h.queue hb h3 ho
    · exact h.raw.files.free hb h1 h2 ho)).trans hb

/-- a store of the list that DeleteFunc gave. -/
theorem df_store {r : Nat} {L : Lay} {d : Dk} {f : Int} {w w' : World} {e : Ending} (ho : Dk.Ok d) (hp : PAt r L d w) (h : DfPost r L d f d.q w e w') {b : Nat} {u : Value} (hb : w.heap[b]? = some (.cells #[u] 25 (0, 0))) : ∃ v', e = .returned v' ∧ w'.cell? ⟨r, 1, none⟩ = some L.qv ∧ w'.frozen? ⟨r, 1, none⟩ = false
    ∧ w'.cell? ⟨b, 0, none⟩ = some u ∧ Left r L (d.settle f (d.now f)) (.tuple #[]) w (.returned (.tuple #[])) (w'.setCell ⟨r, 1, none⟩ v') ∧ ∃ A n cap, v' = .slice A n cap := by
  obtain ⟨v', L', he, p, hq, hs, h1, h2, h3, h4⟩ := h
  obtain ⟨_, c1, _, _, _, _, _, cz⟩ := p.cells
  refine ⟨v', he, by rw [c1, h1], cz 1, by rw [Lib.cell_of_heap (hs.block hp hb (by decide) (by decide) (by decide) (by decide))]; rfl, ⟨rfl, { L' with qv := v' }, ⟨?_, ?_⟩, ?_, h3⟩, ?_⟩
  · have hst := p.store (L' := { L' with qv := v' }) (d' := d.settle f (d.now f)) (S' := (d.settle f (d.now f)).q) 1 v' rfl rfl rfl (by simp only [Dk.settle]; rw [upd_self]) (by simp only [Dk.settle]; rw [settle_last ho]) rfl p.set p.keep p.ne
    exact hst
  · exact ownKeep hq fun b hb => Below.heap_setCell _ _ _ _ (fun e => other_kind hq p.cell (by decide) (by rw [hb, e]))
  · refine hs.trans (PStep.store 1 v' rfl rfl rfl (.inl rfl) (fun b hb => .inl ?_))
    rw [h1]; exact h4 b hb
  · obtain ⟨A, cap, hv, _⟩ := own_parts hq
    exact ⟨A, _, cap, hv⟩

set_option maxRecDepth 100000 in
set_option maxHeartbeats 4000000 in
theorem settle_any (r : Nat) (L : Lay) (d : Dk) (f : Int) (w : World) (h : PAt r L d w) (ho : Dk.Ok d) (hf : Dk.fileOk f) (hq : d.q.length ≤ 549755813888) :
    Calls Tryz.prog 52 #[.pointer (some ⟨r, 0, none⟩), .int .i64 f] w (Left r L (d.settle f (d.now f)) (.tuple #[]) w) := by
  obtain ⟨W1, hW1⟩ : ∃ W1, W1 = (w.alloc (.cells #[.pointer (some ⟨r, 0, none⟩)] 25)).alloc (.cells #[.int .i64 f] 3) := ⟨_, rfl⟩
  have hbel : Below w.heap.size w W1 := by rw [hW1]; exact ((Below.refl _ _).alloc (Nat.le_refl _) _).alloc (by simp) _
  have h1 := h.below hbel
  have hbd : W1.heap[w.heap.size]? = some (.cells #[.pointer (some ⟨r, 0, none⟩)] 25 (0, 0)) := by
    rw [hW1, heap_alloc_old _ _ (by simp)]; exact heap_alloc_new w _
  have hbf : W1.heap[w.heap.size + 1]? = some (.cells #[.int .i64 f] 3 (0, 0)) := by
    rw [hW1]
    have := heap_alloc_new (w.alloc (.cells #[.pointer (some ⟨r, 0, none⟩)] 25)) (.cells #[.int .i64 f] 3)
    simpa using this
  have d0 : W1.cell? ⟨w.heap.size, 0, none⟩ = some (.pointer (some ⟨r, 0, none⟩)) := by rw [Lib.cell_of_heap hbd]; rfl
  obtain ⟨_, c1, _⟩ := h1.raw.cells
  have hdf := df_any r L d f d.q (w.heap.size + 1) w.heap.size W1.drew (h1.raw.kept fun b _ => rfl) (ownKeep h1.queue fun b _ => rfl) (setOk_of ho hf (by omega)) ho.le ⟨hbf, hbd⟩
  have HDF := Lib.hid hdf
  have HW := Lib.hid hW1
  have HP : Hid (PAt r L d W1.drew) := Lib.hid (h1.kept fun b _ => rfl)
  have HBD : Hid (W1.drew.heap[w.heap.size]? = some (.cells #[.pointer (some ⟨r, 0, none⟩)] 25 (0, 0))) := Lib.hid hbd
  have HB := Lib.hid hbel
  have HO := Lib.hid ho
  have hrl := h.raw.lt
  clear h h1 hbel hW1 hbf hbd hdf ho
  unfold delFn at HDF
  go_enter Tryz.func52, Tryz.ntmps52
  go_wp2
  rw [← HW.out]
  go_region_law (first | (go_simp; go_at_call 75; (with_reducible refine HDF.out.mono ?_); rintro e w4 h4; obtain ⟨v', rfl, k1, k2, k3, hl, A, n, cap, rfl⟩ := df_store HO.out HP.out h4 HBD.out; have HL := Lib.hid hl; clear h4 hl))
  all_goals
    refine bodyPost_end (results_none rfl _ _ _) rfl ?_
    exact HL.out.after (HB.out.trans ⟨rfl, rfl, rfl, Nat.le_refl _, fun _ _ => rfl⟩)

end Go.Proofs.YtbpkcgkcamkggaaGreatDoor
