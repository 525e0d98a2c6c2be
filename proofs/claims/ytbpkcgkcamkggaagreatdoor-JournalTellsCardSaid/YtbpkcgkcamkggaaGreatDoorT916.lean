/-
  The contract of settle's predicate: a sector of the file is saved and struck from the set.
-/
import Derived.Test.YtbpkcgkcamkggaaGreatDoorT915
set_option linter.unusedVariables false
set_option maxRecDepth 100000
namespace Go.Proofs.YtbpkcgkcamkggaaGreatDoor
open Go.RowKit

/-- the blocks that settle's predicate writes. -/
def COwn (L : Lay) (b : Nat) : Prop := b = L.l ∨ FOwn L b
structure CStep (L L' : Lay) (w w' : World) : Prop where
  fr : PFr (COwn L) w w'
  own : ∀ b, COwn L' b → COwn L b ∨ w.heap.size ≤ b
  qv : L'.qv = L.qv
  l : L'.l = L.l
  fb : L'.fb = L.fb
  m : L'.m = L.m
  kv : L'.kv = L.kv
theorem CStep.refl (L : Lay) (w : World) : CStep L L w w := ⟨PFr.refl _ _, fun _ h => .inl h, rfl, rfl, rfl, rfl, rfl⟩
theorem CStep.trans {L L' L'' : Lay} {a b c : World} (h : CStep L L' a b) (k : CStep L' L'' b c) : CStep L L'' a c :=
  ⟨h.fr.trans k.fr h.own, fun i hi => by
    rcases k.own i hi with h1 | h1
    · exact h.own i h1
    · have := h.fr.size
      right; omega, k.qv.trans h.qv, k.l.trans h.l, k.fb.trans h.fb, k.m.trans h.m, k.kv.trans h.kv⟩
theorem CStep.of_below {L : Lay} {w w' : World} (h : Below w.heap.size w w') : CStep L L w w' := ⟨PFr.of_below h, fun _ h => .inl h, rfl, rfl, rfl, rfl, rfl⟩
theorem PRaw.cown {r : Nat} {L : Lay} {d : Dk} {S : List (Int × Nat)} {w : World} (h : PRaw r L d S w) {b : Nat} {c : Array Value} {T : TypeId} {z : Nat × Nat} (hb : w.heap[b]? = some (.cells c T z)) (h1 : T ≠ 64) (h2 : T ≠ 5) : ¬ COwn L b := by
  rintro (rfl | ho)
  · obtain ⟨es, cc, hm⟩ := h.set.isMap
    rw [hb] at hm; cases hm
  · exact h.files.free hb h1 h2 ho
/-- a block of another type stays. -/
theorem CStep.block {r : Nat} {L L' : Lay} {d : Dk} {S : List (Int × Nat)} {w w' : World} (k : CStep L L' w w') (h : PRaw r L d S w) {b : Nat} {c : Array Value} {T : TypeId} {z : Nat × Nat} (hb : w.heap[b]? = some (.cells c T z)) (h1 : T ≠ 64) (h2 : T ≠ 5) : w'.heap[b]? = some (.cells c T z) :=
  (k.fr.block b (brow_lt hb) (h.cown hb h1 h2)).trans hb
theorem CStep.step {r : Nat} {L L' : Lay} {w w' : World} (k : CStep L L' w w') : PStep r L L' w w' :=
  ⟨⟨k.fr.os, k.fr.tape, k.fr.output, k.fr.size, fun b hb hn => k.fr.block b hb (fun ho => hn (by
      rcases ho with ho | ho
      · exact .inr (.inl ho)
      · exact .inr (.inr (.inr ho))))⟩, fun b hb => by
    rcases hb with hb | hb | hb | hb
    · exact .inl (.inl hb)
    · rcases k.own b (.inl hb) with h1 | h1
      · rcases h1 with h1 | h1
        · exact .inl (.inr (.inl h1))
        · exact .inl (.inr (.inr (.inr h1)))
      · exact .inr h1
    · rw [k.qv] at hb
      exact .inl (.inr (.inr (.inl hb)))
    · rcases k.own b (.inr hb) with h1 | h1
      · rcases h1 with h1 | h1
        · exact .inl (.inr (.inl h1))
        · exact .inl (.inr (.inr (.inr h1)))
      · exact .inr h1, fun b hb => by rw [k.kv] at hb; exact .inl hb⟩

/-- what save leaves, of the disk. -/
theorem PRaw.saved {r : Nat} {L : Lay} {d : Dk} {S : List (Int × Nat)} {w w' : World} (h : PRaw r L d S w) {f : Int} {n : Nat} {e : Ending} (hs : SavePost L d.now d.last f n w e w') :
    e = .returned (.tuple #[]) ∧ ∃ L', PRaw r L' { d with last := surv d.now d.last (f, n) } S w' ∧ CStep L L' w w' := by
  obtain ⟨he, v', hfa, hfr, hown⟩ := hs
  refine ⟨he, _, ⟨?_, hfa, ?_, ?_, h.ne⟩, ⟨⟨hfr.os, hfr.tape, hfr.output, hfr.size, fun b hb hn => hfr.block b hb (fun ho => hn (.inr ho))⟩, ?_, rfl, rfl, rfl, rfl, rfl⟩⟩
  · exact (hfr.block r h.lt h.rfree).trans h.cell
  · refine h.set.kept (hfr.block _ h.set.lt (fun ho => ?_))
    obtain ⟨es, c, hm⟩ := h.set.isMap
    rcases ho with ho | ⟨g, hg, ho | ⟨s, ho⟩⟩
    · exact h.ne ho.symm
    · rw [ho, h.files.file g hg] at hm; cases hm
    · exact other_map (h.files.row g s hg) hm ho
  · refine ownKeep h.keep fun b hb => ?_
    obtain ⟨c, hc⟩ := ownKind h.keep hb
    exact hfr.block b (brow_lt hc) (h.files.free hc (by decide) (by decide))
  · intro b hb
    rcases hb with hb | hb
    · exact .inl (.inl hb)
    · rcases hown b hb with h1 | h1
      · exact .inl (.inr h1)
      · exact .inr h1

/-- the sector x is of the file f: it is saved and struck; else nothing is done. -/
def DelPost (r : Nat) (L : Lay) (d : Dk) (S : List (Int × Nat)) (f : Int) (x : Int × Nat) (w : World) (e : Ending) (w' : World) : Prop :=
  e = .returned (.bool (decide (x.1 = f))) ∧ ∃ L', PRaw r L' (if x.1 = f then { d with last := surv d.now d.last x } else d) (if x.1 = f then S.erase x else S) w' ∧ CStep L L' w w'

set_option maxRecDepth 100000 in
set_option maxHeartbeats 4000000 in
theorem del_any (r : Nat) (L : Lay) (d : Dk) (S : List (Int × Nat)) (f : Int) (x : Int × Nat) (bf bd : Nat) (w : World) (h : PRaw r L d S w) (hf : Dk.fileOk f) (hx : x.1 = f → x ∈ S ∧ 64 * x.2 < (d.now f).length)
    (hb1 : (d.now f).length ≤ 16777216) (hb2 : (d.last f).length ≤ 16777216) (hbf : w.heap[bf]? = some (.cells #[.int .i64 f] 3 (0, 0))) (hbd : w.heap[bd]? = some (.cells #[.pointer (some ⟨r, 0, none⟩)] 25 (0, 0))) :
    Calls Tryz.prog 76 #[.agg #[.int .i64 x.1, .int .i64 (x.2 : Int)], .pointer (some ⟨bf, 0, none⟩), .pointer (some ⟨bd, 0, none⟩)] w (DelPost r L d S f x w) := by
  obtain ⟨W1, hW1⟩ : ∃ W1, W1 = w.alloc (.cells #[.int .i64 x.1, .int .i64 (x.2 : Int)] 80) := ⟨_, rfl⟩
  have hbel : Below w.heap.size w W1 := by rw [hW1]; exact (Below.refl _ _).alloc (Nat.le_refl _) _
  have h1 := h.below hbel
  have hbox : W1.heap[w.heap.size]? = some (.cells #[.int .i64 x.1, .int .i64 (x.2 : Int)] 80 (0, 0)) := by rw [hW1]; exact heap_alloc_new w _
  have b0 : W1.cell? ⟨w.heap.size, 0, none⟩ = some (.int .i64 x.1) := by rw [Lib.cell_of_heap hbox]; rfl
  have b1 : W1.cell? ⟨w.heap.size, 1, none⟩ = some (.int .i64 (x.2 : Int)) := by rw [Lib.cell_of_heap hbox]; rfl
  have hbf1 := (hbel.block bf (brow_lt hbf)).trans hbf
  have hbd1 := (hbel.block bd (brow_lt hbd)).trans hbd
  have f0 : W1.cell? ⟨bf, 0, none⟩ = some (.int .i64 f) := by rw [Lib.cell_of_heap hbf1]; rfl
  have d0 : W1.cell? ⟨bd, 0, none⟩ = some (.pointer (some ⟨r, 0, none⟩)) := by rw [Lib.cell_of_heap hbd1]; rfl
  have f0' : (w.alloc (.cells #[.int .i64 x.1, .int .i64 (x.2 : Int)] 80)).cell? ⟨bf, 0, none⟩ = some (.int .i64 f) := by rw [← hW1]; exact f0
  obtain ⟨c0, _, c2, _⟩ := h1.cells
  have HBOX := Lib.hid hbox
  have H1 := Lib.hid h1
  have HB := Lib.hid hbel
  have HW := Lib.hid hW1
  by_cases hxf : x.1 = f
  · have he2 : (x.1 == f) = true := by simpa using hxf
    have HXF := Lib.hid hxf
    have HX := Lib.hid (hx hxf)
    have HBF1 := Lib.hid hbf1
    have HBD1 := Lib.hid hbd1
    have hlook : ∀ m, (Instr.lookup 56 (.map (some L.m)) (.int .i64 f) false).run Tryz.prog (W1.drewN m) = .ok (.pointer (some ⟨L.fb f, 0, none⟩)) (W1.drewN m) := fun m => (h1.files.map.kept (w' := W1.drewN m) rfl).look hf
    have hl1 : (Instr.lookup 56 (.map (some L.m)) (.int .i64 f) false).run Tryz.prog W1.drew = .ok (.pointer (some ⟨L.fb f, 0, none⟩)) W1.drew := hlook 1
    have hdr : Below W1.heap.size W1 W1.drew := ⟨rfl, rfl, rfl, Nat.le_refl _, fun _ _ => rfl⟩
    have HDR := Lib.hid hdr
    have HSV : Hid (∀ W : World, Below W1.heap.size W1 W → W.heap.size = W1.heap.size → Calls Tryz.prog 44 #[.pointer (some ⟨L.fb f, 0, none⟩), .int .i64 (x.2 : Int)] W (SavePost L d.now d.last f x.2 W)) := Lib.hid fun W hW hWs =>
      save_any L d.now d.last f x.2 W (h1.below hW).files hf HX.out.2 hb1 hb2
    have HPR : Hid (∀ W : World, Below W1.heap.size W1 W → PRaw r L d S W) := Lib.hid fun W hW => h1.below hW
    clear hbox h1 hbel hW1 h hx hbf1 hbd1 hxf hlook hdr
    go_enter Tryz.func76, Tryz.ntmps76
    go_wp2
    rw [← HW.out]
    go_region_law (first | (go_simp; go_at_call 44; (with_reducible refine (HSV.out W1.drew HDR.out rfl).mono ?_); rintro e w5 hs5; obtain ⟨rfl, L5, hp5, hk5⟩ := (HPR.out W1.drew HDR.out).saved hs5; have P5 := Lib.hid hp5; have K5 := Lib.hid hk5; clear hp5 hk5 hs5))
    all_goals
      have hp := H1.out.kept (w' := W1.drew) (fun b _ => rfl)
      have hbox5 := K5.out.block hp HBOX.out (by decide) (by decide)
      have hbd5 := K5.out.block hp HBD1.out (by decide) (by decide)
      have b50 : w5.cell? ⟨w.heap.size, 0, none⟩ = some (.int .i64 x.1) := by rw [Lib.cell_of_heap hbox5]; rfl
      have b51 : w5.cell? ⟨w.heap.size, 1, none⟩ = some (.int .i64 (x.2 : Int)) := by rw [Lib.cell_of_heap hbox5]; rfl
      have d50 : w5.cell? ⟨bd, 0, none⟩ = some (.pointer (some ⟨r, 0, none⟩)) := by rw [Lib.cell_of_heap hbd5]; rfl
      obtain ⟨_, _, c52, _⟩ := P5.out.cells
      obtain ⟨w6, hdel, hset6, hturn6⟩ := (P5.out.set.kept (w' := w5.drew) rfl).del HX.out.1 0
      have HF : Hid (DelPost r L d S f x w (.returned (.bool true)) w6) := Lib.hid (by
        refine ⟨by rw [decide_eq_true HXF.out], L5, ?_, ?_⟩
        · rw [if_pos HXF.out, if_pos HXF.out]
          have h6 := (P5.out.kept (w' := w5.drew) fun b _ => rfl).turned hturn6 hset6
          rw [show (f, x.2) = x by rw [← HXF.out]] at h6
          exact h6
        · refine (CStep.of_below HB.out).trans (((CStep.of_below (L := L) HDR.out).trans K5.out).trans ⟨PFr.of_grown (w := w5) (w' := w6) (row := some L5.l) ⟨hturn6.grown.os, hturn6.grown.tape, hturn6.grown.output, hturn6.grown.size, hturn6.grown.block⟩ (fun b e => by injection e with e; exact .inl e.symm), fun _ h => .inl h, rfl, rfl, rfl, rfl, rfl⟩))
      clear hp hbox5 hbd5 hset6 hturn6 P5 K5
      go_wp2
      go_region
      go_wp2
      go_ret
      exact HF.out
  · have he2 : (x.1 == f) = false := by simpa using hxf
    have HX : Hid (∀ m, DelPost r L d S f x w (.returned (.bool false)) (W1.drewN m)) := Lib.hid fun m => ⟨by rw [decide_eq_false hxf], L, by rw [if_neg hxf, if_neg hxf]; exact h1.kept fun b _ => rfl, CStep.of_below (hbel.trans ⟨rfl, rfl, rfl, Nat.le_refl _, fun _ _ => rfl⟩)⟩
    have hx0 := HX.out 0
    have HX0 := Lib.hid hx0
    clear hbox h1 hbel hW1 h hx hbf1 hbd1 hxf hx0
    go_enter Tryz.func76, Tryz.ntmps76
    go_wp2
    rw [← HW.out]
    go_ret
    exact HX0.out

end Go.Proofs.YtbpkcgkcamkggaaGreatDoor
