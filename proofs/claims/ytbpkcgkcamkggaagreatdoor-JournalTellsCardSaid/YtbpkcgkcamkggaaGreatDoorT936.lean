/-
  The program's journal (4): All, Len, Get, Sync, Append over the model.
-/
import Derived.Test.YtbpkcgkcamkggaaGreatDoorT935
import Derived.Deep.RegionLaw
import Derived.BigRegion
set_option linter.unusedVariables false
set_option maxRecDepth 100000
namespace Go.Proofs.YtbpkcgkcamkggaaGreatDoor
open Go.RowKit W

/-- a step: only blocks of O and new ones have turned; what is owned behind it was, or is new. -/
structure MStep (O O' : Nat → Prop) (w w' : World) : Prop where
  fr : PFr O w w'
  own : ∀ b, O' b → O b ∨ w.heap.size ≤ b
theorem MStep.refl (O : Nat → Prop) (w : World) : MStep O O w w := ⟨PFr.refl _ _, fun _ h => .inl h⟩
theorem MStep.trans {O O' O'' : Nat → Prop} {a b c : World} (h : MStep O O' a b) (k : MStep O' O'' b c) : MStep O O'' a c :=
  ⟨h.fr.trans k.fr h.own, fun i hi => by
    rcases k.own i hi with h1 | h1
    · exact h.own i h1
    · have := h.fr.size
      right; omega⟩
theorem MStep.of_below {O : Nat → Prop} {w w' : World} (h : Below w.heap.size w w') : MStep O O w w' := ⟨PFr.of_below h, fun _ h => .inl h⟩
theorem PFr.widen {O O' : Nat → Prop} {w w' : World} (h : PFr O w w') (hs : ∀ b, O b → O' b) : PFr O' w w' := ⟨h.os, h.tape, h.output, h.size, fun k hk hn => h.block k hk (fun c => hn (hs k c))⟩

/-- the blocks of a disk and of a journal. -/
def MO (r : Nat) (L : Lay) (rj : Nat) (v : Value) (b : Nat) : Prop := Own r L b ∨ JOwn rj v b
theorem MStep.disk {r : Nat} {L L' : Lay} {w w' : World} (k : PStep r L L' w w') (rj : Nat) (v : Value) : MStep (MO r L rj v) (MO r L' rj v) w w' :=
  ⟨k.fr.widen fun b hb => .inl hb, fun b hb => by
    rcases hb with hb | hb
    · exact (k.own b hb).imp .inl id
    · exact .inl (.inr hb)⟩
theorem MStep.jrn {rj : Nat} {v v' : Value} {w w' : World} (k : PFr (JOwn rj v) w w') (hv : ∀ b, v'.ownBlock = some b → v.ownBlock = some b ∨ w.heap.size ≤ b) (r : Nat) (L : Lay) : MStep (MO r L rj v) (MO r L rj v') w w' :=
  ⟨k.widen fun b hb => .inr hb, fun b hb => by
    rcases hb with hb | hb | hb
    · exact .inl (.inl hb)
    · exact .inl (.inr (.inl hb))
    · exact (hv b hb).imp (fun h => .inr (.inr h)) id⟩
/-- a step of a journal leaves the disk. -/
theorem DAt.jfar {r2 : Nat} {L : Lay} {d : Dk} {n : Nat} {w w' : World} (hd : DAt r2 L d n w) {rj : Nat} {v : Value} {r : Nat} {f : Int} {R : List (List UInt8)} {bad : Bool} (h : JAt rj v r f R bad w) (k : PFr (JOwn rj v) w w') : DAt r2 L d n w' :=
  hd.kept fun b c z T hT hl => k.block b hl fun ho => by
    rcases hT with hT | ⟨hb, rfl⟩
    · exact h.free hd ho hT
    · obtain ⟨c2, T2, hc2, hT2⟩ := h.kind ho
      rw [hb] at hc2
      simp only [Option.some.injEq, Obj.cells.injEq] at hc2
      rcases hT2 with e | e
      · exact absurd (hc2.2.1.trans e) (by decide)
      · exact absurd (hc2.2.1.trans e) (by decide)

theorem one_strs (R : List (List UInt8)) : ∀ u ∈ R.map vStr, u.oneCell' = true := by
  intro u hu
  obtain ⟨a, _, rfl⟩ := List.mem_map.1 hu
  rfl

set_option maxHeartbeats 2000000 in
theorem cloneT_any (n : Nat) (xs : List Value) (v : Value) (w : World) (h : w.ownsRow 0 9 1 v n xs) (h1 : ∀ u ∈ xs, u.oneCell' = true) (hn : n ≤ 1099511627776) :
    Calls Tryz.prog 47 #[v] w (Cloned 9 1 n xs w) := by
  obtain ⟨i0, hi0, hz0, hz1, hz2⟩ := info_parts infoStr
  have q22 : ∀ (w : World) (a : Option Addr) (n c n' c' : Nat), (binOp .eql 46 (.slice a n c) (.slice none n' c')).run Tryz.prog w = .ok (.bool a.isNone) w := fun w a n c n' c' => Lib.run_eql_slice_nil w _ _ a n c n' c' Tryz.underlying46
  have hl := h.1
  rcases h.2 with ⟨rfl, rfl⟩ | ⟨g, cap, cur, rfl, _, _⟩
  · have hx : xs = [] := List.eq_nil_of_length_eq_zero (by simpa using hl)
    subst hx
    clear h
    go_enter Tryz.func47, Tryz.ntmps47
    go_wp2
    go_ret
    exact ⟨_, rfl, World.ownsRow_nil _ _ _ _, Below.refl _ _⟩
  · have hcl := h.cells (g := g) rfl
    have HC := Lib.hid hcl
    clear h hcl
    go_enter Tryz.func47, Tryz.ntmps47
    go_wp2_with (at_builtin; refine wpList_append_own _ rfl _ _ 46 rfl w.heap.size 9 i0 (.string ⟨#[]⟩) 1 16 Tryz.underlying46 hi0 hz0 hz1 hz2 rfl (by decide) _ _ _ rfl (World.ownsRow_made w #[] 0 (Nat.le_refl _) (Nat.zero_le _) (by simp)) ⟨g, 0, none⟩ n cap xs rfl ?qc1 ?qc2 ?qc3 ?qc4 ?qc5 ?qc6 ?_)
    case qc1 => exact hl
    case qc2 =>
      intro j u hj
      exact Lib.cell?_alloc_some _ (HC.out j u hj)
    case qc3 => exact h1
    case qc4 => rw [Nat.zero_add]; unfold maxLen; omega
    case qc5 => rw [Nat.zero_add]; omega
    case qc6 => simp
    intro v' w1 hown hgrow hnil
    have HO := Lib.hid hown
    have HB : Hid (Below w.heap.size w w1) := Lib.hid (((Below.refl _ w).alloc (Nat.le_refl _) _).grown hgrow (by simp) (by intro k hk; simp [Value.ownBlock] at hk; omega))
    clear hown hgrow hnil
    go_wp2
    go_ret
    exact ⟨v', rfl, by simpa using HO.out, HB.out⟩

section
variable {rj : Nat} {v : Value} {r : Nat} {f : Int} {R : List (List UInt8)} {bad : Bool} {w : World}

set_option maxHeartbeats 1000000 in
theorem jall_any (h : JAt rj v r f R bad w) (hR : R.length ≤ 1099511627776) : Calls Tryz.prog 25 #[.pointer (some ⟨rj, 0, none⟩)] w (Cloned 9 1 R.length (R.map vStr) w) := by
  obtain ⟨c0, c1, c2, c3, c4, hz⟩ := h.cells
  have HC := Lib.hid (cloneT_any R.length (R.map vStr) v w h.row (one_strs R) hR)
  clear h c0 c1 c3 c4 hz
  go_enter Tryz.func25, Tryz.ntmps25
  go_wp2_with fail
  refine HC.out.mono ?_
  rintro e w1 ⟨v1, rfl, ho, hb⟩
  have H := Lib.hid (And.intro ho hb)
  clear ho hb HC
  go_wp2
  go_ret
  exact ⟨v1, rfl, H.out.1, H.out.2⟩

/-! ### over the model -/
def jsync (d : Dk) (f : Int) (bad : Bool) : Dk × Int × Bool := if bad then (d, 7, true) else ((d.sync f).1, (d.sync f).2, decide ((d.sync f).2 ≠ 0))
def jappend (d : Dk) (f : Int) (R : List (List UInt8)) (bad : Bool) (s : List UInt8) : Dk × Int × List (List UInt8) × Bool :=
  if bad then (d, 7, R, true)
  else if 20000 < s.length then (d, 3, R, false)
  else if 1048576 < (forms R).length + (form s).length then (d, 6, R, false)
  else if (d.write f ((forms R).length : Int) (form s)).2 ≠ 0 then ((d.write f ((forms R).length : Int) (form s)).1, (d.write f ((forms R).length : Int) (form s)).2, R, true)
  else ((d.write f ((forms R).length : Int) (form s)).1, 0, R ++ [s], false)

/-- the disk's list of what survives lies where it lay, or in a new block. -/
def KvS (L L' : Lay) (w : World) : Prop := ∀ b, L'.kv.ownBlock = some b → L.kv.ownBlock = some b ∨ w.heap.size ≤ b
theorem KvS.refl (L : Lay) (w : World) : KvS L L w := fun _ h => .inl h
theorem KvS.of {r : Nat} {L L' : Lay} {w w1 w2 : World} (h : PStep r L L' w1 w2) (hs : w.heap.size ≤ w1.heap.size) : KvS L L' w := fun b hb => (h.kv b hb).imp id (fun k => Nat.le_trans hs k)
/-- what a writing method of a journal leaves. -/
def JLeft (r : Nat) (L : Lay) (rj : Nat) (v : Value) (f : Int) (d' : Dk) (n' : Nat) (R' : List (List UInt8)) (bad' : Bool) (res : Int) (w : World) (e : Ending) (w' : World) : Prop :=
  e = .returned (.int .i64 res) ∧ ∃ L' v', DAt r L' d' n' w' ∧ JAt rj v' r f R' bad' w' ∧ KvS L L' w ∧ MStep (MO r L rj v) (MO r L' rj v') w w'

/-- a store into the journal's own cells. -/
theorem JAt.mark (h : JAt rj v r f R bad w) (b : Bool) : JAt rj v r f R b (w.setCell ⟨rj, 4, none⟩ (.bool b)) ∧ PFr (JOwn rj v) w (w.setCell ⟨rj, 4, none⟩ (.bool b)) := by
  refine ⟨⟨?_, ownKeep h.row fun b hb => Below.heap_setCell _ _ _ _ (fun e => ?_)⟩, PFr.of_grown (grownOne _ _ _ _) (fun b e => .inl (by injection e with e; exact e.symm))⟩
  · have := h.cell
    simp [World.setCell, Array.getElem?_modify, this]
  · exact other_kind h.row h.cell (by decide) (by rw [hb, e])

set_option maxHeartbeats 4000000 in
theorem jsync_any {L : Lay} {d : Dk} {n : Nat} (hd : DAt r L d n w) (h : JAt rj v r f R bad w) (hn : n ≤ 137438953472) (h64 : In64 f) :
    Calls Tryz.prog 14 #[.pointer (some ⟨rj, 0, none⟩)] w (JLeft r L rj v f (jsync d f bad).1 n R (jsync d f bad).2.2 (jsync d f bad).2.1 w) := by
  obtain ⟨c0, c1, c2, c3, c4, hz⟩ := h.cells
  cases bad with
  | true =>
    have HP : Hid (JLeft r L rj v f (jsync d f true).1 n R (jsync d f true).2.2 (jsync d f true).2.1 w (.returned (.int .i64 7)) w) := Lib.hid ⟨rfl, L, v, hd, h, KvS.refl _ _, MStep.refl _ _⟩
    clear hd h c0 c1 c2 c3 hz
    go_enter Tryz.func14, Tryz.ntmps14
    go_wp2
    go_ret
    exact HP.out
  | false =>
    have hb0 : Below w.heap.size w w.drew := ⟨rfl, rfl, rfl, Nat.le_refl _, fun _ _ => rfl⟩
    have HD := Lib.hid (hd.below hb0)
    have HJ := Lib.hid (h.below hb0)
    have HM := Lib.hid (mSync HD.out hn h64)
    have hE : ∀ w4 L', DAt r L' (d.sync f).1 n w4 → PStep r L L' w.drew w4 → ∀ b, b = decide ((d.sync f).2 ≠ 0) → JLeft r L rj v f (jsync d f false).1 n R (jsync d f false).2.2 (jsync d f false).2.1 w (.returned (.int .i64 (d.sync f).2)) (w4.setCell ⟨rj, 4, none⟩ (.bool b)) := fun w4 L' h4 k4 b hb => by
      have hj4 := HJ.out.far HD.out k4
      obtain ⟨hj5, k5⟩ := hj4.mark b
      subst hb
      exact ⟨rfl, L', v, h4.jfar hj4 k5, hj5, KvS.of k4 (Nat.le_refl _), (MStep.of_below hb0).trans ((MStep.disk k4 rj v).trans (MStep.jrn k5 (fun b hb => .inl hb) r L'))⟩
    have HE := Lib.hid hE
    have hF : ∀ w4 L', PStep r L L' w.drew w4 → w4.frozen? ⟨rj, 4, none⟩ = false ∧ w4.cell? ⟨rj, 4, none⟩ = some (.bool false) := fun w4 L' k4 => by
      have hj4 := HJ.out.far HD.out k4
      obtain ⟨_, _, _, _, d4, dz⟩ := hj4.cells
      exact ⟨dz 4, d4⟩
    have HF := Lib.hid hF
    clear hE hF hd h hb0
    go_enter Tryz.func14, Tryz.ntmps14
    go_wp2
    go_region_law (first | (go_simp; go_at_call 33; (with_reducible refine HM.out.mono ?_); rintro e w4 ⟨rfl, L4, h4, k4⟩; obtain ⟨f4, d4⟩ := HF.out w4 L4 k4; have H4 := Lib.hid (HE.out w4 L4 h4 k4); clear h4 k4))
    all_goals
      by_cases hc : (d.sync f).2 = 0
      · have H5 := Lib.hid (H4.out false (by simp [hc]))
        have hcb : ((d.sync f).2 != 0) = false := by simp [hc]
        clear H4
        rw [hc] at H5 hcb ⊢
        go_wp2
        go_ret
        exact H5.out
      · have H5 := Lib.hid (H4.out true (by simp [hc]))
        have hcb : ((d.sync f).2 != 0) = true := by simpa using hc
        clear H4
        generalize hce : (d.sync f).2 = c at *
        go_wp2
        go_ret
        exact H5.out
end

end Go.Proofs.YtbpkcgkcamkggaaGreatDoor
