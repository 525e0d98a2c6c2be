/-
  Contracts of the program's put from a row of bytes, and of save.
  The contract of the program's mark: a sector becomes pending.
  The contract of the program's write.
-/
import Derived.Test.YtbpkcgkcamkggaaGreatDoorT914
import Derived.Deep.RegionHeld3
import Derived.StillTailTactics
import Derived.Deep.AppendLies
import Derived.Deep.RegionLaw
import Derived.BigRegion
import Derived.Test.YtbpkcgkcamkggaaGreatDoorT912
set_option linter.unusedVariables false
set_option maxRecDepth 100000
namespace Go.Proofs.YtbpkcgkcamkggaaGreatDoor
open Go.RowKit

set_option maxRecDepth 100000 in
set_option maxHeartbeats 2000000 in
theorem putB_any (v : Value) (l : List UInt8) (a : Nat) (ad : Addr) (c : Nat) (t : List UInt8) (w : World) (h : w.ownsRow 0 5 1 v l.length (bcs l)) (ht : t ≠ []) (hl : l.length ≤ 33554432) (hb : a + t.length ≤ 33554432)
    (hs : ∀ j u, (bcs t)[j]? = some u → w.cell? (ad.add j) = some u) (hlt : ad.block < w.heap.size) (hne : v.ownBlock ≠ some ad.block) :
    Calls Tryz.prog 70 #[v, .int .i64 (a : Int), .slice (some ad) t.length c] w (PutPost v l a t w) := by
  have ht0 : 0 < t.length := List.length_pos_iff.mpr ht
  obtain ⟨A, cap, rfl, hA⟩ := own_parts h
  have main : ∀ (k : Nat) (v1 : Value) (w1 : World), k = a + t.length - l.length → w1.ownsRow 0 5 1 v1 (l.length + k) (bcs (l ++ List.replicate k 0)) → (∀ j u, (bcs t)[j]? = some u → w1.cell? (ad.add j) = some u) → ∃ g c1, v1 = .slice (some ⟨g, 0, none⟩) (l.length + k) c1 ∧ l.length + k ≤ c1 ∧ ∃ w2,
      (∀ ty dl c2, t.length ≤ dl → (Builtin.copy_ #[62, 62] ty #[.slice (some ⟨g, a, none⟩) dl c2, .slice (some ad) t.length c]).run Tryz.prog w1 = .ok (goInt t.length) w2) ∧
      w2.ownsRow 0 5 1 v1 (put l a t).length (bcs (put l a t)) ∧ w1.grownBy w2 (some g) := by
    intro k v1 w1 hk hown hs1
    rcases hown.2 with ⟨_, h0⟩ | ⟨g, c1, cur, rfl, _, hg, hnc, hcm, hcs, htake⟩
    · omega
    · rw [Nat.mul_one] at hcs htake
      have hov := own_over (a := a) (t := t) hg (l := l ++ List.replicate k 0) (by simp) hnc hcm hcs htake (by omega)
      rw [put_over l k a t ht hk] at hov
      have hpl : (put l a t).length = l.length + k := by rw [put_length ht]; omega
      have hbl : (bcs t).length = t.length := bcs_length t
      refine ⟨g, c1, rfl, hnc, w1.setRow g (cur.toList.take a ++ bcs t ++ cur.toList.drop (a + t.length)).toArray, fun ty dl c2 hdl => ?_, ?_, ?_⟩
      · have := run_copy_row (P := Tryz.prog) w1 62 62 ty 5 g a dl c2 ad t.length c cur 5 (bcs t) Tryz.underlying62 (by kernel_rfl) hg (by rw [hbl]; exact (Nat.min_eq_left hdl).symm) hs1 (by rw [hbl]; omega) (one_bcs t)
        rw [hbl] at this
        exact this
      · rw [hpl]; exact hov
      · exact ⟨rfl, rfl, rfl, by simp, fun q _ hq => setRow_other w1 g q _ (fun e => hq (by simp [e]))⟩
  by_cases hlack : l.length < a + t.length
  · obtain ⟨v1, w1, hr, hz⟩ := append_zeros l (a + t.length - l.length) _ w h (by omega) (by omega) 62
    have hs1 : ∀ j u, (bcs t)[j]? = some u → w1.cell? (ad.add j) = some u := fun j u hj => by
      have hbk : (ad.add j).block = ad.block := by unfold Addr.add; split <;> rfl
      rw [hz.grown.cell_far _ (by rw [hbk]; exact hlt) (by rw [hbk]; exact Ne.symm hne)]
      exact hs j u hj
    obtain ⟨g, c1, rfl, hnc, w2, hcp, hown, hgr⟩ := main _ _ _ rfl hz.own hs1
    have hpost : PutPost (.slice A l.length cap) l a t w (.returned (.slice (some ⟨g, 0, none⟩) (a + t.length) c1)) w2 := by
      rw [show l.length + (a + t.length - l.length) = a + t.length by omega] at hown hz
      refine ⟨_, rfl, hown, ?_, hz.lies⟩
      refine ⟨hgr.os.trans hz.grown.os, hgr.tape.trans hz.grown.tape, hgr.output.trans hz.grown.output, Nat.le_trans hz.grown.size hgr.size, fun q hq hne => ?_⟩
      refine (hgr.block q (Nat.lt_of_lt_of_le hq hz.grown.size) (fun e => ?_)).trans (hz.grown.block q hq hne)
      rcases hz.lies with h1 | h1
      · exact hne (e.trans h1)
      · have := h1 q e.symm
        omega
    have HP := Lib.hid hpost
    have e1 : ((a + t.length - l.length : Nat) : Int) = (a : Int) + (t.length : Int) - (l.length : Int) := by omega
    have e2 : l.length + (a + t.length - l.length) = a + t.length := by omega
    rw [e1] at hr
    rw [e2] at hr hnc
    have HCP := Lib.hid hcp
    have HR := Lib.hid hr
    have hlt2 : (0 : Int) < (a : Int) + (t.length : Int) - (l.length : Int) := by omega
    have hat : (a : Int) ≤ ((a + t.length : Nat) : Int) := by omega
    have hac : a < c1 := by omega
    clear hpost hz main e1 e2 h hcp hown hgr hA hr ht hs hs1 hne
    go_enter Tryz.func70, Tryz.ntmps70
    go_wp2_with (first | (at_builtin; refine Lib.wpList_append_run _ rfl _ _ _ _ rfl _ _ rfl rfl _ _ HR.out ?_) | (with_reducible refine Lib.wpList_copy_run _ rfl _ _ 62 62 rfl _ _ rfl rfl (HCP.out _ _ _ ?_) ?_; omega))
    go_ret
    exact HP.out
  · obtain ⟨g, c1, hv, hnc, w2, hcp, hown, hgr⟩ := main 0 _ w (by omega) (by simpa using h) hs
    simp only [Nat.add_zero, Value.slice.injEq] at hv hnc
    obtain ⟨rfl, _, rfl⟩ := hv
    have hpost : PutPost (.slice (some ⟨g, 0, none⟩) l.length cap) l a t w (.returned (.slice (some ⟨g, 0, none⟩) l.length cap)) w2 := ⟨_, rfl, hown, hgr, .inl rfl⟩
    have HP := Lib.hid hpost
    have HCP := Lib.hid hcp
    have hlt2 : (a : Int) + (t.length : Int) - (l.length : Int) ≤ 0 := by omega
    have hat : (a : Int) ≤ (l.length : Int) := by omega
    have hac : a < cap := by omega
    clear hpost main h hcp hown hgr hA ht hs hne
    go_enter Tryz.func70, Tryz.ntmps70
    go_wp2_with (with_reducible refine Lib.wpList_copy_run _ rfl _ _ 62 62 rfl _ _ rfl rfl (HCP.out _ _ _ ?_) ?_; omega)
    go_ret
    exact HP.out

/-- what save leaves: the sector's bytes lie in the durable part. -/
def SavePost (L : Lay) (now last : Int → List UInt8) (f : Int) (n : Nat) (w : World) (e : Ending) (w' : World) : Prop :=
  e = .returned (.tuple #[]) ∧ ∃ v', FilesAt w' (L.setRow f true v') now (upd last f (put (last f) (64 * n) (sec (now f) n))) ∧ PFr (FOwn L) w w' ∧ ∀ b, FOwn (L.setRow f true v') b → FOwn L b ∨ w.heap.size ≤ b

theorem save_after {w w1 : World} {L : Lay} {now last : Int → List UInt8} (h : FilesAt w L now last) {f : Int} (hf : Dk.fileOk f) {v' : Value} {X : List UInt8}
    (hown : w1.ownsRow 0 5 1 v' X.length (bcs X)) (hg : w.grownBy w1 (L.rv f true).ownBlock) (hl : v'.ownBlock = (L.rv f true).ownBlock ∨ ∀ b, v'.ownBlock = some b → w.heap.size ≤ b) :
    FilesAt (w1.setCell ⟨L.fb f, 1, none⟩ v') (L.setRow f true v') now (upd last f X) ∧ PFr (FOwn L) w (w1.setCell ⟨L.fb f, 1, none⟩ v') ∧ ∀ b, FOwn (L.setRow f true v') b → FOwn L b ∨ w.heap.size ≤ b := by
  have hfile := h.file f hf
  have hfb : w1.heap[L.fb f]? = some (.cells #[L.rv f false, L.rv f true] 64 (0, 0)) := (hg.block _ (brow_lt hfile) (fun e => other_kind (h.row f true hf) hfile (by decide) e.symm)).trans hfile
  have hblk : ∀ b, b ≠ L.fb f → (w1.setCell ⟨L.fb f, 1, none⟩ v').heap[b]? = w1.heap[b]? := fun b hb => Below.heap_setCell _ _ _ _ (fun e => hb e)
  refine ⟨?_, ?_, ?_⟩
  · have e := h.setRow (w' := w1.setCell ⟨L.fb f, 1, none⟩ v') hf true (v := v') (X := X) ?_ ?_ ?_ hl
    · exact e
    · refine ownKeep hown fun b hb => hblk b fun e => other_kind hown hfb (by decide) (by rw [← e]; exact hb)
    · rw [heap_set hfb]
      simp [Lay.setRow]
    · intro b hb h1 h2
      rw [hblk b h1]
      exact hg.block b hb (fun e => h2 e.symm)
  · refine ⟨hg.os, hg.tape, hg.output, by simp [World.setCell]; exact hg.size, fun k hk hn => ?_⟩
    rw [hblk k (fun e => hn (.inr ⟨f, hf, .inl e⟩))]
    exact hg.block k hk (fun e => hn (.inr ⟨f, hf, .inr ⟨true, e.symm⟩⟩))
  · intro b hb
    rcases hb with hb | ⟨g, hg', hb | ⟨s, hb⟩⟩
    · exact .inl (.inl hb)
    · exact .inl (.inr ⟨g, hg', .inl hb⟩)
    · by_cases c : g = f ∧ s = true
      · rw [show (L.setRow f true v').rv g s = v' by simp [Lay.setRow, c]] at hb
        rcases hl with hl | hl
        · rw [hl] at hb
          exact .inl (.inr ⟨f, hf, .inr ⟨true, hb⟩⟩)
        · exact .inr (hl b hb)
      · rw [show (L.setRow f true v').rv g s = L.rv g s by simp [Lay.setRow, c]] at hb
        exact .inl (.inr ⟨g, hg', .inr ⟨s, hb⟩⟩)

set_option maxRecDepth 100000 in
set_option maxHeartbeats 4000000 in
theorem save_any (L : Lay) (now last : Int → List UInt8) (f : Int) (n : Nat) (w : World) (h : FilesAt w L now last) (hf : Dk.fileOk f) (hn : 64 * n < (now f).length) (hb : (now f).length ≤ 16777216) (hbl : (last f).length ≤ 16777216) :
    Calls Tryz.prog 44 #[.pointer (some ⟨L.fb f, 0, none⟩), .int .i64 (n : Int)] w (SavePost L now last f n w) := by
  obtain ⟨c0, c1, hz⟩ := h.cells hf
  have hz1 := hz 1
  have hr0 : w.ownsRow 0 5 1 (L.rv f false) (now f).length (bcs (now f)) := h.row f false hf
  have hr1 : w.ownsRow 0 5 1 (L.rv f true) (last f).length (bcs (last f)) := h.row f true hf
  have hap := h.apart f false f true
  have HA : Hid (∀ v' X w1, w1.ownsRow 0 5 1 v' X.length (bcs X) → w.grownBy w1 (L.rv f true).ownBlock → (v'.ownBlock = (L.rv f true).ownBlock ∨ ∀ b, v'.ownBlock = some b → w.heap.size ≤ b) →
    FilesAt (w1.setCell ⟨L.fb f, 1, none⟩ v') (L.setRow f true v') now (upd last f X) ∧ PFr (FOwn L) w (w1.setCell ⟨L.fb f, 1, none⟩ v') ∧ ∀ b, FOwn (L.setRow f true v') b → FOwn L b ∨ w.heap.size ≤ b) := Lib.hid fun v' X w1 h1 h2 h3 => save_after h hf h1 h2 h3
  have hfl : L.fb f < w.heap.size := brow_lt (h.file f hf)
  have hfne : (L.rv f true).ownBlock ≠ some (L.fb f) := other_kind (h.row f true hf) (h.file f hf) (by decide)
  rcases hr0.2 with ⟨_, h0⟩ | ⟨g, cap, cur, hv, _, hg, hnc, hcm, hcs, htake⟩
  · omega
  · have hcell : ∀ j u, (bcs (sec (now f) n))[j]? = some u → w.cell? ((⟨g, 64 * n, none⟩ : Addr).add j) = some u := by
      intro j u hj
      have hjl : j < (sec (now f) n).length := by simpa [bcs] using (List.getElem?_eq_some_iff.1 hj).1
      rw [sec_length] at hjl
      have h1 := hr0.cells (g := g) (by rw [hv]; rfl) (64 * n + j) u ?_
      · rw [Addr.add_lit] at h1 ⊢
        rw [Nat.zero_add] at h1
        exact h1
      · rw [← hj, bcs, bcs, List.getElem?_map, List.getElem?_map, sec, List.getElem?_take, if_pos (by omega), List.getElem?_drop]
    have hgne : (L.rv f true).ownBlock ≠ some g := fun e => by
      have := hap g hf hf (by rw [hv]; rfl) e
      exact absurd this.2 (by decide)
    have hsl : (sec (now f) n).length = min 64 ((now f).length - 64 * n) := sec_length _ _
    have hsn : sec (now f) n ≠ [] := fun e => by
      rw [e] at hsl
      simp at hsl; omega
    obtain ⟨A1, cap1, hv1, _⟩ := own_parts hr1
    obtain ⟨fr, hfr⟩ : ∃ fr : Nat, fr = 64 * n := ⟨_, rfl⟩
    obtain ⟨to, hto⟩ : ∃ to : Nat, to = min (64 * n + 64) (now f).length := ⟨_, rfl⟩
    have hsl2 : (sec (now f) n).length = to - fr := by
      rw [hsl, hto, hfr]
      by_cases c : 64 * n + 64 ≤ (now f).length
      · rw [Nat.min_eq_left (by omega), Nat.min_eq_left c]; omega
      · rw [Nat.min_eq_right (by omega), Nat.min_eq_right (by omega)]
    have hput : ∀ W : World, Below w.heap.size w W → W.heap.size = w.heap.size → ∀ c, Calls Tryz.prog 70 #[.slice A1 (last f).length cap1, .int .i64 (fr : Int), .slice (some ⟨g, fr, none⟩) (to - fr) c] W (PutPost (.slice A1 (last f).length cap1) (last f) fr (sec (now f) n) W) := by
      intro W hW hWs c
      have := putB_any (L.rv f true) (last f) (64 * n) ⟨g, 64 * n, none⟩ c (sec (now f) n) W (ownKeep hr1 fun b hb => hW.block b (by obtain ⟨c2, h2⟩ := ownKind hr1 hb; exact brow_lt h2)) hsn (by omega) (by omega) (fun j u hj => by
        have hbk : ((⟨g, 64 * n, none⟩ : Addr).add j).block = g := by unfold Addr.add; split <;> rfl
        rw [hW.cell (by rw [hbk]; exact brow_lt hg)]
        exact hcell j u hj) (by rw [hWs]; exact brow_lt hg) hgne
      rw [hv1, hsl2, ← hfr] at this
      exact this
    have HPUT := Lib.hid hput
    have hX : put (last f) (64 * n) (sec (now f) n) = put (last f) fr (sec (now f) n) := by rw [hfr]
    have HX := Lib.hid hX
    rw [hv] at c0
    rw [hv1] at c1
    have HV1 := Lib.hid hv1
    have e1 : (n : Int) * 64 = ((fr : Nat) : Int) := by omega
    have e2 : min ((fr : Int) + 64) ((now f).length : Int) = ((to : Nat) : Int) := by omega
    have hft : (fr : Int) < (to : Int) := by omega
    have htc : (to : Int) ≤ (cap : Int) := by omega
    have hfc : (fr : Int) ≤ (to : Int) := by omega
    have htl : (to : Int) ≤ ((now f).length : Int) := by omega
    have hf0 : (0 : Int) ≤ (fr : Int) := by omega
    have hsm : (to : Int) ≤ 16777216 := by omega
    have hns : (n : Int) ≤ 16777216 := by omega
    have hfs : (fr : Int) ≤ 16777216 := by omega
    have hg0 : g < w.heap.size := brow_lt hg
    have hcf : ¬ cap = fr := by omega
    have HK : Hid (∀ w4 : World, w.drew.grownBy w4 (Value.slice A1 (last f).length cap1).ownBlock → w4.cell? ⟨L.fb f, 0, none⟩ = some (.slice (some ⟨g, 0, none⟩) (now f).length cap) ∧ w4.cell? ⟨L.fb f, 1, none⟩ = some (.slice A1 (last f).length cap1) ∧ w4.frozen? ⟨L.fb f, 1, none⟩ = false) := Lib.hid fun w4 hgr => by
      rw [hv1] at hfne
      have hblk := hgr.block (L.fb f) hfl (fun e => hfne e.symm)
      rw [hgr.cell_far ⟨L.fb f, 0, none⟩ hfl (fun e => hfne e.symm), hgr.cell_far ⟨L.fb f, 1, none⟩ hfl (fun e => hfne e.symm)]
      refine ⟨c0, c1, ?_⟩
      have h2 : w4.heap[L.fb f]? = w.heap[L.fb f]? := hblk
      rw [h.file f hf] at h2
      exact Lib.frozen_of_heap h2 1
    have E1 := Lib.hid e1
    have E2 := Lib.hid e2
    clear hcell hap hr0 hr1 hz h htake hcs hg hcm hput hX hsl hsl2 hsn hgne e1 e2 hfr hto hv hv1 hn
    generalize (now f).length = len at *
    generalize (last f).length = len1 at *
    go_enter Tryz.func44, Tryz.ntmps44
    go_wp2
    simp only [E1.out, E2.out]
    go_region_law (first | (go_simp; go_at_call 70; (with_reducible refine (HPUT.out w.drew ⟨rfl, rfl, rfl, Nat.le_refl _, fun _ _ => rfl⟩ rfl _).mono ?_); rintro e w4 ⟨v', rfl, hown, hgr, hlies⟩; obtain ⟨A2, cap2, rfl, _⟩ := own_parts hown; obtain ⟨k40, k41, k42⟩ := HK.out w4 hgr; have HO := Lib.hid hown; have HG := Lib.hid hgr; have HL := Lib.hid hlies; clear hown hgr hlies))
    all_goals
      refine bodyPost_end (results_none rfl _ _ _) rfl ?_
      rw [SavePost, HX.out]
      exact ⟨rfl, _, HA.out _ _ w4 HO.out (by rw [HV1.out]; exact ⟨HG.out.os, HG.out.tape, HG.out.output, HG.out.size, HG.out.block⟩) (by rw [HV1.out]; exact HL.out)⟩

end Go.Proofs.YtbpkcgkcamkggaaGreatDoor
namespace Go.Proofs.YtbpkcgkcamkggaaGreatDoor
open Go.RowKit

/-- an append to the list of pending sectors touches nothing else. -/
theorem PRaw.grownQ {r : Nat} {L : Lay} {d : Dk} {S : List (Int × Nat)} {w w1 : World} (h : PRaw r L d S w) {n : Nat} {xs : List Value} (hq : w.ownsRow 0 80 2 L.qv n xs) (hg : w.grownBy w1 L.qv.ownBlock) : PRaw r L d S w1 := by
  refine h.kept fun b hb => hg.block b (h.own_lt hb) (fun e => ?_)
  rcases hb with rfl | rfl | hb | hb
  · exact other_kind hq h.cell (by decide) e.symm
  · obtain ⟨es, c, hm⟩ := h.set.isMap
    exact other_map hq hm e.symm
  · rcases h.files.kind hb with ⟨es, c, hm⟩ | ⟨c, hm⟩ | ⟨c, hm⟩
    · exact other_map hq hm e.symm
    · exact other_kind hq hm (by decide) e.symm
    · exact other_kind hq hm (by decide) e.symm
  · obtain ⟨c, hm⟩ := ownKind h.keep hb
    exact other_kind hq hm (by decide) e.symm

theorem PRaw.queued {r : Nat} {L : Lay} {d : Dk} {q : List (Int × Nat)} {w w1 : World} (h : PRaw r L d q w) {n n' : Nat} {xs : List Value} (hq : w.ownsRow 0 80 2 L.qv n xs) (hg : w.grownBy w1 L.qv.ownBlock) {v' : Value}
    (hn : n' = q.length) (hown : w1.ownsRow 0 80 2 v' n' (qcells q)) (hl : ∀ b, v'.ownBlock = some b → L.qv.ownBlock = some b ∨ w.heap.size ≤ b) :
    PAt r { L with qv := v' } { d with q := q } (w1.setCell ⟨r, 1, none⟩ v') ∧ PStep r L { L with qv := v' } w (w1.setCell ⟨r, 1, none⟩ v') := by
  subst hn
  have h1 := h.grownQ hq hg
  refine ⟨⟨h1.store (L' := { L with qv := v' }) (d' := { d with q := q }) 1 v' rfl rfl rfl rfl rfl rfl h1.set h1.keep h1.ne, ?_⟩, ?_⟩
  · exact ownKeep hown fun b hb => Below.heap_setCell _ _ _ _ (fun e => other_kind hown h1.cell (by decide) (by rw [hb, e]))
  · refine ⟨⟨hg.os, hg.tape, hg.output, by simp [World.setCell]; exact hg.size, fun k hk hn => ?_⟩, fun b hb => ?_, fun b hb => .inl hb⟩
    · rw [Below.heap_setCell _ _ _ _ (fun e => hn (.inl e))]
      exact hg.block k hk (fun e => hn (.inr (.inr (.inl e.symm))))
    · rcases hb with hb | hb | hb | hb
      · exact .inl (.inl hb)
      · exact .inl (.inr (.inl hb))
      · rcases hl b hb with h2 | h2
        · exact .inl (.inr (.inr (.inl h2)))
        · exact .inr h2
      · exact .inl (.inr (.inr (.inr hb)))

/-- a store into the set touches nothing else. -/
theorem PRaw.turned {r : Nat} {L : Lay} {d : Dk} {S S' : List (Int × Nat)} {w w1 : World} (h : PRaw r L d S w) (ht : w.mapTurned w1 L.l) (hs : LMap w1 L.l S') : PRaw r L d S' w1 := by
  have hg := ht.grown
  obtain ⟨es, c, hml⟩ := h.set.isMap
  have hk : ∀ b, b = r ∨ FOwn L b ∨ L.kv.ownBlock = some b → w1.heap[b]? = w.heap[b]? := fun b hb => by
    refine hg.block b (h.own_lt (by rcases hb with hb | hb | hb; exact .inl hb; exact .inr (.inr (.inl hb)); exact .inr (.inr (.inr hb)))) (fun e => ?_)
    injection e with e
    subst e
    rcases hb with hb | hb | hb
    · exact h.rset hb
    · rcases hb with hb | ⟨f, hf, hb | ⟨s, hb⟩⟩
      · exact h.ne hb.symm
      · rw [hb, h.files.file f hf] at hml; cases hml
      · exact other_map (h.files.row f s hf) hml hb
    · exact other_map h.keep hml hb
  exact ⟨(hk r (.inl rfl)).trans h.cell, h.files.keep fun b hb => hk b (.inr (.inl hb)), hs, ownKeep h.keep fun b hb => hk b (.inr (.inr hb)), h.ne⟩

/-- what mark leaves. -/
def MarkPost (r : Nat) (L : Lay) (d : Dk) (x : Int × Nat) (w : World) (e : Ending) (w' : World) : Prop :=
  e = .returned (.tuple #[]) ∧ ∃ L', PAt r L' { d with q := addSec d.q x.1 x.2 } w' ∧ PStep r L L' w w' ∧ L'.fb = L.fb

set_option maxRecDepth 100000 in
set_option maxHeartbeats 4000000 in
theorem mark_any (r : Nat) (L : Lay) (d : Dk) (f : Int) (n : Nat) (w : World) (h : PAt r L d w) (hx : SecOk (f, n)) (hq : d.q.length ≤ 1099511627776) :
    Calls Tryz.prog 74 #[.pointer (some ⟨r, 0, none⟩), .agg #[.int .i64 f, .int .i64 (n : Int)]] w (MarkPost r L d (f, n) w) := by
  obtain ⟨W1, hW1⟩ : ∃ W1, W1 = w.alloc (.cells #[.int .i64 f, .int .i64 (n : Int)] 80) := ⟨_, rfl⟩
  have hbel : Below w.heap.size w W1 := by rw [hW1]; exact (Below.refl _ _).alloc (Nat.le_refl _) _
  have h1 := h.below hbel
  have hrl := h.raw.lt
  have hbox : W1.heap[w.heap.size]? = some (.cells #[.int .i64 f, .int .i64 (n : Int)] 80 (0, 0)) := by rw [hW1]; exact heap_alloc_new w _
  have b0 : W1.cell? ⟨w.heap.size, 0, none⟩ = some (.int .i64 f) := by rw [Lib.cell_of_heap hbox]; rfl
  have b1 : W1.cell? ⟨w.heap.size, 1, none⟩ = some (.int .i64 (n : Int)) := by rw [Lib.cell_of_heap hbox]; rfl
  obtain ⟨c0, c1, c2, _, _, _, _, hz⟩ := h1.raw.cells
  have hlook : ∀ m, (Instr.lookup 57 (.map (some L.l)) (.agg #[.int .i64 f, .int .i64 (n : Int)]) false).run Tryz.prog (W1.drewN m) = .ok (.bool (decide ((f, n) ∈ d.q))) (W1.drewN m) := fun m => (h1.raw.set.kept (w' := W1.drewN m) rfl).look hx
  have HBOX := Lib.hid hbox
  have H1 := Lib.hid h1
  have HB := Lib.hid hbel
  have HW := Lib.hid hW1
  clear hbox h1 hbel hW1 hz h
  go_enter Tryz.func74, Tryz.ntmps74
  go_wp2
  rw [← HW.out]
  by_cases hin : (f, n) ∈ d.q
  · rw [decide_eq_true hin] at hlook
    have HIN := Lib.hid hin
    clear hin
    go_quiet (fail)
    go_wp2
    refine bodyPost_end (results_none rfl _ _ _) rfl ?_
    refine ⟨rfl, L, ?_, ?_, rfl⟩
    · rw [show addSec d.q (f, n).1 (f, n).2 = d.q by unfold addSec; rw [if_pos HIN.out]]
      exact H1.out.kept fun b _ => rfl
    · exact PStep.of_below (HB.out.trans ⟨rfl, rfl, rfl, Nat.le_refl _, fun _ _ => rfl⟩)
  · rw [decide_eq_false hin] at hlook
    have HIN := Lib.hid hin
    clear hin
    go_quiet (fail)
    rename_i nq
    clear hlook
    have H2 : Hid (PAt r L d (W1.drewN nq)) := Lib.hid (H1.out.kept fun b _ => rfl)
    have HB2 : Hid (Below w.heap.size w (W1.drewN nq)) := Lib.hid (HB.out.trans ⟨rfl, rfl, rfl, Nat.le_refl _, fun _ _ => rfl⟩)
    have HBOX2 : Hid ((W1.drewN nq).heap[w.heap.size]? = some (.cells #[.int .i64 f, .int .i64 (n : Int)] 80 (0, 0))) := Lib.hid HBOX.out
    clear H1 HB HBOX HW b0 b1 c0 c1 c2
    generalize W1.drewN nq = W2 at *
    obtain ⟨c0, c1, c2, _, _, _, _, hz⟩ := H2.out.raw.cells
    have b0 : W2.cell? ⟨w.heap.size, 0, none⟩ = some (.int .i64 f) := by rw [Lib.cell_of_heap HBOX2.out]; rfl
    have b1 : W2.cell? ⟨w.heap.size, 1, none⟩ = some (.int .i64 (n : Int)) := by rw [Lib.cell_of_heap HBOX2.out]; rfl
    obtain ⟨W3, hadd, hset, hturn⟩ := (H2.out.raw.set.kept (w' := W2.drew) rfl).add hx HIN.out (by omega)
    clear hz
    go_wp2
    go_region
    obtain ⟨i0, hi0, hz0, hz1, hz2⟩ := info_parts infoSec
    have hq3 : W3.ownsRow 0 80 2 L.qv d.q.length (qcells d.q) := ownKeep H2.out.queue fun b hb => hturn.grown.block b (H2.out.own_lt (.inl (.inr (.inr (.inl hb))))) (fun e => by
      injection e with e
      obtain ⟨es, c, hm⟩ := H2.out.raw.set.isMap
      exact other_map H2.out.queue hm (by rw [hb, e]))
    have h3 : PRaw r L d (d.q ++ [(f, n)]) W3 := (H2.out.raw.kept (w' := W2.drew) fun b _ => rfl).turned hturn hset
    have hbox3 : W3.heap[w.heap.size]? = some (.cells #[.int .i64 f, .int .i64 (n : Int)] 80 (0, 0)) := (hturn.grown.block _ (brow_lt HBOX2.out) (fun e => by
      injection e with e
      obtain ⟨es, c, hm⟩ := H2.out.raw.set.isMap
      rw [← e, HBOX2.out] at hm; cases hm)).trans HBOX2.out
    obtain ⟨_, d1, _, _, _, _, _, dz⟩ := h3.cells
    have d3 : W3.cell? ⟨w.heap.size, 0, none⟩ = some (.int .i64 f) := by rw [Lib.cell_of_heap hbox3]; rfl
    have d4 : W3.cell? ⟨w.heap.size, 1, none⟩ = some (.int .i64 (n : Int)) := by rw [Lib.cell_of_heap hbox3]; rfl
    have dz1 := dz 1
    have hrlt := h3.lt
    have hrq : L.qv.ownBlock ≠ some r := other_kind hq3 h3.cell (by decide)
    have HST : Hid (PStep r L L w W3) := Lib.hid ((PStep.of_below (r := r) (L := L) HB2.out).trans ⟨PFr.of_grown (w := W2) (w' := W3) (row := some L.l) ⟨hturn.grown.os, hturn.grown.tape, hturn.grown.output, hturn.grown.size, hturn.grown.block⟩ (fun b e => by injection e with e; exact .inr (.inl e.symm)), fun _ h => .inl h, fun _ h => .inl h⟩)
    have HK : Hid (∀ w4, (W3.alloc (.cells #[.int .i64 f, .int .i64 (n : Int)] 80)).grownBy w4 L.qv.ownBlock → w4.cell? ⟨r, 1, none⟩ = some L.qv ∧ w4.frozen? ⟨r, 1, none⟩ = false) := Lib.hid fun w4 hg => by
      have hb := (hg.block r (by simp; omega) (fun e => hrq e.symm)).trans (heap_alloc_old W3 _ hrlt)
      rw [h3.cell] at hb
      exact ⟨by rw [Lib.cell_of_heap hb]; rfl, Lib.frozen_of_heap hb 1⟩
    have HE : Hid (∀ w4 gg cg, (W3.alloc (.cells #[.int .i64 f, .int .i64 (n : Int)] 80)).grownBy w4 L.qv.ownBlock → w4.ownsRow 0 80 2 (.slice (some ⟨gg, 0, none⟩) (d.q.length + 1) cg) (d.q.length + 1) (qcells d.q ++ [.int .i64 f, .int .i64 (n : Int)]) → (L.qv.ownBlock = some gg ∨ gg = W3.heap.size + 1) →
        MarkPost r L d (f, n) w (.returned (.tuple #[])) (w4.setCell ⟨r, 1, none⟩ (.slice (some ⟨gg, 0, none⟩) (d.q.length + 1) cg))) := Lib.hid fun w4 gg cg hg hown hl => by
      have ha : Below W3.heap.size W3 (W3.alloc (.cells #[.int .i64 f, .int .i64 (n : Int)] 80)) := (Below.refl _ _).alloc (Nat.le_refl _) _
      have e : qcells d.q ++ [.int .i64 f, .int .i64 (n : Int)] = qcells (d.q ++ [(f, n)]) := by simp [qcells]
      rw [e] at hown
      have := (h3.below ha).queued (hq3.alloc _) hg (by simp) hown (fun b hb => by
        simp only [Value.ownBlock, Option.some.injEq] at hb
        rcases hl with hl | hl
        · left; rw [hl, hb]
        · right; simp; omega)
      refine ⟨rfl, _, ?_, HST.out.trans ((PStep.of_below ha).trans this.2), rfl⟩
      rw [show addSec d.q (f, n).1 (f, n).2 = d.q ++ [(f, n)] by unfold addSec; rw [if_neg HIN.out]]
      exact this.1
    have HQ3 := Lib.hid hq3
    have hbn : d.q.length + 1 ≤ maxLen := by unfold maxLen; omega
    have hbm : (d.q.length + 1) * 16 ≤ 140737488355328 := by omega
    clear hq3 h3 hbox3 dz HST hset hturn hadd H2 HB2 HBOX2 HIN hrq b0 b1 c0 c1 c2
    go_wp2
    go_region_law (first | (refine step_append_lies _ (by rfl) _ _ _ (by rfl) 0 80 i0 _ 2 16 Tryz.underlying58 hi0 hz0 hz1 hz2 rfl (by omega) L.qv d.q.length (qcells d.q) (by rfl) ((HQ3.out.alloc _).drew) ⟨W3.heap.size, 0, none⟩ 1 1 [.int .i64 f, .int .i64 (n : Int)] (by rfl) (by rfl) (World.news_of_block (cs := #[.int .i64 f, .int .i64 (n : Int)]) (t := 80) (fr := (0, 0)) (heap_alloc_new W3 _)) (by simp [Value.oneCell']) (by omega) hbn hbm (by simp) (W3.heap.size + 1) (by simp) ?_; intro gg cg w4 hown4 hgrow hat hlt; obtain ⟨k41, k42⟩ := HK.out w4 ⟨hgrow.os, hgrow.tape, hgrow.output, hgrow.size, hgrow.block⟩; have HP := Lib.hid (HE.out w4 gg cg ⟨hgrow.os, hgrow.tape, hgrow.output, hgrow.size, hgrow.block⟩ hown4 hat); clear hown4 hgrow hat))
    all_goals (refine bodyPost_end (results_none rfl _ _ _) rfl ?_; exact HP.out)

end Go.Proofs.YtbpkcgkcamkggaaGreatDoor
namespace Go.Proofs.YtbpkcgkcamkggaaGreatDoor
open Go.RowKit

/-- sectors become pending one after the other. -/
theorem marks_snoc (f : Int) (c : Nat) : ∀ (q : List (Int × Nat)) (n : Nat), addSecs q f n (c + 1) = addSec (addSecs q f n c) f (n + c) := by
  induction c with
  | zero => intro q n; rfl
  | succ c ih =>
    intro q n
    rw [addSecs, ih, addSecs]
    congr 1
    omega
theorem marks_len (f : Int) (c : Nat) : ∀ (q : List (Int × Nat)) (n : Nat), (addSecs q f n c).length ≤ q.length + c := by
  induction c with
  | zero => intro q n; exact Nat.le_refl _
  | succ c ih =>
    intro q n
    have h1 := ih (addSec q f n) (n + 1)
    have h2 : (addSec q f n).length ≤ q.length + 1 := by
      unfold addSec; split
      · omega
      · simp
    rw [addSecs]; omega

/-- a step that writes a file's bytes. -/
theorem PRaw.wrote {r : Nat} {L : Lay} {d : Dk} {S : List (Int × Nat)} {w w1 : World} (h : PRaw r L d S w) {n : Nat} {xs : List Value} (hq : w.ownsRow 0 80 2 L.qv n xs) {f : Int} (hf : Dk.fileOk f) (s : Bool) {v' : Value} {X : List UInt8}
    (hown : w1.ownsRow 0 5 1 v' X.length (bcs X)) (hg : w.grownBy w1 (L.rv f s).ownBlock) (hl : v'.ownBlock = (L.rv f s).ownBlock ∨ ∀ b, v'.ownBlock = some b → w.heap.size ≤ b) (i : Nat) (hi : i = if s then 1 else 0) :
    PRaw r (L.setRow f s v') { d with now := setSide d.now f (!s) X, last := setSide d.last f s X } S (w1.setCell ⟨L.fb f, i, none⟩ v') ∧ PStep r L (L.setRow f s v') w (w1.setCell ⟨L.fb f, i, none⟩ v')
      ∧ (w1.setCell ⟨L.fb f, i, none⟩ v').ownsRow 0 80 2 L.qv n xs := by
  subst hi
  have hfile := h.files.file f hf
  have hrow := h.files.row f s hf
  have hfb : w1.heap[L.fb f]? = some (.cells #[L.rv f false, L.rv f true] 64 (0, 0)) := (hg.block _ (brow_lt hfile) (fun e => other_kind hrow hfile (by decide) e.symm)).trans hfile
  have hblk : ∀ b, b ≠ L.fb f → (w1.setCell ⟨L.fb f, if s then 1 else 0, none⟩ v').heap[b]? = w1.heap[b]? := fun b hb => Below.heap_setCell _ _ _ _ (fun e => hb e)
  have hother : ∀ b, b < w.heap.size → b ≠ L.fb f → (L.rv f s).ownBlock ≠ some b → (w1.setCell ⟨L.fb f, if s then 1 else 0, none⟩ v').heap[b]? = w.heap[b]? := fun b hb h1 h2 => (hblk b h1).trans (hg.block b hb (fun e => h2 e.symm))
  have kr : r ≠ L.fb f := fun e => h.rfree (.inr ⟨f, hf, .inl e⟩)
  have kr2 : (L.rv f s).ownBlock ≠ some r := fun e => h.rfree (.inr ⟨f, hf, .inr ⟨s, e⟩⟩)
  obtain ⟨es, c, hml⟩ := h.set.isMap
  have kl : L.l ≠ L.fb f := fun e => by rw [e, hfile] at hml; cases hml
  have kl2 : (L.rv f s).ownBlock ≠ some L.l := other_map hrow hml
  refine ⟨⟨(hother r h.lt kr kr2).trans h.cell, ?_, h.set.kept (hother _ h.set.lt kl kl2), ?_, h.ne⟩, ⟨⟨hg.os, hg.tape, hg.output, by simp [World.setCell]; exact hg.size, fun k hk hn => ?_⟩, ?_, fun b hb => .inl hb⟩, ?_⟩
  · refine h.files.setRow hf s ?_ ?_ (fun b hb h1 h2 => hother b hb h1 h2) hl
    · exact ownKeep hown fun b hb => hblk b fun e => other_kind hown hfb (by decide) (by rw [← e]; exact hb)
    · rw [heap_set hfb]
      cases s <;> simp [Lay.setRow]
  · refine ownKeep h.keep fun b hb => ?_
    obtain ⟨c2, hc2⟩ := ownKind h.keep hb
    refine hother b (brow_lt hc2) (fun e => ?_) (other_kind hrow hc2 (by decide))
    exact other_kind h.keep hfile (by decide) (by rw [← e]; exact hb)
  · exact hother k hk (fun e => hn (.inr (.inr (.inr (.inr ⟨f, hf, .inl e⟩))))) (fun e => hn (.inr (.inr (.inr (.inr ⟨f, hf, .inr ⟨s, e⟩⟩)))))
  · intro b hb
    rcases hb with hb | hb | hb | hb
    · exact .inl (.inl hb)
    · exact .inl (.inr (.inl hb))
    · exact .inl (.inr (.inr (.inl hb)))
    · rcases hb with hb | ⟨g, hg', hb | ⟨t, hb⟩⟩
      · exact .inl (.inr (.inr (.inr (.inl hb))))
      · exact .inl (.inr (.inr (.inr (.inr ⟨g, hg', .inl hb⟩))))
      · by_cases c : g = f ∧ t = s
        · rw [show (L.setRow f s v').rv g t = v' by simp [Lay.setRow, c]] at hb
          rcases hl with hl | hl
          · rw [hl] at hb
            exact .inl (.inr (.inr (.inr (.inr ⟨f, hf, .inr ⟨s, hb⟩⟩))))
          · exact .inr (hl b hb)
        · rw [show (L.setRow f s v').rv g t = L.rv g t by simp [Lay.setRow, c]] at hb
          exact .inl (.inr (.inr (.inr (.inr ⟨g, hg', .inr ⟨t, hb⟩⟩))))
  · refine ownKeep hq fun b hb => ?_
    obtain ⟨c2, hc2⟩ := ownKind hq hb
    refine hother b (brow_lt hc2) (fun e => ?_) (other_kind hrow hc2 (by decide))
    exact other_kind hq hfile (by decide) (by rw [← e]; exact hb)

/-- what a method leaves: a result, and the disk d'. -/
def Left (r : Nat) (L : Lay) (d' : Dk) (res : Value) (w : World) (e : Ending) (w' : World) : Prop :=
  e = .returned res ∧ ∃ L', PAt r L' d' w' ∧ PStep r L L' w w' ∧ L'.fb = L.fb

theorem left_same {r : Nat} {L : Lay} {d : Dk} {res : Value} {w : World} (h : PAt r L d w) : Left r L d res w (.returned res) w := ⟨rfl, L, h, PStep.refl _ _ _, rfl⟩

/-- c sectors from lo on have become pending. -/
def MarksPost (r : Nat) (L : Lay) (d : Dk) (f : Int) (X : List UInt8) (lo c : Nat) (w wr : World) : Prop :=
  ∃ L', PAt r L' { d with now := upd d.now f X, q := addSecs d.q f lo c } wr ∧ PStep r L L' w wr ∧ L'.fb = L.fb

set_option maxRecDepth 100000 in
set_option maxHeartbeats 4000000 in
theorem write_any (r : Nat) (L : Lay) (d : Dk) (f a : Int) (s : ByteArray) (w : World) (h : PAt r L d w) (ho : Dk.Ok d) (hf64 : In64 f) (ha64 : In64 a) (hs : s.size ≤ 16777216) (hq : d.q.length ≤ 549755813888) :
    Calls Tryz.prog 51 #[.pointer (some ⟨r, 0, none⟩), .int .i64 f, .int .i64 a, .string s] w (Left r L (d.write0 f a s.data.toList).1 (.int .i64 (d.write0 f a s.data.toList).2) w) := by
  obtain ⟨c0, _⟩ := h.raw.cells
  have hsl : s.data.toList.length = s.size := Array.length_toList
  by_cases hf : Dk.fileOk f
  · have hl := h.raw.files.map.look_ok hf
    have hl0 := hl
    by_cases ha : a < 0
    · have HX : Hid (Left r L (d.write0 f a s.data.toList).1 (.int .i64 (d.write0 f a s.data.toList).2) w (.returned (.int .i64 1)) w) := Lib.hid (by
        unfold Dk.write0
        rw [if_neg (Decidable.not_not.mpr hf), if_pos ha]
        exact left_same h)
      clear h ho hf
      go_enter Tryz.func51, Tryz.ntmps51
      go_wp2
      go_ret
      exact HX.out
    · have ha0 : 0 ≤ a := by omega
      obtain ⟨a0, a1⟩ := ha64
      by_cases hfull : 16777216 < a + s.size
      · have HX : Hid (Left r L (d.write0 f a s.data.toList).1 (.int .i64 (d.write0 f a s.data.toList).2) w (.returned (.int .i64 6)) w) := Lib.hid (by
          unfold Dk.write0
          rw [if_neg (Decidable.not_not.mpr hf), if_neg ha, if_pos (by rw [hsl]; exact hfull)]
          exact left_same h)
        have hlt : (16777216 : Int) - (s.size : Int) < a := by omega
        clear h ho hf
        go_enter Tryz.func51, Tryz.ntmps51
        go_wp2
        go_ret
        exact HX.out
      · have hlt : a ≤ (16777216 : Int) - (s.size : Int) := by omega
        by_cases h0 : s = ⟨#[]⟩
        · subst h0
          have HX : Hid (Left r L (d.write0 f a (⟨#[]⟩ : ByteArray).data.toList).1 (.int .i64 (d.write0 f a (⟨#[]⟩ : ByteArray).data.toList).2) w (.returned (.int .i64 0)) w) := Lib.hid (by
            unfold Dk.write0
            rw [if_neg (Decidable.not_not.mpr hf), if_neg ha, if_neg (by rw [hsl]; exact hfull), Dk.add, if_pos rfl]
            exact left_same h)
          have hlt0 : a ≤ 16777216 := by
            have e : (⟨#[]⟩ : ByteArray).size = 0 := rfl
            rw [e] at hlt; omega
          clear h ho hf hlt hfull hs hsl
          go_enter Tryz.func51, Tryz.ntmps51
          go_wp2
          go_ret
          exact HX.out
        · obtain ⟨an, rfl⟩ : ∃ an : Nat, a = (an : Int) := ⟨a.toNat, by omega⟩
          have htn : s.data.toList ≠ [] := fun e => h0 (by
            obtain ⟨dd⟩ := s
            simp only [Array.toList_eq_nil_iff] at e
            rw [e])
          have hs1 : 0 < s.size := by rw [← hsl]; exact List.length_pos_iff.mpr htn
          have hem : s.toList.isEmpty = false := by
            rw [ByteArray.toList_eq]
            cases e : s.data.toList with
            | nil => exact absurd e htn
            | cons c r => rfl
          obtain ⟨k0, _, kz⟩ := h.raw.files.cells hf
          have kz0 := kz 0
          have hrow : w.ownsRow 0 5 1 (L.rv f false) (d.now f).length (bcs (d.now f)) := h.raw.files.row f false hf
          have hbig := ho.big f
          have HPUT := Lib.hid (putS_any (L.rv f false) (d.now f) an s w hrow htn (by omega) (by omega))
          have hpl : (put (d.now f) an s.data.toList).length ≤ 16777216 := by rw [put_length htn, hsl]; omega
          obtain ⟨X, hX⟩ : ∃ X, X = put (d.now f) an s.data.toList := ⟨_, rfl⟩
          have HW : Hid (∀ w1 v', w1.ownsRow 0 5 1 v' X.length (bcs X) → w.grownBy w1 (L.rv f false).ownBlock → (v'.ownBlock = (L.rv f false).ownBlock ∨ ∀ b, v'.ownBlock = some b → w.heap.size ≤ b) →
              ∃ L1, PAt r L1 { d with now := upd d.now f X } (w1.setCell ⟨L.fb f, 0, none⟩ v') ∧ PStep r L L1 w (w1.setCell ⟨L.fb f, 0, none⟩ v') ∧ L1.fb = L.fb) := Lib.hid fun w1 v' h1 h2 h3 => by
            obtain ⟨g1, g2, g3⟩ := h.raw.wrote h.queue hf false h1 h2 h3 0 rfl
            exact ⟨_, ⟨g1, g3⟩, g2, rfl⟩
          have hfile := h.raw.files.file f hf
          have HKC : Hid (∀ w1, w.grownBy w1 (L.rv f false).ownBlock → w1.cell? ⟨L.fb f, 0, none⟩ = some (L.rv f false) ∧ w1.frozen? ⟨L.fb f, 0, none⟩ = false) := Lib.hid fun w1 hg => by
            have hb := (hg.block _ (brow_lt hfile) (fun e => other_kind hrow hfile (by decide) e.symm)).trans hfile
            exact ⟨by rw [Lib.cell_of_heap hb]; rfl, Lib.frozen_of_heap hb 0⟩
          obtain ⟨lo, hlo⟩ : ∃ lo, lo = an / 64 := ⟨_, rfl⟩
          obtain ⟨hi, hhi⟩ : ∃ hi, hi = (an + s.size - 1) / 64 := ⟨_, rfl⟩
          have HO : Hid ((d.write0 f (an : Int) s.data.toList) = ({ d with now := upd d.now f X, q := addSecs d.q f lo (hi + 1 - lo) }, 0)) := Lib.hid (by
            unfold Dk.write0
            rw [if_neg (Decidable.not_not.mpr hf), if_neg ha, if_neg (by rw [hsl]; exact hfull), Dk.add, if_neg htn, hX, hlo, hhi, hsl]
            rfl)
          have HL : Hid (∀ c, (addSecs d.q f lo c).length ≤ d.q.length + c) := Lib.hid (fun c => marks_len f c d.q lo)
          have HN : Hid (∀ c, addSecs d.q f lo (c + 1) = addSec (addSecs d.q f lo c) f (lo + c)) := Lib.hid (fun c => marks_snoc f c d.q lo)
          have hdv : (an : Int) / 64 = (lo : Int) := by omega
          have hdv2 : ((an : Int) + (s.size : Int) - 1) / 64 = (hi : Int) := by omega
          have hps : (0 : Int) ≤ (an : Int) + (s.size : Int) - 1 := by omega
          have hlh : lo ≤ hi := by omega
          have hh2 : hi ≤ 262144 := by omega
          have hps2 : (an : Int) + (s.size : Int) - 1 ≤ 33554432 := by omega
          have han : (an : Int) ≤ 16777216 := by omega
          rw [← hX] at hpl
          have HXE := Lib.hid hX.symm
          clear h ho hrow htn kz hX hlo hhi hfile hsl hfull hs hbig hl0
          go_enter Tryz.func51, Tryz.ntmps51
          go_wp2_with fail
          refine HPUT.out.mono ?_
          rintro e w1 ⟨v', rfl, hown, hgr, hlies⟩
          rw [HXE.out] at hown
          obtain ⟨A2, cap2, rfl, _⟩ := own_parts hown
          obtain ⟨k41, k42⟩ := HKC.out w1 hgr
          obtain ⟨L1, p1, s1, e1⟩ := HW.out w1 _ hown hgr hlies
          have P1 := Lib.hid p1
          have S1 := Lib.hid s1
          have E1 := Lib.hid e1
          clear hown hgr hlies p1 s1 e1 HPUT HW HKC HXE
          go_wp2_with fail
          generalize hW2 : w1.setCell _ _ = W2 at *
          clear hW2 k41 k42
          simp only [hdv2]
          have HR0 : Hid (MarksPost r L d f X lo 0 w W2) := Lib.hid ⟨L1, by simpa only [addSecs] using P1.out, S1.out, E1.out⟩
          clear P1 S1 E1
          go_loopw [12] (fun i wr => ∃ c : Nat, c ≤ hi + 1 - lo ∧ i = .int .i64 ((lo + c : Nat) : Int) ∧ MarksPost r L d f X lo c w wr) (fun i _ => hi + 1 - (intOf i).toNat)
          case atStart => exact ⟨0, Nat.zero_le _, rfl, HR0.out⟩
          case round =>
            obtain ⟨c, hc, rfl, hra⟩ := hrel
            have HRA := Lib.hid hra
            clear hra HR0
            by_cases hlt2 : lo + c ≤ hi
            · have hlt' : ((lo + c : Nat) : Int) ≤ (hi : Int) := by omega
              have hlc := HL.out c
              obtain ⟨L3, p3, s3, e3⟩ := HRA.out
              have hmk := mark_any r L3 _ f (lo + c) wr p3 ⟨hf64, by show lo + c ≤ 9223372036854775807; omega⟩ (by simp only; omega)
              have HM := Lib.hid hmk
              have S3 := Lib.hid s3
              have E3 := Lib.hid e3
              clear p3 s3 e3 hmk
              go_wp2_with fail
              refine HM.out.mono ?_
              rintro e w7 ⟨rfl, L4, p4, s4, e4⟩
              have HR4 : Hid (MarksPost r L d f X lo (c + 1) w w7) := Lib.hid ⟨L4, by rw [HN.out]; exact p4, S3.out.trans s4, e4.trans E3.out⟩
              clear p4 s4 e4 HM
              go_wp2
              go_roundw
              case rel => exact ⟨c + 1, by omega, by go_num, HR4.out⟩
              case measure => simp [intOf]; omega
            · have hlt' : (hi : Int) < ((lo + c : Nat) : Int) := by omega
              obtain rfl : c = hi + 1 - lo := by omega
              go_wp2
              go_ret
              rw [HO.out]
              obtain ⟨L3, p3, s3, e3⟩ := HRA.out
              exact ⟨rfl, L3, p3, s3, e3⟩
  · have hl := h.raw.files.map.look_no hf64 hf
    have HX : Hid (Left r L (d.write0 f a s.data.toList).1 (.int .i64 (d.write0 f a s.data.toList).2) w (.returned (.int .i64 1)) w) := Lib.hid (by
      unfold Dk.write0
      rw [if_pos hf]
      exact left_same h)
    clear h ho hf
    go_enter Tryz.func51, Tryz.ntmps51
    go_wp2
    go_ret
    exact HX.out

end Go.Proofs.YtbpkcgkcamkggaaGreatDoor
