/-
  Contracts of the program's put from a row of bytes, and of save.
-/
import Derived.Test.YtncadnmoiiiahaaDoorMe
import Derived.Deep.RegionHeld3
import Derived.StillTailTactics
import Derived.Deep.AppendLies
import Derived.Deep.RegionLaw
import Derived.BigRegion
set_option linter.unusedVariables false
set_option maxRecDepth 100000
namespace Go.Proofs.YtncadnmoiiiahaaDoor
open Go.RowKit

set_option maxRecDepth 100000 in
set_option maxHeartbeats 2000000 in
theorem putB_any (v : Value) (l : List UInt8) (a : Nat) (ad : Addr) (c : Nat) (t : List UInt8) (w : World) (h : w.ownsRow 0 5 1 v l.length (bcs l)) (ht : t ≠ []) (hl : l.length ≤ 33554432) (hb : a + t.length ≤ 33554432)
    (hs : ∀ j u, (bcs t)[j]? = some u → w.cell? (ad.add j) = some u) (hlt : ad.block < w.heap.size) (hne : v.ownBlock ≠ some ad.block) :
    Calls Tryd.prog 44 #[v, .int .i64 (a : Int), .slice (some ad) t.length c] w (PutPost v l a t w) := by
  have ht0 : 0 < t.length := List.length_pos_iff.mpr ht
  obtain ⟨A, cap, rfl, hA⟩ := own_parts h
  have main : ∀ (k : Nat) (v1 : Value) (w1 : World), k = a + t.length - l.length → w1.ownsRow 0 5 1 v1 (l.length + k) (bcs (l ++ List.replicate k 0)) → (∀ j u, (bcs t)[j]? = some u → w1.cell? (ad.add j) = some u) → ∃ g c1, v1 = .slice (some ⟨g, 0, none⟩) (l.length + k) c1 ∧ l.length + k ≤ c1 ∧ ∃ w2,
      (∀ ty dl c2, t.length ≤ dl → (Builtin.copy_ #[36, 36] ty #[.slice (some ⟨g, a, none⟩) dl c2, .slice (some ad) t.length c]).run Tryd.prog w1 = .ok (goInt t.length) w2) ∧
      w2.ownsRow 0 5 1 v1 (put l a t).length (bcs (put l a t)) ∧ w1.grownBy w2 (some g) := by
    intro k v1 w1 hk hown hs1
    rcases hown.2 with ⟨_, h0⟩ | ⟨g, c1, cur, rfl, _, hg, hnc, hcm, hcs, htake⟩
    · omega
    · rw [Nat.mul_one] at hcs htake
      have hov := own_over (a := a) (t := t) hg (l := l ++ List.replicate k 0) (by simp) hnc hcm hcs htake (by omega)
      rw [put_over l k a t ht hk] at hov
      have hpl : (put l a t).length = l.length + k := by rw [put_length ht]; omega
      have hbl : (bcs t).length = t.length := bcs_length t
      refine ⟨g, c1, rfl, hnc, w1.setRow g (cur.toList.take a ++ bcs t ++ cur.toList.drop (a + t.length)).toArray, fun ty dl c2 hdl => ?_, ?_, ?_⟩
      · have := run_copy_row (P := Tryd.prog) w1 36 36 ty 5 g a dl c2 ad t.length c cur 5 (bcs t) Tryd.underlying36 (by kernel_rfl) hg (by rw [hbl]; exact (Nat.min_eq_left hdl).symm) hs1 (by rw [hbl]; omega) (one_bcs t)
        rw [hbl] at this
        exact this
      · rw [hpl]; exact hov
      · exact ⟨rfl, rfl, rfl, by simp, fun q _ hq => setRow_other w1 g q _ (fun e => hq (by simp [e]))⟩
  by_cases hlack : l.length < a + t.length
  · obtain ⟨v1, w1, hr, hz⟩ := append_zeros l (a + t.length - l.length) _ w h (by omega) (by omega) 36
    have hs1 : ∀ j u, (bcs t)[j]? = some u → w1.cell? (ad.add j) = some u := fun j u hj => by
      have hbk : (ad.add j).block = ad.block := by unfold Addr.add; split <;> rfl
      rw [hz.grown.cell_far _ (by rw [hbk]; exact hlt) (by rw [hbk]; exact Ne.symm hne)]
      exact hs j u hj
    obtain ⟨g, c1, rfl, hnc, w2, hcp, hown, hgr⟩ := main _ _ _ rfl hz.own hs1
    have hpost : PutPost (.slice A l.length cap) l a t w (.returned (.slice (some ⟨g, 0, none⟩) (a + t.length) c1)) w2 := by
      rw [show l.length + (a + t.length - l.length) = a + t.length by omega] at hown hz
      refine ⟨_, rfl, hown, ?_, hz.lies⟩
      refine ⟨hgr.os.trans hz.grown.os, hgr.tape.trans hz.grown.tape, hgr.output.trans hz.grown.output, Nat.le_trans hz.grown.size hgr.size, fun q hq hne => ?_⟩
      refine (hgr.block q (Nat.lt_of_lt_of_le hq hz.grown.size) (fun e => ?_)).trans (hz.grown.block q hq hne)
      rcases hz.lies with h1 | h1
      · exact hne (e.trans h1)
      · have := h1 q e.symm
        omega
    have HP := Lib.hid hpost
    have e1 : ((a + t.length - l.length : Nat) : Int) = (a : Int) + (t.length : Int) - (l.length : Int) := by omega
    have e2 : l.length + (a + t.length - l.length) = a + t.length := by omega
    rw [e1] at hr
    rw [e2] at hr hnc
    have HCP := Lib.hid hcp
    have HR := Lib.hid hr
    have hlt2 : (0 : Int) < (a : Int) + (t.length : Int) - (l.length : Int) := by omega
    have hat : (a : Int) ≤ ((a + t.length : Nat) : Int) := by omega
    have hac : a < c1 := by omega
    clear hpost hz main e1 e2 h hcp hown hgr hA hr ht hs hs1 hne
    go_enter Tryd.func44, Tryd.ntmps44
    go_wp2_with (first | (at_builtin; refine Lib.wpList_append_run _ rfl _ _ _ _ rfl _ _ rfl rfl _ _ HR.out ?_) | (with_reducible refine Lib.wpList_copy_run _ rfl _ _ 36 36 rfl _ _ rfl rfl (HCP.out _ _ _ ?_) ?_; omega))
    go_ret
    exact HP.out
  · obtain ⟨g, c1, hv, hnc, w2, hcp, hown, hgr⟩ := main 0 _ w (by omega) (by simpa using h) hs
    simp only [Nat.add_zero, Value.slice.injEq] at hv hnc
    obtain ⟨rfl, _, rfl⟩ := hv
    have hpost : PutPost (.slice (some ⟨g, 0, none⟩) l.length cap) l a t w (.returned (.slice (some ⟨g, 0, none⟩) l.length cap)) w2 := ⟨_, rfl, hown, hgr, .inl rfl⟩
    have HP := Lib.hid hpost
    have HCP := Lib.hid hcp
    have hlt2 : (a : Int) + (t.length : Int) - (l.length : Int) ≤ 0 := by omega
    have hat : (a : Int) ≤ (l.length : Int) := by omega
    have hac : a < cap := by omega
    clear hpost main h hcp hown hgr hA ht hs hne
    go_enter Tryd.func44, Tryd.ntmps44
    go_wp2_with (with_reducible refine Lib.wpList_copy_run _ rfl _ _ 36 36 rfl _ _ rfl rfl (HCP.out _ _ _ ?_) ?_; omega)
    go_ret
    exact HP.out

/-- what save leaves: the sector's bytes lie in the durable part. -/
def SavePost (L : Lay) (now last : Int → List UInt8) (f : Int) (n : Nat) (w : World) (e : Ending) (w' : World) : Prop :=
  e = .returned (.tuple #[]) ∧ ∃ v', FilesAt w' (L.setRow f true v') now (upd last f (put (last f) (64 * n) (sec (now f) n))) ∧ PFr (FOwn L) w w' ∧ ∀ b, FOwn (L.setRow f true v') b → FOwn L b ∨ w.heap.size ≤ b

theorem save_after {w w1 : World} {L : Lay} {now last : Int → List UInt8} (h : FilesAt w L now last) {f : Int} (hf : Dk.fileOk f) {v' : Value} {X : List UInt8}
    (hown : w1.ownsRow 0 5 1 v' X.length (bcs X)) (hg : w.grownBy w1 (L.rv f true).ownBlock) (hl : v'.ownBlock = (L.rv f true).ownBlock ∨ ∀ b, v'.ownBlock = some b → w.heap.size ≤ b) :
    FilesAt (w1.setCell ⟨L.fb f, 1, none⟩ v') (L.setRow f true v') now (upd last f X) ∧ PFr (FOwn L) w (w1.setCell ⟨L.fb f, 1, none⟩ v') ∧ ∀ b, FOwn (L.setRow f true v') b → FOwn L b ∨ w.heap.size ≤ b := by
  have hfile := h.file f hf
  have hfb : w1.heap[L.fb f]? = some (.cells #[L.rv f false, L.rv f true] 51 (0, 0)) := (hg.block _ (brow_lt hfile) (fun e => other_kind (h.row f true hf) hfile (by decide) e.symm)).trans hfile
  have hblk : ∀ b, b ≠ L.fb f → (w1.setCell ⟨L.fb f, 1, none⟩ v').heap[b]? = w1.heap[b]? := fun b hb => Below.heap_setCell _ _ _ _ (fun e => hb e)
  refine ⟨?_, ?_, ?_⟩
  · have e := h.setRow (w' := w1.setCell ⟨L.fb f, 1, none⟩ v') hf true (v := v') (X := X) ?_ ?_ ?_ hl
    · exact e
    · refine ownKeep hown fun b hb => hblk b fun e => other_kind hown hfb (by decide) (by rw [← e]; exact hb)
    · rw [heap_set hfb]
      simp [Lay.setRow]
    · intro b hb h1 h2
      rw [hblk b h1]
      exact hg.block b hb (fun e => h2 e.symm)
  · refine ⟨hg.os, hg.tape, hg.output, by simp [World.setCell]; exact hg.size, fun k hk hn => ?_⟩
    rw [hblk k (fun e => hn (.inr ⟨f, hf, .inl e⟩))]
    exact hg.block k hk (fun e => hn (.inr ⟨f, hf, .inr ⟨true, e.symm⟩⟩))
  · intro b hb
    rcases hb with hb | ⟨g, hg', hb | ⟨s, hb⟩⟩
    · exact .inl (.inl hb)
    · exact .inl (.inr ⟨g, hg', .inl hb⟩)
    · by_cases c : g = f ∧ s = true
      · rw [show (L.setRow f true v').rv g s = v' by simp [Lay.setRow, c]] at hb
        rcases hl with hl | hl
        · rw [hl] at hb
          exact .inl (.inr ⟨f, hf, .inr ⟨true, hb⟩⟩)
        · exact .inr (hl b hb)
      · rw [show (L.setRow f true v').rv g s = L.rv g s by simp [Lay.setRow, c]] at hb
        exact .inl (.inr ⟨g, hg', .inr ⟨s, hb⟩⟩)

set_option maxRecDepth 100000 in
set_option maxHeartbeats 4000000 in
theorem save_any (L : Lay) (now last : Int → List UInt8) (f : Int) (n : Nat) (w : World) (h : FilesAt w L now last) (hf : Dk.fileOk f) (hn : 64 * n < (now f).length) (hb : (now f).length ≤ 16777216) (hbl : (last f).length ≤ 16777216) :
    Calls Tryd.prog 35 #[.pointer (some ⟨L.fb f, 0, none⟩), .int .i64 (n : Int)] w (SavePost L now last f n w) := by
  obtain ⟨c0, c1, hz⟩ := h.cells hf
  have hz1 := hz 1
  have hr0 : w.ownsRow 0 5 1 (L.rv f false) (now f).length (bcs (now f)) := h.row f false hf
  have hr1 : w.ownsRow 0 5 1 (L.rv f true) (last f).length (bcs (last f)) := h.row f true hf
  have hap := h.apart f false f true
  have HA : Hid (∀ v' X w1, w1.ownsRow 0 5 1 v' X.length (bcs X) → w.grownBy w1 (L.rv f true).ownBlock → (v'.ownBlock = (L.rv f true).ownBlock ∨ ∀ b, v'.ownBlock = some b → w.heap.size ≤ b) →
    FilesAt (w1.setCell ⟨L.fb f, 1, none⟩ v') (L.setRow f true v') now (upd last f X) ∧ PFr (FOwn L) w (w1.setCell ⟨L.fb f, 1, none⟩ v') ∧ ∀ b, FOwn (L.setRow f true v') b → FOwn L b ∨ w.heap.size ≤ b) := Lib.hid fun v' X w1 h1 h2 h3 => save_after h hf h1 h2 h3
  have hfl : L.fb f < w.heap.size := brow_lt (h.file f hf)
  have hfne : (L.rv f true).ownBlock ≠ some (L.fb f) := other_kind (h.row f true hf) (h.file f hf) (by decide)
  rcases hr0.2 with ⟨_, h0⟩ | ⟨g, cap, cur, hv, _, hg, hnc, hcm, hcs, htake⟩
  · omega
  · have hcell : ∀ j u, (bcs (sec (now f) n))[j]? = some u → w.cell? ((⟨g, 64 * n, none⟩ : Addr).add j) = some u := by
      intro j u hj
      have hjl : j < (sec (now f) n).length := by simpa [bcs] using (List.getElem?_eq_some_iff.1 hj).1
      rw [sec_length] at hjl
      have h1 := hr0.cells (g := g) (by rw [hv]; rfl) (64 * n + j) u ?_
      · rw [Addr.add_lit] at h1 ⊢
        rw [Nat.zero_add] at h1
        exact h1
      · rw [← hj, bcs, bcs, List.getElem?_map, List.getElem?_map, sec, List.getElem?_take, if_pos (by omega), List.getElem?_drop]
    have hgne : (L.rv f true).ownBlock ≠ some g := fun e => by
      have := hap g hf hf (by rw [hv]; rfl) e
      exact absurd this.2 (by decide)
    have hsl : (sec (now f) n).length = min 64 ((now f).length - 64 * n) := sec_length _ _
    have hsn : sec (now f) n ≠ [] := fun e => by
      rw [e] at hsl
      simp at hsl; omega
    obtain ⟨A1, cap1, hv1, _⟩ := own_parts hr1
    obtain ⟨fr, hfr⟩ : ∃ fr : Nat, fr = 64 * n := ⟨_, rfl⟩
    obtain ⟨to, hto⟩ : ∃ to : Nat, to = min (64 * n + 64) (now f).length := ⟨_, rfl⟩
    have hsl2 : (sec (now f) n).length = to - fr := by
      rw [hsl, hto, hfr]
      by_cases c : 64 * n + 64 ≤ (now f).length
      · rw [Nat.min_eq_left (by omega), Nat.min_eq_left c]; omega
      · rw [Nat.min_eq_right (by omega), Nat.min_eq_right (by omega)]
    have hput : ∀ W : World, Below w.heap.size w W → W.heap.size = w.heap.size → ∀ c, Calls Tryd.prog 44 #[.slice A1 (last f).length cap1, .int .i64 (fr : Int), .slice (some ⟨g, fr, none⟩) (to - fr) c] W (PutPost (.slice A1 (last f).length cap1) (last f) fr (sec (now f) n) W) := by
      intro W hW hWs c
      have := putB_any (L.rv f true) (last f) (64 * n) ⟨g, 64 * n, none⟩ c (sec (now f) n) W (ownKeep hr1 fun b hb => hW.block b (by obtain ⟨c2, h2⟩ := ownKind hr1 hb; exact brow_lt h2)) hsn (by omega) (by omega) (fun j u hj => by
        have hbk : ((⟨g, 64 * n, none⟩ : Addr).add j).block = g := by unfold Addr.add; split <;> rfl
        rw [hW.cell (by rw [hbk]; exact brow_lt hg)]
        exact hcell j u hj) (by rw [hWs]; exact brow_lt hg) hgne
      rw [hv1, hsl2, ← hfr] at this
      exact this
    have HPUT := Lib.hid hput
    have hX : put (last f) (64 * n) (sec (now f) n) = put (last f) fr (sec (now f) n) := by rw [hfr]
    have HX := Lib.hid hX
    rw [hv] at c0
    rw [hv1] at c1
    have HV1 := Lib.hid hv1
    have e1 : (n : Int) * 64 = ((fr : Nat) : Int) := by omega
    have e2 : min ((fr : Int) + 64) ((now f).length : Int) = ((to : Nat) : Int) := by omega
    have hft : (fr : Int) < (to : Int) := by omega
    have htc : (to : Int) ≤ (cap : Int) := by omega
    have hfc : (fr : Int) ≤ (to : Int) := by omega
    have htl : (to : Int) ≤ ((now f).length : Int) := by omega
    have hf0 : (0 : Int) ≤ (fr : Int) := by omega
    have hsm : (to : Int) ≤ 16777216 := by omega
    have hns : (n : Int) ≤ 16777216 := by omega
    have hfs : (fr : Int) ≤ 16777216 := by omega
    have hg0 : g < w.heap.size := brow_lt hg
    have hcf : ¬ cap = fr := by omega
    have HK : Hid (∀ w4 : World, w.drew.grownBy w4 (Value.slice A1 (last f).length cap1).ownBlock → w4.cell? ⟨L.fb f, 0, none⟩ = some (.slice (some ⟨g, 0, none⟩) (now f).length cap) ∧ w4.cell? ⟨L.fb f, 1, none⟩ = some (.slice A1 (last f).length cap1) ∧ w4.frozen? ⟨L.fb f, 1, none⟩ = false) := Lib.hid fun w4 hgr => by
      rw [hv1] at hfne
      have hblk := hgr.block (L.fb f) hfl (fun e => hfne e.symm)
      rw [hgr.cell_far ⟨L.fb f, 0, none⟩ hfl (fun e => hfne e.symm), hgr.cell_far ⟨L.fb f, 1, none⟩ hfl (fun e => hfne e.symm)]
      refine ⟨c0, c1, ?_⟩
      have h2 : w4.heap[L.fb f]? = w.heap[L.fb f]? := hblk
      rw [h.file f hf] at h2
      exact Lib.frozen_of_heap h2 1
    have E1 := Lib.hid e1
    have E2 := Lib.hid e2
    clear hcell hap hr0 hr1 hz h htake hcs hg hcm hput hX hsl hsl2 hsn hgne e1 e2 hfr hto hv hv1 hn
    generalize (now f).length = len at *
    generalize (last f).length = len1 at *
    go_enter Tryd.func35, Tryd.ntmps35
    go_wp2
    simp only [E1.out, E2.out]
    go_region_law (first | (go_simp; go_at_call 44; (with_reducible refine (HPUT.out w.drew ⟨rfl, rfl, rfl, Nat.le_refl _, fun _ _ => rfl⟩ rfl _).mono ?_); rintro e w4 ⟨v', rfl, hown, hgr, hlies⟩; obtain ⟨A2, cap2, rfl, _⟩ := own_parts hown; obtain ⟨k40, k41, k42⟩ := HK.out w4 hgr; have HO := Lib.hid hown; have HG := Lib.hid hgr; have HL := Lib.hid hlies; clear hown hgr hlies))
    all_goals
      refine bodyPost_end (results_none rfl _ _ _) rfl ?_
      rw [SavePost, HX.out]
      exact ⟨rfl, _, HA.out _ _ w4 HO.out (by rw [HV1.out]; exact ⟨HG.out.os, HG.out.tape, HG.out.output, HG.out.size, HG.out.block⟩) (by rw [HV1.out]; exact HL.out)⟩

end Go.Proofs.YtncadnmoiiiahaaDoor
