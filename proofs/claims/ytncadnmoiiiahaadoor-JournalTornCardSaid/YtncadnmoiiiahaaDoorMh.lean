/-
  The contract of the program's write.
-/
import Derived.Test.YtncadnmoiiiahaaDoorMg
set_option linter.unusedVariables false
set_option maxRecDepth 100000
namespace Go.Proofs.YtncadnmoiiiahaaDoor
open Go.RowKit

/-- sectors become pending one after the other. -/
theorem marks_snoc (f : Int) (c : Nat) : ∀ (q : List (Int × Nat)) (n : Nat), addSecs q f n (c + 1) = addSec (addSecs q f n c) f (n + c) := by
  induction c with
  | zero => intro q n; rfl
  | succ c ih =>
    intro q n
    rw [addSecs, ih, addSecs]
    congr 1
    omega
theorem marks_len (f : Int) (c : Nat) : ∀ (q : List (Int × Nat)) (n : Nat), (addSecs q f n c).length ≤ q.length + c := by
  induction c with
  | zero => intro q n; exact Nat.le_refl _
  | succ c ih =>
    intro q n
    have h1 := ih (addSec q f n) (n + 1)
    have h2 : (addSec q f n).length ≤ q.length + 1 := by
      unfold addSec; split
      · omega
      · simp
    rw [addSecs]; omega

/-- a step that writes a file's bytes. -/
theorem PRaw.wrote {r : Nat} {L : Lay} {d : Dk} {S : List (Int × Nat)} {w w1 : World} (h : PRaw r L d S w) {n : Nat} {xs : List Value} (hq : w.ownsRow 0 70 2 L.qv n xs) {f : Int} (hf : Dk.fileOk f) (s : Bool) {v' : Value} {X : List UInt8}
    (hown : w1.ownsRow 0 5 1 v' X.length (bcs X)) (hg : w.grownBy w1 (L.rv f s).ownBlock) (hl : v'.ownBlock = (L.rv f s).ownBlock ∨ ∀ b, v'.ownBlock = some b → w.heap.size ≤ b) (i : Nat) (hi : i = if s then 1 else 0) :
    PRaw r (L.setRow f s v') { d with now := setSide d.now f (!s) X, last := setSide d.last f s X } S (w1.setCell ⟨L.fb f, i, none⟩ v') ∧ PStep r L (L.setRow f s v') w (w1.setCell ⟨L.fb f, i, none⟩ v')
      ∧ (w1.setCell ⟨L.fb f, i, none⟩ v').ownsRow 0 70 2 L.qv n xs := by
  subst hi
  have hfile := h.files.file f hf
  have hrow := h.files.row f s hf
  have hfb : w1.heap[L.fb f]? = some (.cells #[L.rv f false, L.rv f true] 51 (0, 0)) := (hg.block _ (brow_lt hfile) (fun e => other_kind hrow hfile (by decide) e.symm)).trans hfile
  have hblk : ∀ b, b ≠ L.fb f → (w1.setCell ⟨L.fb f, if s then 1 else 0, none⟩ v').heap[b]? = w1.heap[b]? := fun b hb => Below.heap_setCell _ _ _ _ (fun e => hb e)
  have hother : ∀ b, b < w.heap.size → b ≠ L.fb f → (L.rv f s).ownBlock ≠ some b → (w1.setCell ⟨L.fb f, if s then 1 else 0, none⟩ v').heap[b]? = w.heap[b]? := fun b hb h1 h2 => (hblk b h1).trans (hg.block b hb (fun e => h2 e.symm))
  have kr : r ≠ L.fb f := fun e => h.rfree (.inr ⟨f, hf, .inl e⟩)
  have kr2 : (L.rv f s).ownBlock ≠ some r := fun e => h.rfree (.inr ⟨f, hf, .inr ⟨s, e⟩⟩)
  obtain ⟨es, c, hml⟩ := h.set.isMap
  have kl : L.l ≠ L.fb f := fun e => by rw [e, hfile] at hml; cases hml
  have kl2 : (L.rv f s).ownBlock ≠ some L.l := other_map hrow hml
  refine ⟨⟨(hother r h.lt kr kr2).trans h.cell, ?_, h.set.kept (hother _ h.set.lt kl kl2), ?_, h.ne⟩, ⟨⟨hg.os, hg.tape, hg.output, by simp [World.setCell]; exact hg.size, fun k hk hn => ?_⟩, ?_, fun b hb => .inl hb⟩, ?_⟩
  · refine h.files.setRow hf s ?_ ?_ (fun b hb h1 h2 => hother b hb h1 h2) hl
    · exact ownKeep hown fun b hb => hblk b fun e => other_kind hown hfb (by decide) (by rw [← e]; exact hb)
    · rw [heap_set hfb]
      cases s <;> simp [Lay.setRow]
  · refine ownKeep h.keep fun b hb => ?_
    obtain ⟨c2, hc2⟩ := ownKind h.keep hb
    refine hother b (brow_lt hc2) (fun e => ?_) (other_kind hrow hc2 (by decide))
    exact other_kind h.keep hfile (by decide) (by rw [← e]; exact hb)
  · exact hother k hk (fun e => hn (.inr (.inr (.inr (.inr ⟨f, hf, .inl e⟩))))) (fun e => hn (.inr (.inr (.inr (.inr ⟨f, hf, .inr ⟨s, e⟩⟩)))))
  · intro b hb
    rcases hb with hb | hb | hb | hb
    · exact .inl (.inl hb)
    · exact .inl (.inr (.inl hb))
    · exact .inl (.inr (.inr (.inl hb)))
    · rcases hb with hb | ⟨g, hg', hb | ⟨t, hb⟩⟩
      · exact .inl (.inr (.inr (.inr (.inl hb))))
      · exact .inl (.inr (.inr (.inr (.inr ⟨g, hg', .inl hb⟩))))
      · by_cases c : g = f ∧ t = s
        · rw [show (L.setRow f s v').rv g t = v' by simp [Lay.setRow, c]] at hb
          rcases hl with hl | hl
          · rw [hl] at hb
            exact .inl (.inr (.inr (.inr (.inr ⟨f, hf, .inr ⟨s, hb⟩⟩))))
          · exact .inr (hl b hb)
        · rw [show (L.setRow f s v').rv g t = L.rv g t by simp [Lay.setRow, c]] at hb
          exact .inl (.inr (.inr (.inr (.inr ⟨g, hg', .inr ⟨t, hb⟩⟩))))
  · refine ownKeep hq fun b hb => ?_
    obtain ⟨c2, hc2⟩ := ownKind hq hb
    refine hother b (brow_lt hc2) (fun e => ?_) (other_kind hrow hc2 (by decide))
    exact other_kind hq hfile (by decide) (by rw [← e]; exact hb)

/-- what a method leaves: a result, and the disk d'. -/
def Left (r : Nat) (L : Lay) (d' : Dk) (res : Value) (w : World) (e : Ending) (w' : World) : Prop :=
  e = .returned res ∧ ∃ L', PAt r L' d' w' ∧ PStep r L L' w w' ∧ L'.fb = L.fb

theorem left_same {r : Nat} {L : Lay} {d : Dk} {res : Value} {w : World} (h : PAt r L d w) : Left r L d res w (.returned res) w := ⟨rfl, L, h, PStep.refl _ _ _, rfl⟩

/-- c sectors from lo on have become pending. -/
def MarksPost (r : Nat) (L : Lay) (d : Dk) (f : Int) (X : List UInt8) (lo c : Nat) (w wr : World) : Prop :=
  ∃ L', PAt r L' { d with now := upd d.now f X, q := addSecs d.q f lo c } wr ∧ PStep r L L' w wr ∧ L'.fb = L.fb

set_option maxRecDepth 100000 in
set_option maxHeartbeats 4000000 in
theorem write_any (r : Nat) (L : Lay) (d : Dk) (f a : Int) (s : ByteArray) (w : World) (h : PAt r L d w) (ho : Dk.Ok d) (hf64 : In64 f) (ha64 : In64 a) (hs : s.size ≤ 16777216) (hq : d.q.length ≤ 549755813888) :
    Calls Tryd.prog 22 #[.pointer (some ⟨r, 0, none⟩), .int .i64 f, .int .i64 a, .string s] w (Left r L (d.write0 f a s.data.toList).1 (.int .i64 (d.write0 f a s.data.toList).2) w) := by
  obtain ⟨c0, _⟩ := h.raw.cells
  have hsl : s.data.toList.length = s.size := Array.length_toList
  by_cases hf : Dk.fileOk f
  · have hl := h.raw.files.map.look_ok hf
    have hl0 := hl
    by_cases ha : a < 0
    · have HX : Hid (Left r L (d.write0 f a s.data.toList).1 (.int .i64 (d.write0 f a s.data.toList).2) w (.returned (.int .i64 1)) w) := Lib.hid (by
        unfold Dk.write0
        rw [if_neg (Decidable.not_not.mpr hf), if_pos ha]
        exact left_same h)
      clear h ho hf
      go_enter Tryd.func22, Tryd.ntmps22
      go_wp2
      go_ret
      exact HX.out
    · have ha0 : 0 ≤ a := by omega
      obtain ⟨a0, a1⟩ := ha64
      by_cases hfull : 16777216 < a + s.size
      · have HX : Hid (Left r L (d.write0 f a s.data.toList).1 (.int .i64 (d.write0 f a s.data.toList).2) w (.returned (.int .i64 6)) w) := Lib.hid (by
          unfold Dk.write0
          rw [if_neg (Decidable.not_not.mpr hf), if_neg ha, if_pos (by rw [hsl]; exact hfull)]
          exact left_same h)
        have hlt : (16777216 : Int) - (s.size : Int) < a := by omega
        clear h ho hf
        go_enter Tryd.func22, Tryd.ntmps22
        go_wp2
        go_ret
        exact HX.out
      · have hlt : a ≤ (16777216 : Int) - (s.size : Int) := by omega
        by_cases h0 : s = ⟨#[]⟩
        · subst h0
          have HX : Hid (Left r L (d.write0 f a (⟨#[]⟩ : ByteArray).data.toList).1 (.int .i64 (d.write0 f a (⟨#[]⟩ : ByteArray).data.toList).2) w (.returned (.int .i64 0)) w) := Lib.hid (by
            unfold Dk.write0
            rw [if_neg (Decidable.not_not.mpr hf), if_neg ha, if_neg (by rw [hsl]; exact hfull), Dk.add, if_pos rfl]
            exact left_same h)
          have hlt0 : a ≤ 16777216 := by
            have e : (⟨#[]⟩ : ByteArray).size = 0 := rfl
            rw [e] at hlt; omega
          clear h ho hf hlt hfull hs hsl
          go_enter Tryd.func22, Tryd.ntmps22
          go_wp2
          go_ret
          exact HX.out
        · obtain ⟨an, rfl⟩ : ∃ an : Nat, a = (an : Int) := ⟨a.toNat, by omega⟩
          have htn : s.data.toList ≠ [] := fun e => h0 (by
            obtain ⟨dd⟩ := s
            simp only [Array.toList_eq_nil_iff] at e
            rw [e])
          have hs1 : 0 < s.size := by rw [← hsl]; exact List.length_pos_iff.mpr htn
          have hem : s.toList.isEmpty = false := by
            rw [ByteArray.toList_eq]
            cases e : s.data.toList with
            | nil => exact absurd e htn
            | cons c r => rfl
          obtain ⟨k0, _, kz⟩ := h.raw.files.cells hf
          have kz0 := kz 0
          have hrow : w.ownsRow 0 5 1 (L.rv f false) (d.now f).length (bcs (d.now f)) := h.raw.files.row f false hf
          have hbig := ho.big f
          have HPUT := Lib.hid (putS_any (L.rv f false) (d.now f) an s w hrow htn (by omega) (by omega))
          have hpl : (put (d.now f) an s.data.toList).length ≤ 16777216 := by rw [put_length htn, hsl]; omega
          obtain ⟨X, hX⟩ : ∃ X, X = put (d.now f) an s.data.toList := ⟨_, rfl⟩
          have HW : Hid (∀ w1 v', w1.ownsRow 0 5 1 v' X.length (bcs X) → w.grownBy w1 (L.rv f false).ownBlock → (v'.ownBlock = (L.rv f false).ownBlock ∨ ∀ b, v'.ownBlock = some b → w.heap.size ≤ b) →
              ∃ L1, PAt r L1 { d with now := upd d.now f X } (w1.setCell ⟨L.fb f, 0, none⟩ v') ∧ PStep r L L1 w (w1.setCell ⟨L.fb f, 0, none⟩ v') ∧ L1.fb = L.fb) := Lib.hid fun w1 v' h1 h2 h3 => by
            obtain ⟨g1, g2, g3⟩ := h.raw.wrote h.queue hf false h1 h2 h3 0 rfl
            exact ⟨_, ⟨g1, g3⟩, g2, rfl⟩
          have hfile := h.raw.files.file f hf
          have HKC : Hid (∀ w1, w.grownBy w1 (L.rv f false).ownBlock → w1.cell? ⟨L.fb f, 0, none⟩ = some (L.rv f false) ∧ w1.frozen? ⟨L.fb f, 0, none⟩ = false) := Lib.hid fun w1 hg => by
            have hb := (hg.block _ (brow_lt hfile) (fun e => other_kind hrow hfile (by decide) e.symm)).trans hfile
            exact ⟨by rw [Lib.cell_of_heap hb]; rfl, Lib.frozen_of_heap hb 0⟩
          obtain ⟨lo, hlo⟩ : ∃ lo, lo = an / 64 := ⟨_, rfl⟩
          obtain ⟨hi, hhi⟩ : ∃ hi, hi = (an + s.size - 1) / 64 := ⟨_, rfl⟩
          have HO : Hid ((d.write0 f (an : Int) s.data.toList) = ({ d with now := upd d.now f X, q := addSecs d.q f lo (hi + 1 - lo) }, 0)) := Lib.hid (by
            unfold Dk.write0
            rw [if_neg (Decidable.not_not.mpr hf), if_neg ha, if_neg (by rw [hsl]; exact hfull), Dk.add, if_neg htn, hX, hlo, hhi, hsl]
            rfl)
          have HL : Hid (∀ c, (addSecs d.q f lo c).length ≤ d.q.length + c) := Lib.hid (fun c => marks_len f c d.q lo)
          have HN : Hid (∀ c, addSecs d.q f lo (c + 1) = addSec (addSecs d.q f lo c) f (lo + c)) := Lib.hid (fun c => marks_snoc f c d.q lo)
          have hdv : (an : Int) / 64 = (lo : Int) := by omega
          have hdv2 : ((an : Int) + (s.size : Int) - 1) / 64 = (hi : Int) := by omega
          have hps : (0 : Int) ≤ (an : Int) + (s.size : Int) - 1 := by omega
          have hlh : lo ≤ hi := by omega
          have hh2 : hi ≤ 262144 := by omega
          have hps2 : (an : Int) + (s.size : Int) - 1 ≤ 33554432 := by omega
          have han : (an : Int) ≤ 16777216 := by omega
          rw [← hX] at hpl
          have HXE := Lib.hid hX.symm
          clear h ho hrow htn kz hX hlo hhi hfile hsl hfull hs hbig hl0
          go_enter Tryd.func22, Tryd.ntmps22
          go_wp2_with fail
          refine HPUT.out.mono ?_
          rintro e w1 ⟨v', rfl, hown, hgr, hlies⟩
          rw [HXE.out] at hown
          obtain ⟨A2, cap2, rfl, _⟩ := own_parts hown
          obtain ⟨k41, k42⟩ := HKC.out w1 hgr
          obtain ⟨L1, p1, s1, e1⟩ := HW.out w1 _ hown hgr hlies
          have P1 := Lib.hid p1
          have S1 := Lib.hid s1
          have E1 := Lib.hid e1
          clear hown hgr hlies p1 s1 e1 HPUT HW HKC HXE
          go_wp2_with fail
          generalize hW2 : w1.setCell _ _ = W2 at *
          clear hW2 k41 k42
          simp only [hdv2]
          have HR0 : Hid (MarksPost r L d f X lo 0 w W2) := Lib.hid ⟨L1, by simpa only [addSecs] using P1.out, S1.out, E1.out⟩
          clear P1 S1 E1
          go_loopw [12] (fun i wr => ∃ c : Nat, c ≤ hi + 1 - lo ∧ i = .int .i64 ((lo + c : Nat) : Int) ∧ MarksPost r L d f X lo c w wr) (fun i _ => hi + 1 - (intOf i).toNat)
          case atStart => exact ⟨0, Nat.zero_le _, rfl, HR0.out⟩
          case round =>
            obtain ⟨c, hc, rfl, hra⟩ := hrel
            have HRA := Lib.hid hra
            clear hra HR0
            by_cases hlt2 : lo + c ≤ hi
            · have hlt' : ((lo + c : Nat) : Int) ≤ (hi : Int) := by omega
              have hlc := HL.out c
              obtain ⟨L3, p3, s3, e3⟩ := HRA.out
              have hmk := mark_any r L3 _ f (lo + c) wr p3 ⟨hf64, by show lo + c ≤ 9223372036854775807; omega⟩ (by simp only; omega)
              have HM := Lib.hid hmk
              have S3 := Lib.hid s3
              have E3 := Lib.hid e3
              clear p3 s3 e3 hmk
              go_wp2_with fail
              refine HM.out.mono ?_
              rintro e w7 ⟨rfl, L4, p4, s4, e4⟩
              have HR4 : Hid (MarksPost r L d f X lo (c + 1) w w7) := Lib.hid ⟨L4, by rw [HN.out]; exact p4, S3.out.trans s4, e4.trans E3.out⟩
              clear p4 s4 e4 HM
              go_wp2
              go_roundw
              case rel => exact ⟨c + 1, by omega, by go_num, HR4.out⟩
              case measure => simp [intOf]; omega
            · have hlt' : (hi : Int) < ((lo + c : Nat) : Int) := by omega
              obtain rfl : c = hi + 1 - lo := by omega
              go_wp2
              go_ret
              rw [HO.out]
              obtain ⟨L3, p3, s3, e3⟩ := HRA.out
              exact ⟨rfl, L3, p3, s3, e3⟩
  · have hl := h.raw.files.map.look_no hf64 hf
    have HX : Hid (Left r L (d.write0 f a s.data.toList).1 (.int .i64 (d.write0 f a s.data.toList).2) w (.returned (.int .i64 1)) w) := Lib.hid (by
      unfold Dk.write0
      rw [if_pos hf]
      exact left_same h)
    clear h ho hf
    go_enter Tryd.func22, Tryd.ntmps22
    go_wp2
    go_ret
    exact HX.out

end Go.Proofs.YtncadnmoiiiahaaDoor
