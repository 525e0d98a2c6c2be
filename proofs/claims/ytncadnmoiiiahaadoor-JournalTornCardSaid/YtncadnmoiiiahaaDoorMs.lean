/-
  The contract of the program's Truncate.
-/
import Derived.Test.YtncadnmoiiiahaaDoorMr
import Derived.BigRegion
set_option linter.unusedVariables false
set_option maxRecDepth 100000
namespace Go.Proofs.YtncadnmoiiiahaaDoor
open Go.RowKit

theorem upd_upd {α : Type} (F : Int → α) (f : Int) (x y : α) : upd (upd F f x) f y = upd F f y := by
  funext g
  by_cases c : g = f
  · subst c; rw [upd_same, upd_same]
  · rw [upd_other c, upd_other c, upd_other c]

theorem own_cut {w : World} {A : Option Addr} {cap n : Nat} {l : List UInt8} (h : w.ownsRow 0 5 1 (.slice A l.length cap) l.length (bcs l)) (hn : n ≤ l.length) : w.ownsRow 0 5 1 (.slice A n cap) (l.take n).length (bcs (l.take n)) := by
  have e : (l.take n).length = n := by rw [List.length_take]; omega
  rw [e]
  refine ⟨by rw [bcs_length, e, Nat.mul_one], ?_⟩
  rcases h.2 with ⟨hv, h0⟩ | ⟨g, cap', cur, hv, h1, h2, h3, h4, h5, h6⟩
  · left
    injection hv with e1 e2 e3
    subst e1
    subst e3
    have h7 : n = 0 := by omega
    rw [h7]
    exact ⟨rfl, rfl⟩
  · right
    injection hv with e1 e2 e3
    subst e1
    subst e3
    refine ⟨g, cap, cur, rfl, h1, h2, by omega, h4, h5, ?_⟩
    rw [Nat.mul_one] at h6 ⊢
    rw [show bcs (l.take n) = (bcs l).take n by simp [bcs, List.map_take], ← h6, List.take_take, Nat.min_eq_left (by omega)]

/-- both rows of a file are cut. -/
theorem cut_both {r : Nat} {L : Lay} {d : Dk} {f : Int} {n : Nat} {w : World} (h : PAt r L (d.settle f (d.now f)) w) (hf : Dk.fileOk f) (hn : n ≤ (d.now f).length) :
    ∃ A0 c0 A1 c1, L.rv f false = .slice A0 (d.now f).length c0 ∧ L.rv f true = .slice A1 (d.now f).length c1 ∧ (d.now f).length ≤ c0 ∧ (d.now f).length ≤ c1 ∧
      Left r L (d.settle f ((d.now f).take n)) (.tuple #[]) w (.returned (.tuple #[])) ((w.setCell ⟨L.fb f, 0, none⟩ (.slice A0 n c0)).setCell ⟨L.fb f, 1, none⟩ (.slice A1 n c1)) := by
  have e0 : side (d.settle f (d.now f)).now (d.settle f (d.now f)).last f false = d.now f := by
    show upd d.now f (d.now f) f = _
    rw [upd_same]
  have e1 : side (d.settle f (d.now f)).now (d.settle f (d.now f)).last f true = d.now f := by
    show upd d.last f (d.now f) f = _
    rw [upd_same]
  have r0 := h.raw.files.row f false hf
  have r1 := h.raw.files.row f true hf
  rw [e0] at r0
  rw [e1] at r1
  obtain ⟨A0, c0, v0, _, l0, _, _⟩ := own_slice r0
  obtain ⟨A1, c1, v1, _, l1, _, _⟩ := own_slice r1
  have o0 : w.ownsRow 0 5 1 (.slice A0 n c0) ((d.now f).take n).length (bcs ((d.now f).take n)) := own_cut (by rw [← v0]; exact r0) hn
  have o1 : w.ownsRow 0 5 1 (.slice A1 n c1) ((d.now f).take n).length (bcs ((d.now f).take n)) := own_cut (by rw [← v1]; exact r1) hn
  have hrefl : ∀ (w : World) (row : Option Nat), w.grownBy w row := fun w row => ⟨rfl, rfl, rfl, Nat.le_refl _, fun _ _ _ => rfl⟩
  obtain ⟨g1, s1, q1⟩ := h.raw.wrote h.queue hf false o0 (hrefl _ _) (.inl (by rw [v0]; cases A0 <;> rfl)) 0 rfl
  have o1' : (w.setCell ⟨L.fb f, 0, none⟩ (.slice A0 n c0)).ownsRow 0 5 1 (.slice A1 n c1) ((d.now f).take n).length (bcs ((d.now f).take n)) :=
    ownKeep o1 fun b hb => Below.heap_setCell _ _ _ _ (fun e => other_kind o1 (h.raw.files.file f hf) (by decide) (by rw [hb, e]))
  have hv1 : (L.setRow f false (.slice A0 n c0)).rv f true = L.rv f true := by simp [Lay.setRow]
  obtain ⟨g2, s2, q2⟩ := g1.wrote q1 hf true o1' (hrefl _ _) (.inl (by rw [hv1, v1]; cases A1 <;> rfl)) 1 rfl
  refine ⟨A0, c0, A1, c1, v0, v1, l0, l1, rfl, (L.setRow f false (.slice A0 n c0)).setRow f true (.slice A1 n c1), ⟨?_, q2⟩, s1.trans s2, rfl⟩
  have hX : d.settle f ((d.now f).take n) = { { d.settle f (d.now f) with now := setSide (d.settle f (d.now f)).now f (!false) ((d.now f).take n), last := setSide (d.settle f (d.now f)).last f false ((d.now f).take n) } with
      now := setSide (setSide (d.settle f (d.now f)).now f (!false) ((d.now f).take n)) f (!true) ((d.now f).take n), last := setSide (setSide (d.settle f (d.now f)).last f false ((d.now f).take n)) f true ((d.now f).take n) } := by
    simp [Dk.settle, setSide, upd_upd]
  rw [hX]
  exact g2

set_option maxRecDepth 100000 in
set_option maxHeartbeats 4000000 in
theorem pTruncate_any (r : Nat) (L : Lay) (d : Dk) (f n : Int) (w : World) (h : PAt r L d w) (hb : Fits d) (h64 : In64 f) (hn64 : In64 n) :
    Calls Tryd.prog 19 #[.pointer (some ⟨r, 0, none⟩), .int .i64 f, .int .i64 n] w (Left r L (ptrunc d f n).1 (.int .i64 (ptrunc d f n).2) w) := by
  obtain ⟨_, _, _, _, _, _, c6, _⟩ := h.raw.cells
  cases hd : d.down with
  | true =>
    have HX : Hid (Left r L (ptrunc d f n).1 (.int .i64 (ptrunc d f n).2) w (.returned (.int .i64 8)) w) := Lib.hid (by unfold ptrunc; rw [if_pos hd]; exact left_same h)
    rw [hd] at c6
    clear h hd hb
    go_enter Tryd.func19, Tryd.ntmps19
    go_wp2
    go_ret
    exact HX.out
  | false =>
    rw [hd] at c6
    have HDUE := Lib.hid (pDue_any r L d w h hb.armed)
    have HD := Lib.hid hd
    have HF := Lib.hid hb
    clear h hd hb
    by_cases ha : d.armed = 1
    · have HX : Hid (ptrunc d f n = (pcrash (due d) (due d).keep, 8)) := Lib.hid (by unfold ptrunc; rw [if_neg (by rw [HD.out]; decide), if_pos ha])
      have hdc : decide (d.armed = 1) = true := decide_eq_true ha
      clear ha
      go_enter Tryd.func19, Tryd.ntmps19
      go_wp2_with fail
      refine HDUE.out.mono ?_
      rintro e w1 ⟨rfl, p1, s1⟩
      rw [hdc]
      obtain ⟨_, _, _, _, _, k5, _, _⟩ := p1.raw.cells
      have hcr := crash_any r L (due d) L.kv (due d).keep w1 p1 (due_ok HF.out.ok) p1.krd HF.out.keep (Nat.le_trans HF.out.q (by omega))
      have HCR := Lib.hid hcr
      have S1 := Lib.hid s1
      clear p1 s1 hcr hdc HDUE
      go_wp2_with fail
      refine HCR.out.mono ?_
      rintro e w2 ⟨rfl, L2, p2, s2, e2⟩
      have HE : Hid (Left r L (ptrunc d f n).1 (.int .i64 (ptrunc d f n).2) w (.returned (.int .i64 8)) w2) := Lib.hid ⟨by rw [HX.out], L2, by rw [HX.out]; exact p2, S1.out.trans s2, e2⟩
      clear p2 s2 e2 HCR HX
      go_wp2
      go_ret
      exact HE.out
    · have HX : Hid (ptrunc d f n = (due d).trunc0 f n) := Lib.hid (by unfold ptrunc; rw [if_neg (by rw [HD.out]; decide), if_neg ha])
      have hdc : decide (d.armed = 1) = false := decide_eq_false ha
      clear ha
      go_enter Tryd.func19, Tryd.ntmps19
      go_wp2_with fail
      refine HDUE.out.mono ?_
      rintro e w1 ⟨rfl, p1, s1⟩
      rw [hdc]
      obtain ⟨k0, _, _, _, _, _, _, _⟩ := p1.raw.cells
      have P1 : Hid (PAt r L (due d) w1) := Lib.hid p1
      have S1 := Lib.hid s1
      by_cases hf : Dk.fileOk f
      · have hl := p1.raw.files.map.look_ok hf
        obtain ⟨x0, _, _⟩ := p1.raw.files.cells hf
        obtain ⟨A, cap, hv, _, _, _, _⟩ := own_slice (P1.out.raw.files.row f false hf)
        rw [hv] at x0
        have e : side (due d).now (due d).last f false = d.now f := rfl
        rw [e] at x0
        have hbig : (d.now f).length ≤ 16777216 := HF.out.ok.big f
        by_cases hbad : n < 0 ∨ ((d.now f).length : Int) < n
        · have HE : Hid (Left r L (ptrunc d f n).1 (.int .i64 (ptrunc d f n).2) w (.returned (.int .i64 1)) w1) := Lib.hid (by
            rw [HX.out]
            unfold Dk.trunc0
            rw [if_neg (Decidable.not_not.mpr hf), if_pos (show n < 0 ∨ (((due d).now f).length : Int) < n from hbad)]
            exact ⟨rfl, L, P1.out, S1.out, rfl⟩)
          clear p1 s1 hdc HDUE hf hv e HX P1 S1 HF HD
          generalize (d.now f).length = len at *
          by_cases hn : n < 0
          · clear hbad
            go_wp2
            go_ret
            exact HE.out
          · have hn2 : (len : Int) < n := by omega
            have hn0 : 0 ≤ n := by omega
            clear hbad hn
            go_wp2
            go_ret
            exact HE.out
        · obtain ⟨m, rfl⟩ : ∃ m : Nat, n = (m : Int) := ⟨n.toNat, by omega⟩
          have hml : m ≤ (d.now f).length := by omega
          have hset := settle_any r L (due d) f w1 p1 (due_ok HF.out.ok) hf (Nat.le_trans HF.out.q (by omega))
          have HSET := Lib.hid hset
          have HX2 : Hid (ptrunc d f (m : Int) = ((due d).settle f (((due d).now f).take m), 0)) := Lib.hid (by
            rw [HX.out]
            unfold Dk.trunc0
            rw [if_neg (Decidable.not_not.mpr hf), if_neg (show ¬ ((m : Int) < 0 ∨ (((due d).now f).length : Int) < (m : Int)) from hbad)]
            rfl)
          have HFO := Lib.hid hf
          have hm0 : (0 : Int) ≤ (m : Int) := by omega
          have hm1 : (m : Int) ≤ ((d.now f).length : Int) := by omega
          clear p1 s1 hdc HDUE hf hset HX hbad hv e
          go_wp2_with fail
          refine HSET.out.mono ?_
          rintro e w2 ⟨rfl, L2, p2, s2, e2⟩
          obtain ⟨A0, q0, A1, q1, v0, v1, l0, l1, hcut⟩ := cut_both p2 HFO.out (show m ≤ ((due d).now f).length from hml)
          obtain ⟨y0, y1, yz⟩ := p2.raw.files.cells HFO.out
          rw [v0, e2] at y0
          rw [v1, e2] at y1
          rw [e2] at yz hcut
          have yz0 := yz 0
          have yz1 := yz 1
          have HE : Hid (Left r L (ptrunc d f (m : Int)).1 (.int .i64 (ptrunc d f (m : Int)).2) w (.returned (.int .i64 0)) ((w2.setCell ⟨L.fb f, 0, none⟩ (.slice A0 m q0)).setCell ⟨L.fb f, 1, none⟩ (.slice A1 m q1)).drew) := Lib.hid (by
            obtain ⟨_, L3, p3, s3, e3⟩ := hcut
            rw [HX2.out]
            exact ⟨rfl, L3, p3.kept fun b _ => rfl, (S1.out.trans s2).trans (s3.trans (PStep.of_below ⟨rfl, rfl, rfl, Nat.le_refl _, fun _ _ => rfl⟩)), e3.trans e2⟩)
          have y0' : w2.cell? ⟨L.fb f, 0, none⟩ = some (.slice A0 (d.now f).length q0) := y0
          have y1' : w2.cell? ⟨L.fb f, 1, none⟩ = some (.slice A1 (d.now f).length q1) := y1
          have g0 : (m : Int) ≤ (q0 : Int) := by have : (d.now f).length ≤ q0 := l0; omega
          have g1 : (m : Int) ≤ (q1 : Int) := by have : (d.now f).length ≤ q1 := l1; omega
          clear p2 s2 hcut HSET HX2 yz v0 v1 l0 l1 y0 y1 P1 S1 HF HD e2
          generalize (d.now f).length = len at *
          go_wp2
          go_region
          go_wp2
          go_ret
          exact HE.out
      · have hl := p1.raw.files.map.look_no h64 hf
        have HE : Hid (Left r L (ptrunc d f n).1 (.int .i64 (ptrunc d f n).2) w (.returned (.int .i64 1)) w1) := Lib.hid (by
          rw [HX.out]
          unfold Dk.trunc0
          rw [if_pos hf]
          exact ⟨rfl, L, P1.out, S1.out, rfl⟩)
        clear p1 s1 hdc HDUE hf HX
        go_wp2
        go_ret
        exact HE.out

end Go.Proofs.YtncadnmoiiiahaaDoor
