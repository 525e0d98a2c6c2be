/-
  Contracts of the program's Sync, Write and Arm.
-/
import Derived.Test.YtbpkcgkcamkggaaGreatDoorT921
set_option linter.unusedVariables false
set_option maxRecDepth 100000
namespace Go.Proofs.YtbpkcgkcamkggaaGreatDoor
open Go.RowKit

/-- the methods, as the program performs them. -/
def due (d : Dk) : Dk := { d with armed := d.armed - 1 }
def pwrite (d : Dk) (f a : Int) (s : List UInt8) : Dk × Int :=
  if d.down then (d, 8) else if d.armed = 1 then (pcrash ((due d).write0 f a s).1 ((due d).write0 f a s).1.keep, 8) else (due d).write0 f a s
def psync (d : Dk) (f : Int) : Dk × Int :=
  if d.down then (d, 8) else if d.armed = 1 then (pcrash (due d) (due d).keep, 8) else (due d).sync0 f
def ptrunc (d : Dk) (f n : Int) : Dk × Int :=
  if d.down then (d, 8) else if d.armed = 1 then (pcrash (due d) (due d).keep, 8) else (due d).trunc0 f n

/-- the bounds within which a disk stays. -/
structure Fits (d : Dk) : Prop where
  ok : Dk.Ok d
  q : d.q.length ≤ 137438953472
  keep : d.keep.length ≤ 1099511627776
  armed : d.armed ≤ 9223372036854775807
  lost : d.lost ≤ 9223372036854775807

theorem due_ok {d : Dk} (h : Dk.Ok d) : Dk.Ok (due d) := Dk.ok_of h rfl rfl rfl

set_option maxRecDepth 100000 in
set_option maxHeartbeats 4000000 in
theorem pSync_any (r : Nat) (L : Lay) (d : Dk) (f : Int) (w : World) (h : PAt r L d w) (hb : Fits d) (h64 : In64 f) :
    Calls Tryz.prog 33 #[.pointer (some ⟨r, 0, none⟩), .int .i64 f] w (Left r L (psync d f).1 (.int .i64 (psync d f).2) w) := by
  obtain ⟨_, _, _, _, _, _, c6, _⟩ := h.raw.cells
  cases hd : d.down with
  | true =>
    have HX : Hid (Left r L (psync d f).1 (.int .i64 (psync d f).2) w (.returned (.int .i64 8)) w) := Lib.hid (by unfold psync; rw [if_pos hd]; exact left_same h)
    rw [hd] at c6
    clear h hd hb
    go_enter Tryz.func33, Tryz.ntmps33
    go_wp2
    go_ret
    exact HX.out
  | false =>
    rw [hd] at c6
    have HDUE := Lib.hid (pDue_any r L d w h hb.armed)
    have HD := Lib.hid hd
    have HF := Lib.hid hb
    clear h hd hb
    by_cases ha : d.armed = 1
    · have HX : Hid (psync d f = (pcrash (due d) (due d).keep, 8)) := Lib.hid (by unfold psync; rw [if_neg (by rw [HD.out]; decide), if_pos ha])
      have hdc : decide (d.armed = 1) = true := decide_eq_true ha
      clear ha
      go_enter Tryz.func33, Tryz.ntmps33
      go_wp2_with fail
      refine HDUE.out.mono ?_
      rintro e w1 ⟨rfl, p1, s1⟩
      rw [hdc]
      obtain ⟨_, _, _, _, _, k5, _, _⟩ := p1.raw.cells
      have hcr := crash_any r L (due d) L.kv (due d).keep w1 p1 (due_ok HF.out.ok) p1.krd HF.out.keep (Nat.le_trans HF.out.q (by omega))
      have HCR := Lib.hid hcr
      have S1 := Lib.hid s1
      clear p1 s1 hcr hdc HDUE
      go_wp2_with fail
      refine HCR.out.mono ?_
      rintro e w2 ⟨rfl, L2, p2, s2, e2⟩
      have HE : Hid (Left r L (psync d f).1 (.int .i64 (psync d f).2) w (.returned (.int .i64 8)) w2) := Lib.hid ⟨by rw [HX.out], L2, by rw [HX.out]; exact p2, S1.out.trans s2, e2⟩
      clear p2 s2 e2 HCR HX
      go_wp2
      go_ret
      exact HE.out
    · have HX : Hid (psync d f = (due d).sync0 f) := Lib.hid (by unfold psync; rw [if_neg (by rw [HD.out]; decide), if_neg ha])
      have hdc : decide (d.armed = 1) = false := decide_eq_false ha
      clear ha
      go_enter Tryz.func33, Tryz.ntmps33
      go_wp2_with fail
      refine HDUE.out.mono ?_
      rintro e w1 ⟨rfl, p1, s1⟩
      rw [hdc]
      obtain ⟨k0, _, _, k3, _, _, _, kz⟩ := p1.raw.cells
      have kz3 := kz 3
      have P1 : Hid (PAt r L (due d) w1) := Lib.hid p1
      have S1 := Lib.hid s1
      by_cases hf : Dk.fileOk f
      · have hl := p1.raw.files.map.look_ok hf
        by_cases hlost : 0 < d.lost
        · have HE : Hid (Left r L (psync d f).1 (.int .i64 (psync d f).2) w (.returned (.int .i64 9)) (w1.setCell ⟨r, 3, none⟩ (.int .i64 ((d.lost : Int) - 1)))) := Lib.hid (by
            have e1 : ((d.lost - 1 : Nat) : Int) = (d.lost : Int) - 1 := by omega
            have hs := P1.out.put (d' := { due d with lost := d.lost - 1 }) 3 (.int .i64 ((d.lost - 1 : Nat) : Int)) rfl rfl rfl rfl rfl
            rw [e1] at hs
            rw [HX.out]
            unfold Dk.sync0
            rw [if_neg (Decidable.not_not.mpr hf), if_pos (show 0 < (due d).lost from hlost)]
            exact ⟨rfl, L, hs.1, S1.out.trans hs.2, rfl⟩)
          have k3' : w1.cell? ⟨r, 3, none⟩ = some (.int .i64 (d.lost : Int)) := k3
          have g0 : (0 : Int) < (d.lost : Int) := by omega
          have g1 : (d.lost : Int) ≤ 9223372036854775807 := by have := HF.out.lost; omega
          clear p1 s1 hdc HDUE kz k3 hf hlost
          go_wp2
          go_ret
          exact HE.out
        · have k3' : w1.cell? ⟨r, 3, none⟩ = some (.int .i64 (d.lost : Int)) := k3
          have g0 : (d.lost : Int) ≤ 0 := by omega
          have hset := settle_any r L (due d) f w1 p1 (due_ok HF.out.ok) hf (Nat.le_trans HF.out.q (by omega))
          have HSET := Lib.hid hset
          have HX2 : Hid (psync d f = ((due d).settle f ((due d).now f), 0)) := Lib.hid (by
            rw [HX.out]
            unfold Dk.sync0
            rw [if_neg (Decidable.not_not.mpr hf), if_neg (show ¬ 0 < (due d).lost from hlost)])
          clear p1 s1 hdc HDUE kz k3 hf hlost hset HX
          go_wp2_with fail
          refine HSET.out.mono ?_
          rintro e w2 ⟨rfl, L2, p2, s2, e2⟩
          have HE : Hid (Left r L (psync d f).1 (.int .i64 (psync d f).2) w (.returned (.int .i64 0)) w2) := Lib.hid ⟨by rw [HX2.out], L2, by rw [HX2.out]; exact p2, S1.out.trans s2, e2⟩
          clear p2 s2 e2 HSET HX2
          go_wp2
          go_ret
          exact HE.out
      · have hl := p1.raw.files.map.look_no h64 hf
        have HE : Hid (Left r L (psync d f).1 (.int .i64 (psync d f).2) w (.returned (.int .i64 1)) w1) := Lib.hid (by
          rw [HX.out]
          unfold Dk.sync0
          rw [if_pos hf]
          exact ⟨rfl, L, P1.out, S1.out, rfl⟩)
        clear p1 s1 hdc HDUE kz k3 hf
        go_wp2
        go_ret
        exact HE.out

set_option maxRecDepth 100000 in
set_option maxHeartbeats 4000000 in
theorem pWrite_any (r : Nat) (L : Lay) (d : Dk) (f a : Int) (s : ByteArray) (w : World) (h : PAt r L d w) (hb : Fits d) (h64 : In64 f) (ha64 : In64 a) (hs : s.size ≤ 16777216) :
    Calls Tryz.prog 30 #[.pointer (some ⟨r, 0, none⟩), .int .i64 f, .int .i64 a, .string s] w (Left r L (pwrite d f a s.data.toList).1 (.int .i64 (pwrite d f a s.data.toList).2) w) := by
  obtain ⟨_, _, _, _, _, _, c6, _⟩ := h.raw.cells
  cases hd : d.down with
  | true =>
    have HX : Hid (Left r L (pwrite d f a s.data.toList).1 (.int .i64 (pwrite d f a s.data.toList).2) w (.returned (.int .i64 8)) w) := Lib.hid (by unfold pwrite; rw [if_pos hd]; exact left_same h)
    rw [hd] at c6
    clear h hd hb
    go_enter Tryz.func30, Tryz.ntmps30
    go_wp2
    go_ret
    exact HX.out
  | false =>
    rw [hd] at c6
    have HDUE := Lib.hid (pDue_any r L d w h hb.armed)
    have HD := Lib.hid hd
    have HF := Lib.hid hb
    clear h hd hb
    have hsl : s.data.toList.length = s.size := Array.length_toList
    generalize hgs : s.data.toList = t at *
    have HGS := Lib.hid hgs
    clear hgs
    have HWR : Hid (∀ w1, PAt r L (due d) w1 → Calls Tryz.prog 51 #[.pointer (some ⟨r, 0, none⟩), .int .i64 f, .int .i64 a, .string s] w1 (Left r L ((due d).write0 f a t).1 (.int .i64 ((due d).write0 f a t).2) w1)) := Lib.hid fun w1 p1 => by
      rw [← HGS.out]
      exact write_any r L (due d) f a s w1 p1 (due_ok HF.out.ok) h64 ha64 hs (Nat.le_trans HF.out.q (by omega))
    have HQ : Hid (((due d).write0 f a t).1.q.length ≤ 549755813888) := Lib.hid (by
      have hq := HF.out.q
      unfold Dk.write0
      split
      · exact Nat.le_trans hq (by omega)
      · split
        · exact Nat.le_trans hq (by omega)
        · split
          · exact Nat.le_trans hq (by omega)
          · unfold Dk.add
            split
            · exact Nat.le_trans hq (by omega)
            · have := marks_len f ((a.toNat + t.length - 1) / 64 + 1 - a.toNat / 64) (due d).q (a.toNat / 64)
              have e : (due d).q.length = d.q.length := rfl
              simp only
              omega)
    have HK : Hid (((due d).write0 f a t).1.keep = d.keep ∧ Dk.Ok ((due d).write0 f a t).1) := Lib.hid ⟨Dk.keep_write0 _ _ _ _, Dk.ok_write0 (due_ok HF.out.ok) _ _ _⟩
    by_cases ha : d.armed = 1
    · have HX : Hid (pwrite d f a t = (pcrash ((due d).write0 f a t).1 ((due d).write0 f a t).1.keep, 8)) := Lib.hid (by unfold pwrite; rw [if_neg (by rw [HD.out]; decide), if_pos ha])
      have hdc : decide (d.armed = 1) = true := decide_eq_true ha
      clear ha
      go_enter Tryz.func30, Tryz.ntmps30
      go_wp2_with fail
      refine HDUE.out.mono ?_
      rintro e w1 ⟨rfl, p1, s1⟩
      rw [hdc]
      have S1 := Lib.hid s1
      have HW1 := Lib.hid (HWR.out w1 p1)
      clear p1 s1 hdc HDUE HWR
      go_wp2_with fail
      refine HW1.out.mono ?_
      rintro e w2 ⟨rfl, L2, p2, s2, e2⟩
      obtain ⟨_, _, _, _, _, k5, _, _⟩ := p2.raw.cells
      have hcr := crash_any r L2 _ L2.kv _ w2 p2 HK.out.2 p2.krd (by rw [HK.out.1]; exact HF.out.keep) HQ.out
      have HCR := Lib.hid hcr
      have S2 := Lib.hid (S1.out.trans s2)
      have E2 := Lib.hid e2
      clear p2 s2 hcr HW1 e2
      go_wp2_with fail
      refine HCR.out.mono ?_
      rintro e w3 ⟨rfl, L3, p3, s3, e3⟩
      have HE : Hid (Left r L (pwrite d f a t).1 (.int .i64 (pwrite d f a t).2) w (.returned (.int .i64 8)) w3) := Lib.hid ⟨by rw [HX.out], L3, by rw [HX.out]; exact p3, S2.out.trans s3, e3.trans E2.out⟩
      clear p3 s3 e3 HCR HX
      go_wp2
      go_ret
      exact HE.out
    · have HX : Hid (pwrite d f a t = (due d).write0 f a t) := Lib.hid (by unfold pwrite; rw [if_neg (by rw [HD.out]; decide), if_neg ha])
      have hdc : decide (d.armed = 1) = false := decide_eq_false ha
      clear ha
      go_enter Tryz.func30, Tryz.ntmps30
      go_wp2_with fail
      refine HDUE.out.mono ?_
      rintro e w1 ⟨rfl, p1, s1⟩
      rw [hdc]
      have S1 := Lib.hid s1
      have HW1 := Lib.hid (HWR.out w1 p1)
      clear p1 s1 hdc HDUE HWR
      go_wp2_with fail
      refine HW1.out.mono ?_
      rintro e w2 ⟨rfl, L2, p2, s2, e2⟩
      have HE : Hid (Left r L (pwrite d f a t).1 (.int .i64 (pwrite d f a t).2) w (.returned (.int .i64 ((due d).write0 f a t).2)) w2) := Lib.hid ⟨by rw [HX.out], L2, by rw [HX.out]; exact p2, S1.out.trans s2, e2⟩
      clear p2 s2 e2 HW1 HX HQ HK
      generalize ((due d).write0 f a t).2 = res at *
      go_wp2
      go_ret
      exact HE.out

end Go.Proofs.YtbpkcgkcamkggaaGreatDoor
