/-
  SunMoves: the walk of the law where a number is out of its bounds, part 1.
-/
import Derived.Test.YtdnoadngfkiabaaP942
set_option linter.unusedVariables false
set_option maxRecDepth 100000
namespace Go.Proofs.Ytdnoadngfkiabaa
open Go.RowKit

set_option maxHeartbeats 80000000 in
theorem moves12_o0 (A : Option Addr) (cap : Nat) (T : List V3) (B : Option Addr) (cb : Nat) (l : List Bx) (p b : V3) (tm : Int) (w : World) (hT : TbIn w A cap T) (hl : BIn w B cb l) (hout : ¬ (¬ 24 < (T.length : Int) ∧ ¬ 5 < (l.length : Int) ∧ ¬ p.x < 0 ∧ ¬ 1000 < p.x)) :
    Calls Try.prog 6 #[.slice A T.length cap, .slice B l.length cb, .agg #[.int .i64 p.x, .int .i64 p.y, .int .i64 p.z], .agg #[.int .i64 b.x, .int .i64 b.y, .int .i64 b.z], .int .i64 tm] w (BlIs true w) := by
  have HOUT := Lib.hid hout; clear hout
  have HSM := Lib.hid (fun w' => ismall_any w')
  have HTR := Lib.hid hT.row
  have HROW := Lib.hid hl.row
  have t1 := hT.len
  have t2 := hl.len
  clear hT hl
  obtain ⟨w0, hw0⟩ : ∃ w0, w0 = (w.alloc (.cells #[.int .i64 p.x, .int .i64 p.y, .int .i64 p.z] 25)).alloc (.cells #[.int .i64 b.x, .int .i64 b.y, .int .i64 b.z] 25) := ⟨_, rfl⟩
  have HB : Hid (Below w.heap.size w w0) := Lib.hid (by rw [hw0]; exact ((Below.refl _ _).alloc (Nat.le_refl _) _).alloc (by simp) _)
  have Hp : Hid (P3At w0 w.heap.size p) := Lib.hid (by rw [hw0]; exact (heap2 w _ _).1)
  have Hb : Hid (P3At w0 (w.heap.size + 1) b) := Lib.hid (by rw [hw0]; exact (heap2 w _ _).2)
  have HW0 := Lib.hid hw0
  clear hw0
  go_enter Try.func6, Try.ntmps6
  go_upto_region 1 with fail
  rw [← HW0.out]; clear HW0
  generalize w.heap.size + 1 = gb at *
  obtain ⟨gp, hgp⟩ : ∃ gp, gp = w.heap.size := ⟨_, rfl⟩
  rw [← hgp] at Hp
  simp only [← hgp]
  clear hgp
  go_wp2_with fail
  with_reducible refine Calls.mono (HSM.out _) ?_
  rintro e w1 ⟨rfl, hb⟩
  replace Hp := Lib.hid (Hp.out.go hb)
  replace Hb := Lib.hid (Hb.out.go hb)
  replace HB := Lib.hid (HB.out.trans (hb.mono HB.out.size))
  clear hb HSM
  have p0 := Hp.out.c0; have p1 := Hp.out.c1; have p2 := Hp.out.c2; have pl := Hp.out.lt
  have b0 := Hb.out.c0; have b1 := Hb.out.c1; have b2 := Hb.out.c2; have bl := Hb.out.lt
  by_cases c0 : 24 < (T.length : Int)
  case pos =>
    clear HROW HTR HOUT
    go_wp2_with fail
    go_ret
    exact ⟨rfl, HB.out⟩
  case neg =>
  by_cases c1 : 5 < (l.length : Int)
  case pos =>
    clear HROW HTR HOUT
    go_wp2_with fail
    go_ret
    exact ⟨rfl, HB.out⟩
  case neg =>
  by_cases c2 : p.x < 0
  case pos =>
    clear HROW HTR HOUT
    go_wp2_with fail
    go_ret
    exact ⟨rfl, HB.out⟩
  case neg =>
  by_cases c3 : 1000 < p.x
  case pos =>
    clear HROW HTR HOUT
    go_wp2_with fail
    go_ret
    exact ⟨rfl, HB.out⟩
  case neg =>
  exfalso
  have hh := HOUT.out
  clear HOUT
  omega
end Go.Proofs.Ytdnoadngfkiabaa
