/-
  The laws' examples of layer 5: the walk of small.
-/
import Derived.Test.YtpbkmphpgjdpfaaEq
set_option linter.unusedVariables false
set_option maxRecDepth 100000
namespace Go.Proofs.Ytpbkmphpgjdpfaa
open Go.RowKit

theorem row_lit1 (w : World) (a b c d : Int) (T k : Nat) (hk : k = w.heap.size) : RRow (w.alloc (.cells #[.int .i64 a, .int .i64 b, .int .i64 c, .int .i64 d] T)) (some ⟨k, 0, none⟩) [⟨a, b, c, d⟩] := fun _ =>
  ⟨_, _, rfl, by subst hk; simp, fun j hj => by
    subst hk
    have hh := heap_alloc_new w (.cells #[.int .i64 a, .int .i64 b, .int .i64 c, .int .i64 d] T)
    obtain rfl : j = 0 := by simpa using hj
    exact ⟨by rw [Lib.cell_of_heap hh]; rfl, by rw [Lib.cell_of_heap hh]; rfl, by rw [Lib.cell_of_heap hh]; rfl, by rw [Lib.cell_of_heap hh]; rfl⟩⟩
theorem row_lit3 (w : World) (a b c : Rc) (T k : Nat) (hk : k = w.heap.size) : RRow (w.alloc (.cells #[.int .i64 a.X0, .int .i64 a.Y0, .int .i64 a.X1, .int .i64 a.Y1, .int .i64 b.X0, .int .i64 b.Y0, .int .i64 b.X1, .int .i64 b.Y1, .int .i64 c.X0, .int .i64 c.Y0, .int .i64 c.X1, .int .i64 c.Y1] T)) (some ⟨k, 0, none⟩) [a, b, c] := fun _ =>
  ⟨_, _, rfl, by subst hk; simp, fun j hj => by
    subst hk
    have hh := heap_alloc_new w (.cells #[.int .i64 a.X0, .int .i64 a.Y0, .int .i64 a.X1, .int .i64 a.Y1, .int .i64 b.X0, .int .i64 b.Y0, .int .i64 b.X1, .int .i64 b.Y1, .int .i64 c.X0, .int .i64 c.Y0, .int .i64 c.X1, .int .i64 c.Y1] T)
    match j, hj with
    | 0, _ => exact ⟨by rw [Lib.cell_of_heap hh]; rfl, by rw [Lib.cell_of_heap hh]; rfl, by rw [Lib.cell_of_heap hh]; rfl, by rw [Lib.cell_of_heap hh]; rfl⟩
    | 1, _ => exact ⟨by rw [Lib.cell_of_heap hh]; rfl, by rw [Lib.cell_of_heap hh]; rfl, by rw [Lib.cell_of_heap hh]; rfl, by rw [Lib.cell_of_heap hh]; rfl⟩
    | 2, _ => exact ⟨by rw [Lib.cell_of_heap hh]; rfl, by rw [Lib.cell_of_heap hh]; rfl, by rw [Lib.cell_of_heap hh]; rfl, by rw [Lib.cell_of_heap hh]; rfl⟩⟩
theorem three (a b c : Rc) (w : World) : Keep [(w.heap.size + 1 + 1, c), (w.heap.size + 1, b), (w.heap.size, a)] w (((w.alloc (.cells #[.int .i64 a.X0, .int .i64 a.Y0, .int .i64 a.X1, .int .i64 a.Y1] 23)).alloc (.cells #[.int .i64 b.X0, .int .i64 b.Y0, .int .i64 b.X1, .int .i64 b.Y1] 23)).alloc (.cells #[.int .i64 c.X0, .int .i64 c.Y0, .int .i64 c.X1, .int .i64 c.Y1] 23)) :=
  (((Keep.nil w).new' a _ rfl).new' b _ (by simp)).new' c _ (by simp)

set_option maxHeartbeats 8000000 in
theorem small_any (w : World) : Calls Try.prog 9 #[] w (BlIs true w) := by
  have K0 := Lib.hid (three ⟨0, 0, 3, 2⟩ ⟨3, 2, 4, 4⟩ ⟨5, 0, 6, 1⟩ w)
  go_enter Try.func9, Try.ntmps9
  go_wp2_with fail
  refine (ex1 _).mono ?_
  rintro e w1 ⟨rfl, hb⟩
  have K1 := Lib.hid ((K0.out.go hb).new ⟨2, 1, 3, 2⟩); clear hb K0
  go_wp2_with fail
  refine (ex2 _).mono ?_
  rintro e w2 ⟨rfl, hb⟩
  have K2 := Lib.hid ((K1.out.go hb).new ⟨0, 2, 5, 9⟩); clear hb K1
  go_wp2_with fail
  refine (ex3 _).mono ?_
  rintro e w3 ⟨rfl, hb⟩
  have K3 := Lib.hid ((K2.out.go hb).new ⟨1, 1, 4, 2⟩); clear hb K2
  go_wp2_with fail
  refine (ex4 _).mono ?_
  rintro e w4 ⟨rfl, hb⟩
  have K4 := Lib.hid ((K3.out.go hb).new ⟨0, 0, 0, 0⟩); clear hb K3
  go_wp2_with fail
  refine (ex5 _ _ _ (row_lit1 _ 1 1 1 2 _ _ (by simp))).mono ?_
  rintro e w5 ⟨rfl, hb⟩
  have K5 := Lib.hid (((K4.out.alloc _).go hb).new ⟨0, 0, 0, 0⟩); clear hb K4
  have c0a := K5.out.2.2.2.2.2.1.c0; have c0b := K5.out.2.2.2.2.2.1.c1; have c0c := K5.out.2.2.2.2.2.1.c2; have c0d := K5.out.2.2.2.2.2.1.c3; have c0l := K5.out.2.2.2.2.2.1.lt; have c1a := K5.out.2.2.2.2.2.2.1.c0; have c1b := K5.out.2.2.2.2.2.2.1.c1; have c1c := K5.out.2.2.2.2.2.2.1.c2; have c1d := K5.out.2.2.2.2.2.2.1.c3; have c1l := K5.out.2.2.2.2.2.2.1.lt
  go_wp2_with fail
  refine (ex6 _ _ _ (row_lit3 _ ⟨5, 0, 6, 1⟩ ⟨0, 0, 0, 0⟩ ⟨3, 2, 4, 4⟩ _ _ (by simp))).mono ?_
  rintro e w6 ⟨rfl, hb⟩
  have K6 := Lib.hid (((K5.out.alloc _).go hb).new ⟨3, 0, 6, 4⟩); clear hb K5 c0a c0b c0c c0d c0l c1a c1b c1c c1d c1l
  have c0a := K6.out.2.2.2.2.2.2.2.2.1.c0; have c0b := K6.out.2.2.2.2.2.2.2.2.1.c1; have c0c := K6.out.2.2.2.2.2.2.2.2.1.c2; have c0d := K6.out.2.2.2.2.2.2.2.2.1.c3; have c0l := K6.out.2.2.2.2.2.2.2.2.1.lt
  go_wp2_with fail
  refine (ex7 _).mono ?_
  rintro e w7 ⟨rfl, hb⟩
  have K7 := Lib.hid (K6.out.go hb); clear hb K6 c0a c0b c0c c0d c0l
  have c0a := K7.out.2.2.2.2.2.2.2.2.1.c0; have c0b := K7.out.2.2.2.2.2.2.2.2.1.c1; have c0c := K7.out.2.2.2.2.2.2.2.2.1.c2; have c0d := K7.out.2.2.2.2.2.2.2.2.1.c3; have c0l := K7.out.2.2.2.2.2.2.2.2.1.lt; have c1a := K7.out.2.2.2.2.2.2.2.1.c0; have c1b := K7.out.2.2.2.2.2.2.2.1.c1; have c1c := K7.out.2.2.2.2.2.2.2.1.c2; have c1d := K7.out.2.2.2.2.2.2.2.1.c3; have c1l := K7.out.2.2.2.2.2.2.2.1.lt; have c2a := K7.out.2.2.2.2.2.1.c0; have c2b := K7.out.2.2.2.2.2.1.c1; have c2c := K7.out.2.2.2.2.2.1.c2; have c2d := K7.out.2.2.2.2.2.1.c3; have c2l := K7.out.2.2.2.2.2.1.lt
  go_wp2_with fail
  refine (ex8 _).mono ?_
  rintro e w8 ⟨rfl, hb⟩
  have K8 := Lib.hid (K7.out.go hb); clear hb K7 c0a c0b c0c c0d c0l c1a c1b c1c c1d c1l c2a c2b c2c c2d c2l
  have c0a := K8.out.2.2.2.2.2.2.2.2.1.c0; have c0b := K8.out.2.2.2.2.2.2.2.2.1.c1; have c0c := K8.out.2.2.2.2.2.2.2.2.1.c2; have c0d := K8.out.2.2.2.2.2.2.2.2.1.c3; have c0l := K8.out.2.2.2.2.2.2.2.2.1.lt; have c1a := K8.out.2.2.2.2.2.2.1.c0; have c1b := K8.out.2.2.2.2.2.2.1.c1; have c1c := K8.out.2.2.2.2.2.2.1.c2; have c1d := K8.out.2.2.2.2.2.2.1.c3; have c1l := K8.out.2.2.2.2.2.2.1.lt
  go_wp2_with fail
  refine (ex9 _).mono ?_
  rintro e w9 ⟨rfl, hb⟩
  have K9 := Lib.hid (K8.out.go hb); clear hb K8 c0a c0b c0c c0d c0l c1a c1b c1c c1d c1l
  have c0a := K9.out.2.2.2.2.2.2.2.2.1.c0; have c0b := K9.out.2.2.2.2.2.2.2.2.1.c1; have c0c := K9.out.2.2.2.2.2.2.2.2.1.c2; have c0d := K9.out.2.2.2.2.2.2.2.2.1.c3; have c0l := K9.out.2.2.2.2.2.2.2.2.1.lt
  go_wp2_with fail
  refine (ex10 _).mono ?_
  rintro e w10 ⟨rfl, hb⟩
  have K10 := Lib.hid (K9.out.go hb); clear hb K9 c0a c0b c0c c0d c0l
  have c0a := K10.out.2.2.2.2.2.2.2.2.1.c0; have c0b := K10.out.2.2.2.2.2.2.2.2.1.c1; have c0c := K10.out.2.2.2.2.2.2.2.2.1.c2; have c0d := K10.out.2.2.2.2.2.2.2.2.1.c3; have c0l := K10.out.2.2.2.2.2.2.2.2.1.lt; have c1a := K10.out.2.2.2.2.2.2.2.1.c0; have c1b := K10.out.2.2.2.2.2.2.2.1.c1; have c1c := K10.out.2.2.2.2.2.2.2.1.c2; have c1d := K10.out.2.2.2.2.2.2.2.1.c3; have c1l := K10.out.2.2.2.2.2.2.2.1.lt
  go_wp2_with fail
  refine (ex11 _).mono ?_
  rintro e w11 ⟨rfl, hb⟩
  have K11 := Lib.hid (K10.out.go hb); clear hb K10 c0a c0b c0c c0d c0l c1a c1b c1c c1d c1l
  have c0a := K11.out.2.2.2.2.2.2.2.2.1.c0; have c0b := K11.out.2.2.2.2.2.2.2.2.1.c1; have c0c := K11.out.2.2.2.2.2.2.2.2.1.c2; have c0d := K11.out.2.2.2.2.2.2.2.2.1.c3; have c0l := K11.out.2.2.2.2.2.2.2.2.1.lt
  go_wp2_with fail
  refine (ex12 _).mono ?_
  rintro e w12 ⟨rfl, hb⟩
  have K12 := Lib.hid (K11.out.go hb); clear hb K11 c0a c0b c0c c0d c0l
  have c0a := K12.out.2.2.2.2.1.c0; have c0b := K12.out.2.2.2.2.1.c1; have c0c := K12.out.2.2.2.2.1.c2; have c0d := K12.out.2.2.2.2.1.c3; have c0l := K12.out.2.2.2.2.1.lt; have c1a := K12.out.2.2.2.1.c0; have c1b := K12.out.2.2.2.1.c1; have c1c := K12.out.2.2.2.1.c2; have c1d := K12.out.2.2.2.1.c3; have c1l := K12.out.2.2.2.1.lt; have c2a := K12.out.1.c0; have c2b := K12.out.1.c1; have c2c := K12.out.1.c2; have c2d := K12.out.1.c3; have c2l := K12.out.1.lt
  go_wp2_with fail
  go_ret
  exact ⟨rfl, K12.out.below⟩
end Go.Proofs.Ytpbkmphpgjdpfaa
