/-
  The walk of RectTells.
-/
import Derived.Test.YtpbkmphpgjdpfaaEr
import Derived.Test.YtpbkmphpgjdpfaaEd
import Derived.Test.YtpbkmphpgjdpfaaEe
import Derived.Test.YtpbkmphpgjdpfaaEf
import Derived.Test.YtpbkmphpgjdpfaaEg
import Derived.Deep.RegionHeld3
set_option linter.unusedVariables false
set_option maxRecDepth 100000
namespace Go.Proofs.Ytpbkmphpgjdpfaa
open Go.RowKit

theorem twoT (a b : Rc) (w : World) : Keep [(w.heap.size + 1, b), (w.heap.size, a)] w ((w.alloc (.cells #[.int .i64 a.X0, .int .i64 a.Y0, .int .i64 a.X1, .int .i64 a.Y1] 23)).alloc (.cells #[.int .i64 b.X0, .int .i64 b.Y0, .int .i64 b.X1, .int .i64 b.Y1] 23)) :=
  ((Keep.nil w).new' a _ rfl).new' b _ (by simp)
/-- what the last regions read. -/
def Bx (p : Nat) (a0 a1 a2 a3 b0 b1 b2 b3 : Int) (L : List (Nat × Rc)) (w0 w : World) : Prop :=
  w.cell? ⟨p, 0, none⟩ = some (.int .i64 a0) ∧ w.cell? ⟨p, 1, none⟩ = some (.int .i64 a1) ∧ w.cell? ⟨p, 2, none⟩ = some (.int .i64 a2) ∧ w.cell? ⟨p, 3, none⟩ = some (.int .i64 a3) ∧ w.cell? ⟨p + 1, 0, none⟩ = some (.int .i64 b0) ∧ w.cell? ⟨p + 1, 1, none⟩ = some (.int .i64 b1) ∧ w.cell? ⟨p + 1, 2, none⟩ = some (.int .i64 b2) ∧ w.cell? ⟨p + 1, 3, none⟩ = some (.int .i64 b3) ∧ p < w.heap.size ∧ p + 1 < w.heap.size ∧ Hid (Keep L w0 w)
theorem Bx.go {p : Nat} {a0 a1 a2 a3 b0 b1 b2 b3 : Int} {L : List (Nat × Rc)} {w0 w w' : World} (h : Bx p a0 a1 a2 a3 b0 b1 b2 b3 L w0 w) (hb : Below w.heap.size w w') : Bx p a0 a1 a2 a3 b0 b1 b2 b3 L w0 w' := by
  obtain ⟨h1, h2, h3, h4, h5, h6, h7, h8, a, b, hk⟩ := h
  have hs := hb.size
  exact ⟨(hb.cell (p := ⟨p, 0, none⟩) a).trans h1, (hb.cell (p := ⟨p, 1, none⟩) a).trans h2, (hb.cell (p := ⟨p, 2, none⟩) a).trans h3, (hb.cell (p := ⟨p, 3, none⟩) a).trans h4, (hb.cell (p := ⟨p + 1, 0, none⟩) b).trans h5, (hb.cell (p := ⟨p + 1, 1, none⟩) b).trans h6, (hb.cell (p := ⟨p + 1, 2, none⟩) b).trans h7, (hb.cell (p := ⟨p + 1, 3, none⟩) b).trans h8, by omega, by omega, Lib.hid (hk.out.go hb)⟩
theorem Bx.drewN {p : Nat} {a0 a1 a2 a3 b0 b1 b2 b3 : Int} {L : List (Nat × Rc)} {w0 w : World} (h : Bx p a0 a1 a2 a3 b0 b1 b2 b3 L w0 w) (n : Nat) : Bx p a0 a1 a2 a3 b0 b1 b2 b3 L w0 (w.drewN n) := h.go (below_drewN (Below.refl _ _) n)

set_option maxHeartbeats 40000000 in
theorem tells_core (a0 a1 a2 a3 b0 b1 b2 b3 x y d c0 c1 c2 c3 f0 f1 f2 f3 h0 h1 h2 h3 ar gp : Int) (cb fb hb0 ok has ins tch : Bool) (w : World)
    (Hc : Hid (∀ w, Calls Try.prog 10 #[.agg #[.int .i64 a0, .int .i64 a1, .int .i64 a2, .int .i64 a3], .agg #[.int .i64 b0, .int .i64 b1, .int .i64 b2, .int .i64 b3]] w (RbIs (⟨c0, c1, c2, c3⟩, cb) w))) (Uc : Hid (∀ w, Calls Try.prog 11 #[.agg #[.int .i64 a0, .int .i64 a1, .int .i64 a2, .int .i64 a3], .agg #[.int .i64 b0, .int .i64 b1, .int .i64 b2, .int .i64 b3]] w (RbIs (⟨c0, c1, c2, c3⟩, cb) w)))
    (Hf : Hid (∀ w, Calls Try.prog 12 #[.agg #[.int .i64 a0, .int .i64 a1, .int .i64 a2, .int .i64 a3], .int .i64 d] w (RbIs (⟨f0, f1, f2, f3⟩, fb) w))) (Uf : Hid (∀ w, Calls Try.prog 13 #[.agg #[.int .i64 a0, .int .i64 a1, .int .i64 a2, .int .i64 a3], .int .i64 d] w (RbIs (⟨f0, f1, f2, f3⟩, fb) w)))
    (Hh : Hid (∀ w, Calls Try.prog 14 #[.agg #[.int .i64 a0, .int .i64 a1, .int .i64 a2, .int .i64 a3], .int .i64 d] w (RbIs (⟨h0, h1, h2, h3⟩, hb0) w))) (Uh : Hid (∀ w, Calls Try.prog 15 #[.agg #[.int .i64 a0, .int .i64 a1, .int .i64 a2, .int .i64 a3], .int .i64 d] w (RbIs (⟨h0, h1, h2, h3⟩, hb0) w)))
    (Hr : Hid (∀ w, Calls Try.prog 16 #[.agg #[.int .i64 a0, .int .i64 a1, .int .i64 a2, .int .i64 a3]] w (BlIs ok w))) (Ur : Hid (∀ w, Calls Try.prog 17 #[.agg #[.int .i64 a0, .int .i64 a1, .int .i64 a2, .int .i64 a3]] w (BlIs ok w)))
    (Ha : Hid (∀ w, Calls Try.prog 18 #[.agg #[.int .i64 a0, .int .i64 a1, .int .i64 a2, .int .i64 a3]] w (InIs ar w))) (Ua : Hid (∀ w, Calls Try.prog 19 #[.agg #[.int .i64 a0, .int .i64 a1, .int .i64 a2, .int .i64 a3]] w (InIs ar w)))
    (Hs : Hid (∀ w, Calls Try.prog 20 #[.agg #[.int .i64 a0, .int .i64 a1, .int .i64 a2, .int .i64 a3], .int .i64 x, .int .i64 y] w (BlIs has w))) (Us : Hid (∀ w, Calls Try.prog 21 #[.agg #[.int .i64 a0, .int .i64 a1, .int .i64 a2, .int .i64 a3], .int .i64 x, .int .i64 y] w (BlIs has w)))
    (Hi : Hid (∀ w, Calls Try.prog 22 #[.agg #[.int .i64 a0, .int .i64 a1, .int .i64 a2, .int .i64 a3], .agg #[.int .i64 b0, .int .i64 b1, .int .i64 b2, .int .i64 b3]] w (BlIs ins w))) (Ui : Hid (∀ w, Calls Try.prog 23 #[.agg #[.int .i64 a0, .int .i64 a1, .int .i64 a2, .int .i64 a3], .agg #[.int .i64 b0, .int .i64 b1, .int .i64 b2, .int .i64 b3]] w (BlIs ins w)))
    (Ht : Hid (∀ w, Calls Try.prog 24 #[.agg #[.int .i64 a0, .int .i64 a1, .int .i64 a2, .int .i64 a3], .agg #[.int .i64 b0, .int .i64 b1, .int .i64 b2, .int .i64 b3]] w (BlIs tch w))) (Ut : Hid (∀ w, Calls Try.prog 25 #[.agg #[.int .i64 a0, .int .i64 a1, .int .i64 a2, .int .i64 a3], .agg #[.int .i64 b0, .int .i64 b1, .int .i64 b2, .int .i64 b3]] w (BlIs tch w)))
    (Hg : Hid (∀ w, Calls Try.prog 26 #[.agg #[.int .i64 a0, .int .i64 a1, .int .i64 a2, .int .i64 a3], .agg #[.int .i64 b0, .int .i64 b1, .int .i64 b2, .int .i64 b3]] w (InIs gp w))) (Ug : Hid (∀ w, Calls Try.prog 27 #[.agg #[.int .i64 a0, .int .i64 a1, .int .i64 a2, .int .i64 a3], .agg #[.int .i64 b0, .int .i64 b1, .int .i64 b2, .int .i64 b3]] w (InIs gp w))) :
    Calls Try.prog 3 #[.agg #[.int .i64 a0, .int .i64 a1, .int .i64 a2, .int .i64 a3], .agg #[.int .i64 b0, .int .i64 b1, .int .i64 b2, .int .i64 b3], .int .i64 x, .int .i64 y, .int .i64 d] w (BlIs true w) := by
  have K0 := Lib.hid (twoT ⟨a0, a1, a2, a3⟩ ⟨b0, b1, b2, b3⟩ w)
  go_enter Try.func3, Try.ntmps3
  go_wp2_with fail
  refine (small_any _).mono ?_
  rintro e1 w1 ⟨rfl, hb⟩
  have K1 := Lib.hid (K0.out.go hb); clear hb K0
  have c_a0 := K1.out.2.1.c0; have c_a1 := K1.out.2.1.c1; have c_a2 := K1.out.2.1.c2; have c_a3 := K1.out.2.1.c3; have c_al := K1.out.2.1.lt; have c_b0 := K1.out.1.c0; have c_b1 := K1.out.1.c1; have c_b2 := K1.out.1.c2; have c_b3 := K1.out.1.c3; have c_bl := K1.out.1.lt
  go_wp2_with fail
  refine (Hc.out _).mono ?_
  rintro e1 w2 ⟨rfl, hb⟩
  have K2 := Lib.hid ((K1.out.go hb).new ⟨c0, c1, c2, c3⟩); clear hb K1 c_a0 c_a1 c_a2 c_a3 c_al c_b0 c_b1 c_b2 c_b3 c_bl
  have c_a0 := K2.out.2.2.1.c0; have c_a1 := K2.out.2.2.1.c1; have c_a2 := K2.out.2.2.1.c2; have c_a3 := K2.out.2.2.1.c3; have c_al := K2.out.2.2.1.lt; have c_b0 := K2.out.2.1.c0; have c_b1 := K2.out.2.1.c1; have c_b2 := K2.out.2.1.c2; have c_b3 := K2.out.2.1.c3; have c_bl := K2.out.2.1.lt
  go_wp2_with fail
  refine (Uc.out _).mono ?_
  rintro e1 w3 ⟨rfl, hb⟩
  have K3 := Lib.hid ((K2.out.go hb).new ⟨c0, c1, c2, c3⟩); clear hb K2 c_a0 c_a1 c_a2 c_a3 c_al c_b0 c_b1 c_b2 c_b3 c_bl
  have c_a0 := K3.out.2.2.2.1.c0; have c_a1 := K3.out.2.2.2.1.c1; have c_a2 := K3.out.2.2.2.1.c2; have c_a3 := K3.out.2.2.2.1.c3; have c_al := K3.out.2.2.2.1.lt
  go_wp2_with fail
  refine (Hf.out _).mono ?_
  rintro e1 w4 ⟨rfl, hb⟩
  have K4 := Lib.hid ((K3.out.go hb).new ⟨f0, f1, f2, f3⟩); clear hb K3 c_a0 c_a1 c_a2 c_a3 c_al
  have c_a0 := K4.out.2.2.2.2.1.c0; have c_a1 := K4.out.2.2.2.2.1.c1; have c_a2 := K4.out.2.2.2.2.1.c2; have c_a3 := K4.out.2.2.2.2.1.c3; have c_al := K4.out.2.2.2.2.1.lt
  go_wp2_with fail
  refine (Uf.out _).mono ?_
  rintro e1 w5 ⟨rfl, hb⟩
  have K5 := Lib.hid ((K4.out.go hb).new ⟨f0, f1, f2, f3⟩); clear hb K4 c_a0 c_a1 c_a2 c_a3 c_al
  have c_a0 := K5.out.2.2.2.2.2.1.c0; have c_a1 := K5.out.2.2.2.2.2.1.c1; have c_a2 := K5.out.2.2.2.2.2.1.c2; have c_a3 := K5.out.2.2.2.2.2.1.c3; have c_al := K5.out.2.2.2.2.2.1.lt
  go_wp2_with fail
  refine (Hh.out _).mono ?_
  rintro e1 w6 ⟨rfl, hb⟩
  have K6 := Lib.hid ((K5.out.go hb).new ⟨h0, h1, h2, h3⟩); clear hb K5 c_a0 c_a1 c_a2 c_a3 c_al
  have c_a0 := K6.out.2.2.2.2.2.2.1.c0; have c_a1 := K6.out.2.2.2.2.2.2.1.c1; have c_a2 := K6.out.2.2.2.2.2.2.1.c2; have c_a3 := K6.out.2.2.2.2.2.2.1.c3; have c_al := K6.out.2.2.2.2.2.2.1.lt
  go_wp2_with fail
  refine (Uh.out _).mono ?_
  rintro e1 w7 ⟨rfl, hb⟩
  have K7 := Lib.hid ((K6.out.go hb).new ⟨h0, h1, h2, h3⟩); clear hb K6 c_a0 c_a1 c_a2 c_a3 c_al
  go_wp2_with fail
  have KB : Bx w.heap.size a0 a1 a2 a3 b0 b1 b2 b3 _ w _ := ⟨K7.out.2.2.2.2.2.2.2.1.c0, K7.out.2.2.2.2.2.2.2.1.c1, K7.out.2.2.2.2.2.2.2.1.c2, K7.out.2.2.2.2.2.2.2.1.c3, K7.out.2.2.2.2.2.2.1.c0, K7.out.2.2.2.2.2.2.1.c1, K7.out.2.2.2.2.2.2.1.c2, K7.out.2.2.2.2.2.2.1.c3, K7.out.2.2.2.2.2.2.2.1.lt, K7.out.2.2.2.2.2.2.1.lt, Lib.hid K7.out⟩
  have K := Lib.hid KB; clear KB K7
  generalize World.alloc w7 _ = wz at *
  generalize hp : w.heap.size = p at *
  have HP := Lib.hid hp; clear hp
  go_region_held3 (fun w' => w'.cell? ⟨p, 0, none⟩ = some (.int .i64 a0) ∧ w'.cell? ⟨p, 1, none⟩ = some (.int .i64 a1) ∧ w'.cell? ⟨p, 2, none⟩ = some (.int .i64 a2) ∧ w'.cell? ⟨p, 3, none⟩ = some (.int .i64 a3) ∧ w'.cell? ⟨p + 1, 0, none⟩ = some (.int .i64 b0) ∧ w'.cell? ⟨p + 1, 1, none⟩ = some (.int .i64 b1) ∧ w'.cell? ⟨p + 1, 2, none⟩ = some (.int .i64 b2) ∧ w'.cell? ⟨p + 1, 3, none⟩ = some (.int .i64 b3) ∧ p < w'.heap.size ∧ p + 1 < w'.heap.size ∧ Hid (Keep [(w7.heap.size, ⟨h0, h1, h2, h3⟩), (w6.heap.size, ⟨h0, h1, h2, h3⟩), (w5.heap.size, ⟨f0, f1, f2, f3⟩), (w4.heap.size, ⟨f0, f1, f2, f3⟩), (w3.heap.size, ⟨c0, c1, c2, c3⟩), (w2.heap.size, ⟨c0, c1, c2, c3⟩), (p + 1, ⟨b0, b1, b2, b3⟩), (p, ⟨a0, a1, a2, a3⟩)] w w'))
    (first | exact K.out | exact Bx.drewN K.out 1 | exact Bx.go ‹_› ‹_›)
    (first
      | (go_at_call 16; refine (Hr.out _).mono ?_; rintro e w' ⟨rfl, hb⟩)
      | (go_at_call 17; refine (Ur.out _).mono ?_; rintro e w' ⟨rfl, hb⟩)
      | (go_at_call 18; refine (Ha.out _).mono ?_; rintro e w' ⟨rfl, hb⟩)
      | (go_at_call 19; refine (Ua.out _).mono ?_; rintro e w' ⟨rfl, hb⟩)
      | (go_at_call 20; refine (Hs.out _).mono ?_; rintro e w' ⟨rfl, hb⟩)
      | (go_at_call 21; refine (Us.out _).mono ?_; rintro e w' ⟨rfl, hb⟩)
      | (go_at_call 22; refine (Hi.out _).mono ?_; rintro e w' ⟨rfl, hb⟩)
      | (go_at_call 23; refine (Ui.out _).mono ?_; rintro e w' ⟨rfl, hb⟩))
  go_wp2_with fail
  have KB : Bx p a0 a1 a2 a3 b0 b1 b2 b3 [(w7.heap.size, ⟨h0, h1, h2, h3⟩), (w6.heap.size, ⟨h0, h1, h2, h3⟩), (w5.heap.size, ⟨f0, f1, f2, f3⟩), (w4.heap.size, ⟨f0, f1, f2, f3⟩), (w3.heap.size, ⟨c0, c1, c2, c3⟩), (w2.heap.size, ⟨c0, c1, c2, c3⟩), (p + 1, ⟨b0, b1, b2, b3⟩), (p, ⟨a0, a1, a2, a3⟩)] w w' := by assumption
  clear K; have K := Lib.hid KB; clear KB
  generalize w' = wy at *
  go_region_held3 (fun w' => w'.cell? ⟨p, 0, none⟩ = some (.int .i64 a0) ∧ w'.cell? ⟨p, 1, none⟩ = some (.int .i64 a1) ∧ w'.cell? ⟨p, 2, none⟩ = some (.int .i64 a2) ∧ w'.cell? ⟨p, 3, none⟩ = some (.int .i64 a3) ∧ w'.cell? ⟨p + 1, 0, none⟩ = some (.int .i64 b0) ∧ w'.cell? ⟨p + 1, 1, none⟩ = some (.int .i64 b1) ∧ w'.cell? ⟨p + 1, 2, none⟩ = some (.int .i64 b2) ∧ w'.cell? ⟨p + 1, 3, none⟩ = some (.int .i64 b3) ∧ p < w'.heap.size ∧ p + 1 < w'.heap.size ∧ Hid (Keep [(w7.heap.size, ⟨h0, h1, h2, h3⟩), (w6.heap.size, ⟨h0, h1, h2, h3⟩), (w5.heap.size, ⟨f0, f1, f2, f3⟩), (w4.heap.size, ⟨f0, f1, f2, f3⟩), (w3.heap.size, ⟨c0, c1, c2, c3⟩), (w2.heap.size, ⟨c0, c1, c2, c3⟩), (p + 1, ⟨b0, b1, b2, b3⟩), (p, ⟨a0, a1, a2, a3⟩)] w w'))
    (first | exact K.out | exact Bx.drewN K.out 1 | exact Bx.go ‹_› ‹_›)
    (first
      | (go_at_call 24; refine (Ht.out _).mono ?_; rintro e w' ⟨rfl, hb⟩)
      | (go_at_call 25; refine (Ut.out _).mono ?_; rintro e w' ⟨rfl, hb⟩)
      | (go_at_call 26; refine (Hg.out _).mono ?_; rintro e w' ⟨rfl, hb⟩)
      | (go_at_call 27; refine (Ug.out _).mono ?_; rintro e w' ⟨rfl, hb⟩))
  have KB : Bx p a0 a1 a2 a3 b0 b1 b2 b3 [(w7.heap.size, ⟨h0, h1, h2, h3⟩), (w6.heap.size, ⟨h0, h1, h2, h3⟩), (w5.heap.size, ⟨f0, f1, f2, f3⟩), (w4.heap.size, ⟨f0, f1, f2, f3⟩), (w3.heap.size, ⟨c0, c1, c2, c3⟩), (w2.heap.size, ⟨c0, c1, c2, c3⟩), (p + 1, ⟨b0, b1, b2, b3⟩), (p, ⟨a0, a1, a2, a3⟩)] w w' := by assumption
  have K8 := KB.2.2.2.2.2.2.2.2.2.2; clear KB K
  have c_c0 := K8.out.2.2.2.2.2.1.c0; have c_c1 := K8.out.2.2.2.2.2.1.c1; have c_c2 := K8.out.2.2.2.2.2.1.c2; have c_c3 := K8.out.2.2.2.2.2.1.c3; have c_cl := K8.out.2.2.2.2.2.1.lt; have c_e0 := K8.out.2.2.2.2.1.c0; have c_e1 := K8.out.2.2.2.2.1.c1; have c_e2 := K8.out.2.2.2.2.1.c2; have c_e3 := K8.out.2.2.2.2.1.c3; have c_el := K8.out.2.2.2.2.1.lt; have c_f0 := K8.out.2.2.2.1.c0; have c_f1 := K8.out.2.2.2.1.c1; have c_f2 := K8.out.2.2.2.1.c2; have c_f3 := K8.out.2.2.2.1.c3; have c_fl := K8.out.2.2.2.1.lt; have c_g0 := K8.out.2.2.1.c0; have c_g1 := K8.out.2.2.1.c1; have c_g2 := K8.out.2.2.1.c2; have c_g3 := K8.out.2.2.1.c3; have c_gl := K8.out.2.2.1.lt; have c_h0 := K8.out.2.1.c0; have c_h1 := K8.out.2.1.c1; have c_h2 := K8.out.2.1.c2; have c_h3 := K8.out.2.1.c3; have c_hl := K8.out.2.1.lt; have c_i0 := K8.out.1.c0; have c_i1 := K8.out.1.c1; have c_i2 := K8.out.1.c2; have c_i3 := K8.out.1.c3; have c_il := K8.out.1.lt
  go_wp2_with fail
  go_ret
  exact ⟨rfl, K8.out.below⟩

theorem tells_walk (a b : Rc) (x y d : Int) (ia : InR a) (ib : InR b) (hx : In64 x) (hy : In64 y) (hd : In64 d) (w : World) :
    Calls Try.prog 3 #[.agg #[.int .i64 a.X0, .int .i64 a.Y0, .int .i64 a.X1, .int .i64 a.Y1], .agg #[.int .i64 b.X0, .int .i64 b.Y0, .int .i64 b.X1, .int .i64 b.Y1], .int .i64 x, .int .i64 y, .int .i64 d] w (BlIs true w) :=
  tells_core a.X0 a.Y0 a.X1 a.Y1 b.X0 b.Y0 b.X1 b.Y1 x y d _ _ _ _ _ _ _ _ _ _ _ _ _ _ _ _ _ _ _ _ _ w
    (Lib.hid fun w => tinter_any a b w) (Lib.hid fun w => uinter_any a b ia ib w) (Lib.hid fun w => tgrow_any a d hd w) (Lib.hid fun w => ugrow_any a d ia hd w)
    (Lib.hid fun w => tshrink_any a d hd w) (Lib.hid fun w => ushrink_any a d ia hd w) (Lib.hid fun w => tright_nd _ _ _ _ w) (Lib.hid fun w => uright_nd _ _ _ _ w)
    (Lib.hid fun w => tarea_any a ia w) (Lib.hid fun w => uarea_any a ia w) (Lib.hid fun w => thas_any a x y ia w) (Lib.hid fun w => uhas_any a x y ia w)
    (Lib.hid fun w => tinside_any a b w) (Lib.hid fun w => uinside_any a b ia ib w) (Lib.hid fun w => ttouch_any a b w) (Lib.hid fun w => utouch_any a b ia ib w)
    (Lib.hid fun w => tgap_any a b w) (Lib.hid fun w => ugap_any a b ia ib w)
end Go.Proofs.Ytpbkmphpgjdpfaa
