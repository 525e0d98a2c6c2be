/-
  What a law over fractions keeps of its own memory; the walk of RatioRounds.
-/
import Derived.Test.YtlkpebcmdkmfjaaQi
import Derived.Test.YtlkpebcmdkmfjaaQh
set_option linter.unusedVariables false
set_option maxRecDepth 100000
namespace Go.Proofs.Ytlkpebcmdkmfjaa
open Go.RowKit

theorem FrAt.c0 {w : World} {b : Nat} {N D : Int} (h : FrAt w b ⟨N, D⟩) : w.cell? ⟨b, 0, none⟩ = some (.int .i64 N) := h.cell0
theorem FrAt.c1 {w : World} {b : Nat} {N D : Int} (h : FrAt w b ⟨N, D⟩) : w.cell? ⟨b, 1, none⟩ = some (.int .i64 D) := h.cell1
/-- the fractions at these blocks, and that nothing that was there at w0 has turned. -/
def Keep : List (Nat × Fr) → World → World → Prop
  | [], w0, w => Below w0.heap.size w0 w
  | (b, r) :: L, w0, w => FrAt w b r ∧ Keep L w0 w
theorem Keep.go : ∀ {L : List (Nat × Fr)} {w0 w w' : World}, Keep L w0 w → Below w.heap.size w w' → Keep L w0 w'
  | [], _, _, _, h, hb => Below.trans h (Below.mono hb (Below.size h))
  | (_, _) :: _, _, _, _, h, hb => ⟨h.1.below hb h.1.lt, Keep.go h.2 hb⟩
theorem Keep.below : ∀ {L : List (Nat × Fr)} {w0 w : World}, Keep L w0 w → Below w0.heap.size w0 w
  | [], _, _, h => h
  | (_, _) :: _, _, _, h => Keep.below h.2
theorem Keep.alloc {L : List (Nat × Fr)} {w0 w : World} (h : Keep L w0 w) (o : Obj) : Keep L w0 (w.alloc o) := h.go ((Below.refl _ _).alloc (Nat.le_refl _) o)
theorem Keep.drewN {L : List (Nat × Fr)} {w0 w : World} (h : Keep L w0 w) (n : Nat) : Keep L w0 (w.drewN n) := h.go (below_drewN (Below.refl _ _) n)
theorem Keep.new {L : List (Nat × Fr)} {w0 w : World} (h : Keep L w0 w) (r : Fr) : Keep ((w.heap.size, r) :: L) w0 (w.alloc (.cells #[.int .i64 r.N, .int .i64 r.D] 23)) := ⟨FrAt.new w r, h.alloc _⟩
theorem Keep.new' {L : List (Nat × Fr)} {w0 w : World} (h : Keep L w0 w) (r : Fr) (k : Nat) (hk : k = w.heap.size) : Keep ((k, r) :: L) w0 (w.alloc (.cells #[.int .i64 r.N, .int .i64 r.D] 23)) := ⟨FrAt.new' w r k hk, h.alloc _⟩
theorem Keep.nil (w : World) : Keep [] w w := Below.refl _ _

set_option maxHeartbeats 8000000 in
theorem rounds_walk (r : Fr) (hr : InF r) (w : World) : Calls Try.prog 7 #[.agg #[.int .i64 r.N, .int .i64 r.D]] w (BlIs true w) := by
  have hr2 := hr
  obtain ⟨rn, rd⟩ := hr
  have K0 := Lib.hid ((Keep.nil w).new r)
  by_cases k : FOk r
  · have o : okB ⟨r.N, r.D⟩ = true := (okB_iff r).2 k
    have hf := floor_bd k
    have h1 : 1 ≤ r.D := k.1
    have h2 : r.D ≤ 1073741824 := k.2.1
    have h3 : -1073741824 ≤ r.N := k.2.2.1
    have h4 : r.N ≤ 1073741824 := k.2.2.2.1
    have HFL := Lib.hid (fun w => floor_any r hr2 w)
    have HCE := Lib.hid (fun w => ceil_any r hr2 w)
    by_cases hd : r.D = 1
    · obtain ⟨e1, e2⟩ := ceil_one k hd
      rw [e2] at e1
      rw [e1] at HCE
      rw [e2] at HFL
      have d1 : (r.D == 1) = true := by simp [hd]
      have p1 : r.N * r.D = r.N := by rw [hd]; omega
      have p2 : (r.N + 1) * r.D = r.N + 1 := by rw [hd]; omega
      have HD := Lib.hid hd
      clear k hf hd e1 e2 hr2
      go_enter Try.func7, Try.ntmps7
      go_wp2_with fail
      refine (small_any _).mono ?_
      rintro e w1 ⟨rfl, hb⟩
      have K1 := Lib.hid (K0.out.go hb); clear hb K0
      have c0 := K1.out.1.cell0; have c1 := K1.out.1.cell1; have lt := K1.out.1.lt
      go_wp2_with fail
      refine (rright_nd _ _ rn rd _).mono ?_
      rintro e w2 ⟨rfl, hb⟩
      have K2 := Lib.hid (K1.out.go hb); clear hb K1 c0 c1 lt
      have c0 := K2.out.1.cell0; have c1 := K2.out.1.cell1; have lt := K2.out.1.lt
      go_wp2_with fail
      refine (HFL.out _).mono ?_
      rintro e w3 ⟨rfl, hb⟩
      have K3 := Lib.hid (K2.out.go hb); clear hb K2 c0 c1 lt
      have c0 := K3.out.1.cell0; have c1 := K3.out.1.cell1; have lt := K3.out.1.lt
      go_wp2_with fail
      refine (HCE.out _).mono ?_
      rintro e w4 ⟨rfl, hb⟩
      have K4 := Lib.hid (K3.out.go hb); clear hb K3 c0 c1 lt
      have c0 := K4.out.1.cell0; have c1 := K4.out.1.cell1; have lt := K4.out.1.lt
      go_wp2
      go_ret
      exact ⟨rfl, K4.out.below⟩
    · have e1 := ceil_more k hd
      rw [e1] at HCE
      obtain ⟨f1, f2, f3, f4⟩ := hf
      have d1 : (r.D == 1) = false := by simp [hd]
      have p1 : floorF r * r.D ≤ 1073741824 := by omega
      have p2 : -1152921504606846976 ≤ floorF r * r.D := by
        have := mul_bd (x := floorF r) (y := r.D) (by omega) (by omega); omega
      have p3 : (floorF r + 1) * r.D ≤ 1073741824 + 1073741824 := by
        have : (floorF r + 1) * r.D = floorF r * r.D + r.D := by grind
        omega
      have HD := Lib.hid hd
      clear k hd e1 hr2
      generalize floorF r = fl at *
      go_enter Try.func7, Try.ntmps7
      go_wp2_with fail
      refine (small_any _).mono ?_
      rintro e w1 ⟨rfl, hb⟩
      have K1 := Lib.hid (K0.out.go hb); clear hb K0
      have c0 := K1.out.1.cell0; have c1 := K1.out.1.cell1; have lt := K1.out.1.lt
      go_wp2_with fail
      refine (rright_nd _ _ rn rd _).mono ?_
      rintro e w2 ⟨rfl, hb⟩
      have K2 := Lib.hid (K1.out.go hb); clear hb K1 c0 c1 lt
      have c0 := K2.out.1.cell0; have c1 := K2.out.1.cell1; have lt := K2.out.1.lt
      go_wp2_with fail
      refine (HFL.out _).mono ?_
      rintro e w3 ⟨rfl, hb⟩
      have K3 := Lib.hid (K2.out.go hb); clear hb K2 c0 c1 lt
      have c0 := K3.out.1.cell0; have c1 := K3.out.1.cell1; have lt := K3.out.1.lt
      go_wp2_with fail
      refine (HCE.out _).mono ?_
      rintro e w4 ⟨rfl, hb⟩
      have K4 := Lib.hid (K3.out.go hb); clear hb K3 c0 c1 lt
      have c0 := K4.out.1.cell0; have c1 := K4.out.1.cell1; have lt := K4.out.1.lt
      go_wp2
      go_ret
      exact ⟨rfl, K4.out.below⟩
  · have o : okB ⟨r.N, r.D⟩ = false := (okB_no r).2 k
    have HFL := Lib.hid (fun w => floor_no r k hr2 w)
    have hc : ceilF r = 0 := by unfold ceilF; rw [(okB_no r).2 k]; rfl
    have hce := fun w => ceil_any r hr2 w
    rw [hc] at hce
    have HCE := Lib.hid hce
    clear k hc hce hr2
    go_enter Try.func7, Try.ntmps7
    go_wp2_with fail
    refine (small_any _).mono ?_
    rintro e w1 ⟨rfl, hb⟩
    have K1 := Lib.hid (K0.out.go hb); clear hb K0
    have c0 := K1.out.1.cell0; have c1 := K1.out.1.cell1; have lt := K1.out.1.lt
    go_wp2_with fail
    refine (rright_nd _ _ rn rd _).mono ?_
    rintro e w2 ⟨rfl, hb⟩
    have K2 := Lib.hid (K1.out.go hb); clear hb K1 c0 c1 lt
    have c0 := K2.out.1.cell0; have c1 := K2.out.1.cell1; have lt := K2.out.1.lt
    go_wp2_with fail
    refine (HFL.out _).mono ?_
    rintro e w3 ⟨rfl, hb⟩
    have K3 := Lib.hid (K2.out.go hb); clear hb K2 c0 c1 lt
    have c0 := K3.out.1.cell0; have c1 := K3.out.1.cell1; have lt := K3.out.1.lt
    go_wp2_with fail
    refine (HCE.out _).mono ?_
    rintro e w4 ⟨rfl, hb⟩
    have K4 := Lib.hid (K3.out.go hb); clear hb K3 c0 c1 lt
    go_wp2
    go_ret
    exact ⟨rfl, K4.out.below⟩
end Go.Proofs.Ytlkpebcmdkmfjaa
