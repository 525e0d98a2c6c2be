/-
  Contracts of the reference of layer 9, 5: Has, Volume, Top.
  Mathematics of the laws of layer 9: what stays small; the boxes of a solid.
-/
import Derived.Test.YtdnoadngfkiabaaGreatS938
import Derived.Test.YtdnoadngfkiabaaGreatS942
import Derived.Test.YtdnoadngfkiabaaGreatS914
set_option linter.unusedVariables false
set_option maxRecDepth 100000
namespace Go.Proofs.YtdnoadngfkiabaaGreat
open Go.RowKit

set_option maxHeartbeats 8000000 in
theorem dhas_any (A : Option Addr) (cap : Nat) (S : List Sl) (x y z : Int) (w : World) (h : SIn w A cap S) : Calls Tryz.prog 29 #[.slice A S.length cap, .int .i64 x, .int .i64 y, .int .i64 z] w (BlIs (hasGS S x y z) w) := by
  have key : ∃ R : List Rc, R.length ≤ 1000000 ∧ hasRg R x y = hasGS S x y z ∧ Calls Tryz.prog 25 #[.slice A S.length cap, .int .i64 z] w (RcRes R w) := by
    by_cases hs : SolP S
    · have hr := sol_reg hs z
      refine ⟨secS S z, by have := hr.2; omega, ?_, dsection_yes h hs z⟩
      rw [hasGS_yes hs]
      unfold hasRg
      rw [decide_eq_true hr, Bool.true_and]
    · refine ⟨[], by simp, ?_, dsection_no h hs z⟩
      rw [hasGS_no hs]
      unfold hasRg
      have : hasB [] x y = false := by rw [← Bool.not_eq_true, hasB_iff]; exact no_has x y
      rw [this, Bool.and_false]
  obtain ⟨R, hR, hE, hC⟩ := key
  have HC := Lib.hid hC; have HR := Lib.hid hR
  rw [← hE]
  clear h hE hC hR
  go_enter Tryz.func29, Tryz.ntmps29
  go_wp2_with fail
  refine HC.out.mono ?_
  rintro e1 w1 ⟨v, rfl, ho, hb1⟩
  obtain ⟨A1, c1, rfl, _⟩ := own_rects ho
  have HV := Lib.hid (vhas_any A1 c1 R x y w1 (own_rin ho (by have := HR.out; omega)))
  have HB1 := Lib.hid hb1
  clear ho hb1 HC HR
  generalize hasRg R x y = bb at *
  generalize R.length = n at *
  go_wp2_with fail
  refine HV.out.mono ?_
  rintro e2 w2 ⟨rfl, hb2⟩
  have HB2 := Lib.hid (HB1.out.trans (hb2.mono HB1.out.size)); clear hb2
  go_wp2_with fail
  go_ret
  exact ⟨rfl, HB2.out⟩
set_option maxHeartbeats 16000000 in
theorem dvolume_yes {A : Option Addr} {cap : Nat} {S : List Sl} {w : World} (h : SIn w A cap S) (hs : SolP S) : Calls Tryz.prog 27 #[.slice A S.length cap] w (InIs (volS S) w) := by
  have HR := Lib.hid (dright_yes h hs)
  have H1 := Lib.hid h.row
  have HS := Lib.hid hs
  have hlen := hs.len
  clear h hs
  go_enter Tryz.func27, Tryz.ntmps27
  go_wp2_with fail
  refine HR.out.mono ?_
  rintro e1 w1 ⟨rfl, hb1⟩
  have HB1 := Lib.hid hb1; clear hb1 HR
  go_wp2_with fail
  go_loopw [3, 4] (fun s i wr => ∃ k : Nat, k ≤ S.length ∧ i = .int .i64 k ∧ s = .int .i64 (volS (S.take k)) ∧ Hid (Below w.heap.size w wr)) (fun _ i _ => S.length - (intOf i).toNat)
  case atStart => exact ⟨0, Nat.zero_le _, rfl, rfl, HB1⟩
  case round =>
    clear HB1
    obtain ⟨k, hk, rfl, rfl, HB⟩ := hrel
    by_cases hlt : k < S.length
    · obtain ⟨b1, o1, rfl, hb1, hv1⟩ := H1.out (by omega)
      obtain ⟨x0, x1, Aj, cj, x2, hr⟩ := hv1 k hlt
      have wc := fun o => HB.out.cell (p := ⟨b1, o, none⟩) hb1
      have x0 := (wc _).trans x0; have x1 := (wc _).trans x1; have x2 := (wc _).trans x2
      have hbs := HB.out.size
      have hbw : b1 < wr.heap.size := Nat.lt_of_lt_of_le hb1 hbs
      have n0 : (0 : Int) ≤ (k : Int) := by omega
      have n1 : (k : Int) < (S.length : Int) := by omega
      have hmem := List.getElem_mem hlt
      have hok := HS.out.form.each _ hmem
      have hh := hok.h
      unfold HOk at hh
      have HN := Lib.hid (volS_next S k hlt)
      have hvk : 0 ≤ volS (S.take k) ∧ volS (S.take k) ≤ (S.take k).length * 4503599627370496 := by
        refine vol_bd (sform_of (fun j hj => ?_) (fun j hj => ?_))
        · rw [List.getElem_take]; exact HS.out.form.each _ (List.getElem_mem _)
        · rw [List.getElem_take, List.getElem_take]; exact sform_pair HS.out.form j (by rw [List.length_take] at hj; omega)
      rw [List.length_take] at hvk
      have hw1 : volS (S.take k) ≤ 400000000000000000 := by omega
      have hw0 := hvk.1
      have ha0 := area_nnL S[k].ar
      have ha1 := form_grid hok.form
      have hp := prod_bd ha0 ha1 (d := S[k].z1 - S[k].z0) (by omega) (by omega)
      have HGA := Lib.hid (fun w' (hb : Below w.heap.size w w') => varea_yes Aj cj S[k].ar w' (hr.below hb) ⟨hok.form, HS.out.rects _ hmem⟩)
      clear wc hr hvk hmem hok hv1
      obtain ⟨u, hu⟩ : ∃ u, u = S[k] := ⟨_, rfl⟩
      rw [← hu] at x0 x1 x2 HN ha0 ha1 hp HGA hh
      clear hu
      have q1 : IntKind.i64.wrap (u.z1 - u.z0) = u.z1 - u.z0 := IntWalk.i64_in _ (by omega)
      obtain ⟨pr, hpr⟩ : ∃ pr, pr = areaL u.ar * (u.z1 - u.z0) := ⟨_, rfl⟩
      rw [← hpr] at HN hp
      have q2 : IntKind.i64.wrap ((u.z1 - u.z0) * areaL u.ar) = pr := by rw [Int.mul_comm, ← hpr]; exact IntWalk.i64_in _ (by omega)
      have HPR := Lib.hid hpr; clear hpr
      generalize areaL u.ar = ar at *
      generalize u.ar.length = nar at *
      obtain ⟨sm, hsm⟩ : ∃ sm, sm = volS (S.take k) := ⟨_, rfl⟩
      rw [← hsm] at HN hw0 hw1 ⊢
      clear hsm
      have q3 : IntKind.i64.wrap (sm + pr) = sm + pr := IntWalk.i64_in _ (by omega)
      have EJ : Hid (Rw9 b1 (o1 + k * 3) u Aj nar cj w wr) := Lib.hid ⟨x0, x1, x2, hbw, HB⟩
      clear hh ha0 ha1 hp hw0 hw1
      go_wp2_with fail
      go_region_held3 (fun w' => w'.cell? ⟨b1, o1 + k * 3, none⟩ = some (.int .i64 u.z0) ∧ w'.cell? ⟨b1, o1 + k * 3 + 1, none⟩ = some (.int .i64 u.z1) ∧ w'.cell? ⟨b1, o1 + k * 3 + 2, none⟩ = some (.slice Aj nar cj) ∧ b1 < w'.heap.size ∧ Hid (Below w.heap.size w w'))
        (first | exact EJ.out | exact Rw9.drewN EJ.out 1 | exact Rw9.go ‹_› ‹_› | assumption)
        (first | (go_at_call 62; refine (HGA.out _ HB.out.drew).mono ?_; rintro e w' ⟨rfl, hb⟩) | fail)
      have E2 : Rw9 b1 (o1 + k * 3) u Aj nar cj w w' := by assumption
      have HB3 := E2.2.2.2.2
      clear EJ E2
      go_wp2_with fail
      go_roundw
      case rel => exact ⟨k + 1, by omega, by go_num, by rw [HN.out], HB3⟩
      case measure => simp [intOf]; omega
    · obtain rfl : k = S.length := by omega
      rw [List.take_length]
      generalize volS S = ar at *
      go_wp2_with fail
      go_ret
      exact ⟨rfl, HB.out⟩
set_option maxHeartbeats 4000000 in
theorem dvolume_no {A : Option Addr} {cap : Nat} {S : List Sl} {w : World} (h : SIn w A cap S) (hs : ¬ SolP S) : Calls Tryz.prog 27 #[.slice A S.length cap] w (InIs 0 w) := by
  have HR := Lib.hid (dright_no h hs)
  clear h hs
  go_enter Tryz.func27, Tryz.ntmps27
  go_wp2_with fail
  refine HR.out.mono ?_
  rintro e1 w1 ⟨rfl, hb1⟩
  have HB1 := Lib.hid hb1; clear hb1
  go_wp2_with fail
  go_ret
  exact ⟨rfl, HB1.out⟩
theorem topS_next (S : List Sl) (k : Nat) (h : k < S.length) (x y : Int) : topS (S.take (k + 1)) x y = if hasD S[k].ar x y = true then S[k].z1 else topS (S.take k) x y := by
  unfold topS
  rw [List.take_succ_eq_append_getElem h, List.foldl_append]; rfl
set_option maxHeartbeats 16000000 in
theorem dtop_yes {A : Option Addr} {cap : Nat} {S : List Sl} {w : World} (h : SIn w A cap S) (hs : SolP S) (x y : Int) : Calls Tryz.prog 28 #[.slice A S.length cap, .int .i64 x, .int .i64 y] w (InIs (topS S x y) w) := by
  have HR := Lib.hid (dright_yes h hs)
  have H1 := Lib.hid h.row
  have HS := Lib.hid hs
  have hlen := hs.len
  clear h hs
  go_enter Tryz.func28, Tryz.ntmps28
  go_wp2_with fail
  refine HR.out.mono ?_
  rintro e1 w1 ⟨rfl, hb1⟩
  have HB1 := Lib.hid hb1; clear hb1 HR
  go_wp2_with fail
  go_loopw [7, 8] (fun s i wr => ∃ k : Nat, k ≤ S.length ∧ i = .int .i64 k ∧ s = .int .i64 (topS (S.take k) x y) ∧ Hid (Below w.heap.size w wr)) (fun _ i _ => S.length - (intOf i).toNat)
  case atStart => exact ⟨0, Nat.zero_le _, rfl, rfl, HB1⟩
  case round =>
    clear HB1
    obtain ⟨k, hk, rfl, rfl, HB⟩ := hrel
    by_cases hlt : k < S.length
    · obtain ⟨b1, o1, rfl, hb1, hv1⟩ := H1.out (by omega)
      obtain ⟨x0, x1, Aj, cj, x2, hr⟩ := hv1 k hlt
      have X1 := Lib.hid x1
      have wc := fun o => HB.out.cell (p := ⟨b1, o, none⟩) hb1
      have x2 := (wc _).trans x2
      have hbs := HB.out.size
      have hbw : b1 < wr.heap.size := Nat.lt_of_lt_of_le hb1 hbs
      have n0 : (0 : Int) ≤ (k : Int) := by omega
      have n1 : (k : Int) < (S.length : Int) := by omega
      have hmem := List.getElem_mem hlt
      have hreg : RegP S[k].ar := ⟨(HS.out.form.each _ hmem).form, HS.out.rects _ hmem⟩
      have HN := Lib.hid (topS_next S k hlt x y)
      have HGH := Lib.hid (fun w' (hb : Below w.heap.size w w') => vHas_yes Aj cj S[k].ar x y w' (hr.below hb).row hreg)
      clear wc hr hmem hreg hv1 x0 x1
      obtain ⟨u, hu⟩ : ∃ u, u = S[k] := ⟨_, rfl⟩
      rw [← hu] at X1 x2 HN HGH
      clear hu
      generalize hasD u.ar x y = bb at *
      generalize u.ar.length = nar at *
      generalize topS (S.take k) x y = tv at *
      go_wp2_with fail
      refine (HGH.out _ HB.out).mono ?_
      rintro e2 w2 ⟨rfl, hb2⟩
      have HB2 := Lib.hid (HB.out.trans (hb2.mono HB.out.size)); clear hb2 HB
      have x1 := (HB2.out.cell (p := ⟨b1, _, none⟩) hb1).trans X1.out
      have hbw2 : b1 < w2.heap.size := Nat.lt_of_lt_of_le hb1 HB2.out.size
      cases bb with
      | true =>
        go_wp2_with fail
        go_roundw
        case rel => exact ⟨k + 1, by omega, by go_num, by rw [HN.out]; rfl, HB2⟩
        case measure => simp [intOf]; omega
      | false =>
        go_wp2_with fail
        go_roundw
        case rel => exact ⟨k + 1, by omega, by go_num, by rw [HN.out]; rfl, HB2⟩
        case measure => simp [intOf]; omega
    · obtain rfl : k = S.length := by omega
      rw [List.take_length]
      generalize topS S x y = ar at *
      go_wp2_with fail
      go_ret
      exact ⟨rfl, HB.out⟩
set_option maxHeartbeats 4000000 in
theorem dtop_no {A : Option Addr} {cap : Nat} {S : List Sl} {w : World} (h : SIn w A cap S) (hs : ¬ SolP S) (x y : Int) : Calls Tryz.prog 28 #[.slice A S.length cap, .int .i64 x, .int .i64 y] w (InIs 0 w) := by
  have HR := Lib.hid (dright_no h hs)
  clear h hs
  go_enter Tryz.func28, Tryz.ntmps28
  go_wp2_with fail
  refine HR.out.mono ?_
  rintro e1 w1 ⟨rfl, hb1⟩
  have HB1 := Lib.hid hb1; clear hb1
  go_wp2_with fail
  go_ret
  exact ⟨rfl, HB1.out⟩
end Go.Proofs.YtdnoadngfkiabaaGreat
namespace Go.Proofs.YtdnoadngfkiabaaGreat

/-! ### the boxes of a solid -/
end Go.Proofs.YtdnoadngfkiabaaGreat
