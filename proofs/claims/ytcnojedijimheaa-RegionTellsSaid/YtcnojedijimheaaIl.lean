/-
  Contracts of the program's layer 6 (17): Shift, the way over the rectangles.
-/
import Derived.Test.YtcnojedijimheaaIk
set_option linter.unusedVariables false
set_option maxRecDepth 100000
namespace Go.Proofs.Ytcnojedijimheaa
open Go.RowKit

set_option maxHeartbeats 16000000 in
theorem gshift_in (A : Option Addr) (cap : Nat) (l : List Rc) (dx dy : Int) (w : World) (hl : RIn w A cap l) (hr : RegP l) (b : Rc) (hb : boundsR l = (b, true)) (ho : ROk b) (hx : staysB b.X0 b.X1 dx = true) (hy : staysB b.Y0 b.Y1 dy = true) (hfit : ∀ r ∈ l, ROk (mvR dx dy r)) :
    Calls Try.prog 43 #[.slice A l.length cap, .int .i64 dx, .int .i64 dy] w (ResIs (l.map (mvR dx dy), 0) w) := by
  have HL := Lib.hid hl
  have HR := Lib.hid (gright_yes A cap l w hl.row hl.len hl.room hl.room2 hr)
  have HC := Lib.hid (fun w' (h : Below w.heap.size w w') => tbounds_any A cap l w' (by have := HL.out.len; omega) (HL.out.below h).row)
  rw [hb] at HC
  have HF := Lib.hid hfit
  have hmk := mkRs l.length hr.2
  have hlen := hr.2
  obtain ⟨Z, hZ⟩ : ∃ Z, Z = (rcells (List.replicate l.length zR)).toArray := ⟨_, rfl⟩
  rw [← hZ] at hmk
  have HZ := Lib.hid hZ; clear hZ
  obtain ⟨⟨o1, o2, o3⟩, o4, o5, o6⟩ := ho
  have HX := Lib.hid (fun w' => gstays_any b.X0 b.X1 dx w' (by omega) (by omega) (by omega) (by omega))
  have HY := Lib.hid (fun w' => gstays_any b.Y0 b.Y1 dy w' (by omega) (by omega) (by omega) (by omega))
  rw [hx] at HX; rw [hy] at HY
  clear hx hy o1 o2 o3 o4 o5 o6
  clear hr hl hb hfit
  go_enter Try.func43, Try.ntmps43
  go_wp2_with fail
  refine HR.out.mono ?_
  rintro e1 w1 ⟨rfl, hb1⟩
  have HB1 := Lib.hid hb1; clear hb1
  go_wp2_with fail
  refine (HC.out _ HB1.out).mono ?_
  rintro e2 w2 ⟨rfl, hb2⟩
  have HB2 := Lib.hid (HB1.out.trans (hb2.mono HB1.out.size)); clear hb2 HB1
  have K0 : Hid (RcAt (w2.alloc (.cells #[.int .i64 b.X0, .int .i64 b.Y0, .int .i64 b.X1, .int .i64 b.Y1] 41)) w2.heap.size b) := Lib.hid (RcAt.new w2 b _ rfl)
  have HB3 : Hid (Below w.heap.size w (w2.alloc (.cells #[.int .i64 b.X0, .int .i64 b.Y0, .int .i64 b.X1, .int .i64 b.Y1] 41))) := Lib.hid (HB2.out.alloc HB2.out.size _)
  go_wp2_with fail
  refine (HX.out _).mono ?_
  rintro e4 w4 ⟨rfl, hb4⟩
  have K4 := Lib.hid (K0.out.below hb4 K0.out.lt)
  have HB4 := Lib.hid (HB3.out.trans (hb4.mono HB3.out.size)); clear hb4 K0 HB2 HB3
  have z0 := K4.out.cell0; have z1 := K4.out.cell1; have z2 := K4.out.cell2; have z3 := K4.out.cell3
  have zl := K4.out.lt
  go_wp2_with fail
  refine (HY.out _).mono ?_
  rintro e5 w5 ⟨rfl, hb5⟩
  have HB5 := Lib.hid (HB4.out.trans (hb5.mono HB4.out.size)); clear hb5 HB4 z0 z1 z2 z3 zl K4
  have S0 : Hid (ShAt w.heap.size w5.heap.size l.length (MV dx dy l 0) w (w5.alloc (.cells Z 41))) := Lib.hid (by
    have h := World.ownsRow_lit w5 Z l.length HB5.out.size (by unfold maxLen; omega) (e := 41) (size := 4) (by rw [HZ.out]; simp [rcells_len])
    refine ⟨?_, HB5.out.alloc HB5.out.size _, ?_⟩
    · rw [MV_zero]
      have hz : Z.toList = rcells (List.replicate l.length zR) := by rw [HZ.out]
      rw [hz] at h
      simpa using h
    · have := HB5.out.size; simp at this ⊢; omega)
  go_wp2_with fail
  go_loopw [44] (fun i wr => ∃ k : Nat, k ≤ l.length ∧ i = .int .i64 k ∧ Hid (ShAt w.heap.size w5.heap.size l.length (MV dx dy l k) w wr)) (fun i _ => l.length - (intOf i).toNat)
  case atStart => exact ⟨0, Nat.zero_le _, rfl, S0⟩
  case round =>
    clear S0 hmk
    generalize w5.heap.size = g at *
    obtain ⟨k, hk, rfl, HS⟩ := hrel
    by_cases hlt : k < l.length
    · obtain ⟨b1, o1, rfl, hb1, hv1⟩ := HL.out.row (by omega)
      obtain ⟨x0, x1, x2, x3⟩ := hv1 k hlt
      have wc := fun o => HS.out.2.1.cell (p := ⟨b1, o, none⟩) hb1
      have x0 := (wc _).trans x0; have x1 := (wc _).trans x1; have x2 := (wc _).trans x2; have x3 := (wc _).trans x3
      have hbw : b1 < wr.heap.size := Nat.lt_of_lt_of_le hb1 HS.out.2.1.size
      clear hv1 wc
      have i0 : (0 : Int) ≤ (k : Int) := by omega
      have i1 : (k : Int) < (l.length : Int) := by omega
      have hfit := HF.out _ (List.getElem_mem hlt)
      have hML := MV_len dx dy l k (by omega)
      have NEXT := Lib.hid (MV_next dx dy l k hlt)
      obtain ⟨r0, r1, r2, r3⟩ := rcells_at (MV dx dy l k) k (by omega)
      have own := HS.out.1
      have y0 := (own.cellAt (k * 4) (by omega)).trans r0
      have y1 := (own.cellAt (k * 4 + 1) (by omega)).trans r1
      have y2 := (own.cellAt (k * 4 + 2) (by omega)).trans r2
      have y3 := (own.cellAt (k * 4 + 3) (by omega)).trans r3
      have f0 := own.frozenAt (k * 4); have f1 := own.frozenAt (k * 4 + 1); have f2 := own.frozenAt (k * 4 + 2); have f3 := own.frozenAt (k * 4 + 3)
      have gl : g < wr.heap.size := (own.lt g rfl).2
      clear r0 r1 r2 r3 own
      generalize ((MV dx dy l k)[k]'(by omega)) = u9 at *
      have HML := Lib.hid hML; clear hML
      generalize l[k] = u at *
      obtain ⟨⟨p1, p2, p3⟩, p4, p5, p6⟩ := hfit
      simp only [mvR] at p1 p2 p3 p4 p5 p6
      have q0 : IntKind.i64.wrap (u.X0 + dx) = u.X0 + dx := IntWalk.i64_in _ (by omega)
      have q1 : IntKind.i64.wrap (u.Y0 + dy) = u.Y0 + dy := IntWalk.i64_in _ (by omega)
      have q2 : IntKind.i64.wrap (u.X1 + dx) = u.X1 + dx := IntWalk.i64_in _ (by omega)
      have q3 : IntKind.i64.wrap (u.Y1 + dy) = u.Y1 + dy := IntWalk.i64_in _ (by omega)
      clear p1 p2 p3 p4 p5 p6
      have PUT := Lib.hid (have P := HS.out.put k (by have := HML.out; omega) (mvR dx dy u); P.go ((Below.refl _ _).alloc (Nat.le_refl _) (.cells #[.int .i64 u.X0, .int .i64 u.Y0, .int .i64 u.X1, .int .i64 u.Y1] 41)) P.2.1.size)
      rw [NEXT.out] at PUT
      clear HS
      go_wp2_with fail
      go_roundw
      case rel => exact ⟨k + 1, by omega, by go_num, PUT⟩
      case measure => simp [intOf]; omega
    · obtain rfl : k = l.length := by omega
      have FIN := Lib.hid (MV_all dx dy l)
      rw [FIN.out] at HS
      go_wp2_with fail
      go_ret2
      exact ⟨_, rfl, by simpa using HS.out.1, HS.out.2.1⟩
end Go.Proofs.Ytcnojedijimheaa
