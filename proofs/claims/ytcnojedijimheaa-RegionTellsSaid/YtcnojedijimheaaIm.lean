/-
  Contracts of the program's layer 6 (18): Shift, without a rectangle; whole.
-/
import Derived.Test.YtcnojedijimheaaIl
set_option linter.unusedVariables false
set_option maxRecDepth 100000
namespace Go.Proofs.Ytcnojedijimheaa
open Go.RowKit

set_option maxHeartbeats 16000000 in
theorem gshift_nil (A : Option Addr) (cap : Nat) (l : List Rc) (dx dy : Int) (w : World) (hl : RIn w A cap l) (hr : RegP l) (b : Rc) (hb : boundsR l = (zR, false)) (h0 : l.length = 0) (hfit : ∀ r ∈ l, ROk (mvR dx dy r)) :
    Calls Try.prog 43 #[.slice A l.length cap, .int .i64 dx, .int .i64 dy] w (ResIs (l.map (mvR dx dy), 0) w) := by
  have HL := Lib.hid hl
  have H0 := Lib.hid h0; clear h0
  have HR := Lib.hid (gright_yes A cap l w hl.row hl.len hl.room hl.room2 hr)
  have HC := Lib.hid (fun w' (h : Below w.heap.size w w') => tbounds_any A cap l w' (by have := HL.out.len; omega) (HL.out.below h).row)
  rw [hb] at HC
  have HF := Lib.hid hfit
  have hmk := mkRs l.length hr.2
  have hlen := hr.2
  obtain ⟨Z, hZ⟩ : ∃ Z, Z = (rcells (List.replicate l.length zR)).toArray := ⟨_, rfl⟩
  rw [← hZ] at hmk
  have HZ := Lib.hid hZ; clear hZ
  clear hr hl hb hfit
  go_enter Try.func43, Try.ntmps43
  go_wp2_with fail
  refine HR.out.mono ?_
  rintro e1 w1 ⟨rfl, hb1⟩
  have HB1 := Lib.hid hb1; clear hb1
  go_wp2_with fail
  refine (HC.out _ HB1.out).mono ?_
  rintro e2 w2 ⟨rfl, hb2⟩
  have HB2 := Lib.hid (HB1.out.trans (hb2.mono HB1.out.size)); clear hb2 HB1
  have HB5 : Hid (Below w.heap.size w (w2.alloc (.cells #[.int .i64 0, .int .i64 0, .int .i64 0, .int .i64 0] 41))) := Lib.hid (HB2.out.alloc HB2.out.size _)
  have S0 : Hid (ShAt w.heap.size (w2.heap.size + 1) l.length (MV dx dy l 0) w ((w2.alloc (.cells #[.int .i64 0, .int .i64 0, .int .i64 0, .int .i64 0] 41)).alloc (.cells Z 41))) := Lib.hid (by
    have h := World.ownsRow_lit (w2.alloc (.cells #[.int .i64 0, .int .i64 0, .int .i64 0, .int .i64 0] 41)) Z l.length HB5.out.size (by unfold maxLen; omega) (e := 41) (size := 4) (by rw [HZ.out]; simp [rcells_len])
    refine ⟨?_, HB5.out.alloc HB5.out.size _, ?_⟩
    · rw [MV_zero]
      have hz : Z.toList = rcells (List.replicate l.length zR) := by rw [HZ.out]
      rw [hz] at h
      have e : (w2.alloc (.cells #[.int .i64 0, .int .i64 0, .int .i64 0, .int .i64 0] 41)).heap.size = w2.heap.size + 1 := by simp only [World.alloc, Array.size_push]
      rw [e] at h
      exact h
    · have := HB2.out.size; omega)
  go_wp2_with fail
  go_loopw [44] (fun i wr => ∃ k : Nat, k ≤ l.length ∧ i = .int .i64 k ∧ Hid (ShAt w.heap.size (w2.heap.size + 1) l.length (MV dx dy l k) w wr)) (fun i _ => l.length - (intOf i).toNat)
  case atStart => exact ⟨0, Nat.zero_le _, rfl, S0⟩
  case round =>
    clear S0 hmk
    generalize (w2.heap.size + 1) = g at *
    obtain ⟨k, hk, rfl, HS⟩ := hrel
    obtain rfl : k = l.length := by have := H0.out; omega
    have FIN := Lib.hid (MV_all dx dy l)
    rw [FIN.out] at HS
    go_wp2_with fail
    go_ret2
    exact ⟨_, rfl, by simpa using HS.out.1, HS.out.2.1⟩
theorem staysB_iff (a b d : Int) : staysB a b d = true ↔ -a ≤ d ∧ d ≤ 1048576 - b := decide_eq_true_iff
theorem gshift_any (A : Option Addr) (cap : Nat) (l : List Rc) (dx dy : Int) (w : World) (hl : RIn w A cap l) :
    Calls Try.prog 43 #[.slice A l.length cap, .int .i64 dx, .int .i64 dy] w (ResIs (shiftG l dx dy) w) := by
  by_cases hr : RegP l
  · have hok := form_ok hr.1
    obtain ⟨k1, k2⟩ := bounds_of l
    cases hb : boundsR l with
    | mk b some =>
      rw [hb] at k1 k2
      cases some with
      | true =>
        obtain ⟨ho, hin, _⟩ := k1 rfl
        by_cases hs : staysB b.X0 b.X1 dx = true ∧ staysB b.Y0 b.Y1 dy = true
        · have e : shiftG l dx dy = (l.map (mvR dx dy), 0) := by
            unfold shiftG
            rw [if_pos hr, hb, if_neg (fun h => h.2 hs)]
          rw [e]
          refine gshift_in A cap l dx dy w hl hr b hb ho hs.1 hs.2 (fun r hm => ?_)
          have h1 := (staysB_iff _ _ _).1 hs.1
          have h2 := (staysB_iff _ _ _).1 hs.2
          obtain ⟨⟨⟨a1, a2, a3⟩, a4, a5, a6⟩, _, c1, c2, c3, c4⟩ := hin r hm (hok r hm)
          refine ⟨⟨?_, ?_, ?_⟩, ?_, ?_, ?_⟩ <;> simp only [mvR] at * <;> omega
        · exact gshift_range A cap l dx dy w hl hr b hb ho hs
      | false =>
        obtain ⟨e1, e2⟩ := k2 rfl
        have h0 : l = [] := by
          cases l with
          | nil => rfl
          | cons r l => exact absurd (hok r List.mem_cons_self) (e2 r List.mem_cons_self)
        simp only at e1
        subst e1
        have e : shiftG l dx dy = (l.map (mvR dx dy), 0) := by
          unfold shiftG
          rw [if_pos hr, hb, if_neg (fun h => absurd h.1 (by simp))]
        rw [e]
        exact gshift_nil A cap l dx dy w hl hr zR hb (by rw [h0]; rfl) (fun r hm => absurd hm (by rw [h0]; simp))
  · exact gshift_no A cap l dx dy w hl hr
end Go.Proofs.Ytcnojedijimheaa
