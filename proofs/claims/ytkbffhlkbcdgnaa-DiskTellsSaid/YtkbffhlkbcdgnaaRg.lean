/-
  The contracts of the reference's Sync, Truncate, Lose, Start and New.
-/
import Derived.Test.YtkbffhlkbcdgnaaRf
set_option linter.unusedVariables false
namespace Go.Proofs.Ytkbffhlkbcdgnaa
open Go.RowKit

def RSt.synced (s : RSt) (f : Int) : RSt × Int :=
  if mayOf (s.come 0 0 []).down f ≠ 0 then (s.come 0 0 [], mayOf (s.come 0 0 []).down f) else if 0 < (s.come 0 0 []).lost then ({ s.come 0 0 [] with lost := (s.come 0 0 []).lost - 1 }, 9)
  else ((s.come 0 0 []).settled f (rget (s.come 0 0 []).fl f).2.1, 0)
def RSt.cut (s : RSt) (f n : Int) : RSt × Int :=
  if mayOf (s.come 0 0 []).down f ≠ 0 then (s.come 0 0 [], mayOf (s.come 0 0 []).down f) else if n < 0 ∨ ((rget (s.come 0 0 []).fl f).2.1.size : Int) < n then (s.come 0 0 [], 1)
  else ((s.come 0 0 []).settled f ((rget (s.come 0 0 []).fl f).2.1.extract 0 n.toNat), 0)

set_option maxRecDepth 100000 in
set_option maxHeartbeats 8000000 in
theorem rsync_any (r B : Nat) (s : RSt) (f : Int) (w : World) (h : RAt r B s w) (hb : RB s) (harm : s.armed ≤ 9223372036854775807) (hcl : (s.come 0 0 []).lost ≤ 9223372036854775807) :
    Calls Try.prog 24 #[.pointer (some ⟨r, 0, none⟩), .int .i64 f] w fun e w' => e = .returned (.int .i64 (s.synced f).2) ∧ RAt r B (s.synced f).1 w' ∧ RFr B w w' := by
  have hBr : B ≤ r := by obtain ⟨_, _, _, _, _, _, _, h5⟩ := h; exact h5
  have hco := rcomes_any r B s 0 0 ⟨#[]⟩ w h hb (by unfold In64; omega) (by decide) harm
  have hco2 : Calls Try.prog 41 #[.pointer (some ⟨r, 0, none⟩), .int .i64 0, .int .i64 0, .string ⟨#[]⟩] w fun e w' => e = .returned (.tuple #[]) ∧ RAt r B (s.come 0 0 []) w' ∧ RFr B w w' := hco
  have HCO := Lib.hid hco2
  have HX : Hid (s.synced f = if mayOf (s.come 0 0 []).down f ≠ 0 then (s.come 0 0 [], mayOf (s.come 0 0 []).down f) else if 0 < (s.come 0 0 []).lost then ({ s.come 0 0 [] with lost := (s.come 0 0 []).lost - 1 }, 9)
    else ((s.come 0 0 []).settled f (rget (s.come 0 0 []).fl f).2.1, 0)) := Lib.hid rfl
  have HUP : Hid ((s.come 0 0 []).down = false → (s.come 0 0 []).fl = s.fl ∧ (s.come 0 0 []).q = s.q) := Lib.hid come_up
  have HB := Lib.hid hb
  generalize s.synced f = Y at *
  generalize s.come 0 0 [] = s1 at *
  clear h hb hco hco2
  go_enter Try.func24, Try.ntmps24
  go_wp2_with fail
  refine HCO.out.mono ?_
  rintro e w2 ⟨rfl, h2, f2⟩
  have H2 := Lib.hid h2
  have F2 := Lib.hid f2
  clear HCO
  have HM := Lib.hid (rMay_any r B s1 f w2 h2)
  obtain ⟨_, _, _, _, _, c2, _, _, _, hz, _⟩ := h2.cells
  obtain ⟨_, _, _, g1, _⟩ := h2
  have hz2 := hz 2
  have G1 := Lib.hid g1
  clear g1 f2 hz
  go_wp2_with fail
  refine HM.out.mono ?_
  rintro e w3 ⟨rfl, rfl⟩
  by_cases hm : mayOf s1.down f = 0
  · obtain ⟨hd, hf0, hf1⟩ := may_ok hm
    obtain ⟨u1, u2⟩ := HUP.out hd
    have U1 := Lib.hid u1
    have U2 := Lib.hid u2
    clear u1 u2 hd HUP HM
    rw [hm]
    by_cases h0 : 0 < s1.lost
    · have HXX : Hid (Y = ({ s1 with lost := s1.lost - 1 }, 9)) := Lib.hid (by rw [HX.out, if_neg (by rw [hm]; simp), if_pos h0])
      have h0' : (0 : Int) < (s1.lost : Int) := by omega
      have hset := H2.out.setS (s' := { s1 with lost := s1.lost - 1 }) 2 (.int .i64 ((s1.lost : Int) - 1)) rfl rfl rfl (fun F Q K => by simp; omega)
      have HS := Lib.hid hset
      clear HX hm hset
      go_wp2
      go_ret
      rw [HXX.out]
      exact ⟨rfl, HS.out, F2.out.trans (RFr.of_disk (grown_one _ _ _ _) hBr G1.out)⟩
    · have h0' : (s1.lost : Int) ≤ 0 := by omega
      have HXX : Hid (Y = (s1.settled f (rget s1.fl f).2.1, 0)) := Lib.hid (by rw [HX.out, if_neg (by rw [hm]; simp), if_neg h0])
      have HG := Lib.hid (rget_any r B s1 f w3 H2.out (by rw [U1.out]; have := HB.out.fl; omega))
      have hfd := field_now (rget s1.fl f)
      have hsl : s1.fl.length ≤ 1099511627776 := by rw [U1.out]; have := HB.out.fl; omega
      have hsq : s1.q.length ≤ 1099511627776 := by rw [U2.out]; have := HB.out.q; omega
      generalize rget s1.fl f = y at *
      clear HX hm
      go_wp2_with fail
      refine HG.out.mono ?_
      rintro e w4 ⟨rfl, hb4⟩
      unfold fval
      have HR4 := H2.out.below hb4
      have HSE := Lib.hid (rsettle_any r B s1 f y.2.1 w4 HR4 hsl hsq)
      have HB4 := Lib.hid hb4
      clear hb4 HR4 HG
      go_wp2_with fail
      refine HSE.out.mono ?_
      rintro e w5 ⟨rfl, h5, f5⟩
      have H5 := Lib.hid h5
      have F5 := Lib.hid f5
      clear h5 f5 HSE
      go_wp2
      go_ret
      rw [HXX.out]
      exact ⟨rfl, H5.out, (F2.out.trans (RFr.of_below HB4.out)).trans F5.out⟩
  · have HXX : Hid (Y = (s1, mayOf s1.down f)) := Lib.hid (by rw [HX.out, if_pos hm])
    have hmn : (mayOf s1.down f != 0) = true := by simpa using hm
    clear HX HM
    generalize mayOf s1.down f = mm at *
    go_wp2
    go_ret
    rw [HXX.out]
    exact ⟨rfl, H2.out, F2.out⟩

set_option maxHeartbeats 1000000 in
theorem rlose_any (r B : Nat) (s : RSt) (n : Int) (w : World) (h : RAt r B s w) :
    Calls Try.prog 26 #[.pointer (some ⟨r, 0, none⟩), .int .i64 n] w fun e w' => e = .returned (.tuple #[]) ∧ RAt r B { s with lost := n.toNat } w' ∧ RFr B w w' := by
  have hBr : B ≤ r := by obtain ⟨_, _, _, _, _, _, _, h5⟩ := h; exact h5
  obtain ⟨_, _, _, _, _, c2, _, _, _, hz, _⟩ := h.cells
  have hz2 := hz 2
  have hset := h.setS (s' := { s with lost := n.toNat }) 2 (.int .i64 ((n.toNat : Nat) : Int)) rfl rfl rfl (fun F Q K => by simp)
  have HS := Lib.hid hset
  obtain ⟨_, _, _, g1, _⟩ := h
  have G1 := Lib.hid g1
  clear g1 hset hz
  by_cases h0 : n < 0
  · have hn : ((n.toNat : Nat) : Int) = 0 := by omega
    rw [hn] at HS
    go_enter Try.func26, Try.ntmps26
    go_wp2
    refine bodyPost_end (results_none rfl _ _ _) rfl ?_
    exact ⟨rfl, HS.out, RFr.of_disk (grown_one _ _ _ _) hBr G1.out⟩
  · have hn : ((n.toNat : Nat) : Int) = n := by omega
    rw [hn] at HS
    have h0' : 0 ≤ n := by omega
    go_enter Try.func26, Try.ntmps26
    go_wp2
    refine bodyPost_end (results_none rfl _ _ _) rfl ?_
    exact ⟨rfl, HS.out, RFr.of_disk (grown_one _ _ _ _) hBr G1.out⟩

set_option maxHeartbeats 1000000 in
theorem rstart_any (r B : Nat) (s : RSt) (w : World) (h : RAt r B s w) :
    Calls Try.prog 29 #[.pointer (some ⟨r, 0, none⟩)] w fun e w' => e = .returned (.tuple #[]) ∧ RAt r B { s with down := false } w' ∧ RFr B w w' := by
  have hBr : B ≤ r := by obtain ⟨_, _, _, _, _, _, _, h5⟩ := h; exact h5
  obtain ⟨_, _, _, _, _, _, c3, _, _, hz, _⟩ := h.cells
  have hz3 := hz 3
  have hset := h.setS (s' := { s with down := false }) 3 (.bool false) rfl rfl rfl (fun F Q K => by simp)
  have HS := Lib.hid hset
  obtain ⟨_, _, _, g1, _⟩ := h
  have G1 := Lib.hid g1
  clear g1 hset hz
  go_enter Try.func29, Try.ntmps29
  go_wp2
  refine bodyPost_end (results_none rfl _ _ _) rfl ?_
  exact ⟨rfl, HS.out, RFr.of_disk (grown_one _ _ _ _) hBr G1.out⟩

end Go.Proofs.Ytkbffhlkbcdgnaa
