/-
  The contracts of the reference's Write, Sync and Truncate, Lose and Start.
  The contracts of the reference's Sync, Truncate, Lose, Start and New.
-/
import Derived.Test.YtbpkcgkcamkggaaGreatDoorT907
set_option linter.unusedVariables false
namespace Go.Proofs.YtbpkcgkcamkggaaGreatDoor
open Go.RowKit

theorem crashed_down (s : RSt) (keep : List Int) : (s.crashed keep).down = true := by
  unfold RSt.crashed
  split
  · assumption
  · rfl
/-- a machine that is up behind comes has only counted. -/
theorem come_up {s : RSt} {f a : Int} {t : List UInt8} (h : (s.come f a t).down = false) : (s.come f a t).fl = s.fl ∧ (s.come f a t).q = s.q := by
  unfold RSt.come at h ⊢
  split at h
  · rename_i c; rw [if_pos c]; exact ⟨rfl, rfl⟩
  · rename_i c
    rw [if_neg c]
    split at h
    · rename_i c2; rw [if_pos c2]; exact ⟨rfl, rfl⟩
    · split at h
      · rw [crashed_down] at h; cases h
      · rw [crashed_down] at h; cases h

/-- what Write leaves, and what it returns. -/
def RSt.wrote (s : RSt) (f a : Int) (t : List UInt8) : RSt × Int :=
  if mayOf (s.come f a t).down f ≠ 0 then (s.come f a t, mayOf (s.come f a t).down f) else if a < 0 then (s.come f a t, 1)
  else if fitsB a t.length = false then (s.come f a t, 6) else ((s.come f a t).added f a.toNat t, 0)
theorem may_ok {d : Bool} {f : Int} (h : mayOf d f = 0) : d = false ∧ 0 ≤ f ∧ f ≤ 15 := by
  unfold mayOf at h
  cases d with
  | true => rw [if_pos rfl] at h; cases h
  | false =>
    rw [if_neg (by decide)] at h
    split at h
    · rename_i c; exact ⟨rfl, c⟩
    · cases h

set_option maxRecDepth 100000 in
set_option maxHeartbeats 8000000 in
theorem rwrite_any (r B : Nat) (s : RSt) (f a : Int) (t : ByteArray) (w : World) (h : RAt r B s w) (hb : RB s) (ha : In64 a) (ht : t.size ≤ 1099511627776) (harm : s.armed ≤ 9223372036854775807) :
    Calls Tryz.prog 42 #[.pointer (some ⟨r, 0, none⟩), .int .i64 f, .int .i64 a, .string t] w fun e w' => e = .returned (.int .i64 (s.wrote f a t.data.toList).2) ∧ RAt r B (s.wrote f a t.data.toList).1 w' ∧ RFr B w w' := by
  have htl : t.data.toList.length = t.size := Array.length_toList
  have HCO := Lib.hid (rcomes_any r B s f a t w h hb ha ht harm)
  have HX : Hid (s.wrote f a t.data.toList = if mayOf (s.come f a t.data.toList).down f ≠ 0 then (s.come f a t.data.toList, mayOf (s.come f a t.data.toList).down f) else if a < 0 then (s.come f a t.data.toList, 1)
    else if fitsB a t.size = false then (s.come f a t.data.toList, 6) else ((s.come f a t.data.toList).added f a.toNat t.data.toList, 0)) := Lib.hid (by unfold RSt.wrote; rw [htl])
  have HUP : Hid ((s.come f a t.data.toList).down = false → (s.come f a t.data.toList).fl = s.fl ∧ (s.come f a t.data.toList).q = s.q) := Lib.hid come_up
  have HB := Lib.hid hb
  generalize s.wrote f a t.data.toList = Y at *
  generalize s.come f a t.data.toList = s1 at *
  clear h hb
  go_enter Tryz.func42, Tryz.ntmps42
  go_wp2_with fail
  refine HCO.out.mono ?_
  rintro e w2 ⟨rfl, h2, f2⟩
  have H2 := Lib.hid h2
  have F2 := Lib.hid f2
  clear HCO
  have HM := Lib.hid (rMay_any r B s1 f w2 h2)
  clear h2 f2
  go_wp2_with fail
  refine HM.out.mono ?_
  rintro e w3 ⟨rfl, rfl⟩
  by_cases hm : mayOf s1.down f = 0
  · obtain ⟨hd, hf0, hf1⟩ := may_ok hm
    obtain ⟨u1, u2⟩ := HUP.out hd
    have U1 := Lib.hid u1
    have U2 := Lib.hid u2
    clear u1 u2 hd HUP HM
    rw [hm]
    by_cases h0 : a < 0
    · have HXX : Hid (Y = (s1, 1)) := Lib.hid (by rw [HX.out, if_neg (by rw [hm]; simp), if_pos h0])
      clear HX hm
      go_wp2
      go_ret
      rw [HXX.out]
      exact ⟨rfl, H2.out, F2.out⟩
    · have h0' : 0 ≤ a := by omega
      have HFI := Lib.hid (rFits_any a t w3 ha ht)
      cases hfit : fitsB a t.size with
      | true =>
        have HXX : Hid (Y = (s1.added f a.toNat t.data.toList, 0)) := Lib.hid (by rw [HX.out, if_neg (by rw [hm]; simp), if_neg h0, if_neg (by rw [hfit]; decide)])
        have hfb : 0 ≤ a ∧ a + t.size ≤ 16777216 := by simpa [fitsB] using hfit
        obtain ⟨an, rfl⟩ := Int.eq_ofNat_of_zero_le hfb.1
        rw [hfit] at HFI
        clear HX hm hfit
        go_wp2_with fail
        refine HFI.out.mono ?_
        rintro e w4 ⟨rfl, m, rfl⟩
        have HS2 : Hid (RAt r B s1 (w3.drewN m)) := Lib.hid H2.out
        have HF2 : Hid (RFr B w (w3.drewN m)) := Lib.hid (F2.out.trans (RFr.of_below ⟨rfl, rfl, rfl, Nat.le_refl _, fun _ _ => rfl⟩))
        generalize w3.drewN m = wd at *
        have hadd := radd_any r B s1 f an t wd HS2.out (by rw [U1.out]; have := HB.out.fl; omega) (by rw [U2.out]; have := HB.out.q; omega) (fun g => by rw [U1.out]; exact (HB.out.big g).1) (by omega)
        have HAD := Lib.hid hadd
        clear hadd HFI
        go_wp2_with fail
        refine HAD.out.mono ?_
        rintro e w5 ⟨rfl, h5, f5⟩
        have H5 := Lib.hid h5
        have F5 := Lib.hid f5
        clear h5 f5 HAD
        go_wp2
        go_ret
        rw [HXX.out]
        exact ⟨rfl, H5.out, HF2.out.trans F5.out⟩
      | false =>
        have HXX : Hid (Y = (s1, 6)) := Lib.hid (by rw [HX.out, if_neg (by rw [hm]; simp), if_neg h0, if_pos hfit])
        rw [hfit] at HFI
        clear HX hm hfit
        go_wp2_with fail
        refine HFI.out.mono ?_
        rintro e w4 ⟨rfl, m, rfl⟩
        go_wp2
        go_ret
        rw [HXX.out]
        exact ⟨rfl, H2.out, F2.out.trans (RFr.of_below ⟨rfl, rfl, rfl, Nat.le_refl _, fun _ _ => rfl⟩)⟩
  · have HXX : Hid (Y = (s1, mayOf s1.down f)) := Lib.hid (by rw [HX.out, if_pos hm])
    have hmn : (mayOf s1.down f != 0) = true := by simpa using hm
    clear HX HM
    generalize mayOf s1.down f = mm at *
    go_wp2
    go_ret
    rw [HXX.out]
    exact ⟨rfl, H2.out, F2.out⟩

end Go.Proofs.YtbpkcgkcamkggaaGreatDoor
namespace Go.Proofs.YtbpkcgkcamkggaaGreatDoor
open Go.RowKit

def RSt.synced (s : RSt) (f : Int) : RSt × Int :=
  if mayOf (s.come 0 0 []).down f ≠ 0 then (s.come 0 0 [], mayOf (s.come 0 0 []).down f) else if 0 < (s.come 0 0 []).lost then ({ s.come 0 0 [] with lost := (s.come 0 0 []).lost - 1 }, 9)
  else ((s.come 0 0 []).settled f (rget (s.come 0 0 []).fl f).2.1, 0)
def RSt.cut (s : RSt) (f n : Int) : RSt × Int :=
  if mayOf (s.come 0 0 []).down f ≠ 0 then (s.come 0 0 [], mayOf (s.come 0 0 []).down f) else if n < 0 ∨ ((rget (s.come 0 0 []).fl f).2.1.size : Int) < n then (s.come 0 0 [], 1)
  else ((s.come 0 0 []).settled f ((rget (s.come 0 0 []).fl f).2.1.extract 0 n.toNat), 0)

set_option maxRecDepth 100000 in
set_option maxHeartbeats 8000000 in
theorem rsync_any (r B : Nat) (s : RSt) (f : Int) (w : World) (h : RAt r B s w) (hb : RB s) (harm : s.armed ≤ 9223372036854775807) (hcl : (s.come 0 0 []).lost ≤ 9223372036854775807) :
    Calls Tryz.prog 36 #[.pointer (some ⟨r, 0, none⟩), .int .i64 f] w fun e w' => e = .returned (.int .i64 (s.synced f).2) ∧ RAt r B (s.synced f).1 w' ∧ RFr B w w' := by
  have hBr : B ≤ r := by obtain ⟨_, _, _, _, _, _, _, h5⟩ := h; exact h5
  have hco := rcomes_any r B s 0 0 ⟨#[]⟩ w h hb (by unfold In64; omega) (by decide) harm
  have hco2 : Calls Tryz.prog 58 #[.pointer (some ⟨r, 0, none⟩), .int .i64 0, .int .i64 0, .string ⟨#[]⟩] w fun e w' => e = .returned (.tuple #[]) ∧ RAt r B (s.come 0 0 []) w' ∧ RFr B w w' := hco
  have HCO := Lib.hid hco2
  have HX : Hid (s.synced f = if mayOf (s.come 0 0 []).down f ≠ 0 then (s.come 0 0 [], mayOf (s.come 0 0 []).down f) else if 0 < (s.come 0 0 []).lost then ({ s.come 0 0 [] with lost := (s.come 0 0 []).lost - 1 }, 9)
    else ((s.come 0 0 []).settled f (rget (s.come 0 0 []).fl f).2.1, 0)) := Lib.hid rfl
  have HUP : Hid ((s.come 0 0 []).down = false → (s.come 0 0 []).fl = s.fl ∧ (s.come 0 0 []).q = s.q) := Lib.hid come_up
  have HB := Lib.hid hb
  generalize s.synced f = Y at *
  generalize s.come 0 0 [] = s1 at *
  clear h hb hco hco2
  go_enter Tryz.func36, Tryz.ntmps36
  go_wp2_with fail
  refine HCO.out.mono ?_
  rintro e w2 ⟨rfl, h2, f2⟩
  have H2 := Lib.hid h2
  have F2 := Lib.hid f2
  clear HCO
  have HM := Lib.hid (rMay_any r B s1 f w2 h2)
  obtain ⟨_, _, _, _, _, c2, _, _, _, hz, _⟩ := h2.cells
  obtain ⟨_, _, _, g1, _⟩ := h2
  have hz2 := hz 2
  have G1 := Lib.hid g1
  clear g1 f2 hz
  go_wp2_with fail
  refine HM.out.mono ?_
  rintro e w3 ⟨rfl, rfl⟩
  by_cases hm : mayOf s1.down f = 0
  · obtain ⟨hd, hf0, hf1⟩ := may_ok hm
    obtain ⟨u1, u2⟩ := HUP.out hd
    have U1 := Lib.hid u1
    have U2 := Lib.hid u2
    clear u1 u2 hd HUP HM
    rw [hm]
    by_cases h0 : 0 < s1.lost
    · have HXX : Hid (Y = ({ s1 with lost := s1.lost - 1 }, 9)) := Lib.hid (by rw [HX.out, if_neg (by rw [hm]; simp), if_pos h0])
      have h0' : (0 : Int) < (s1.lost : Int) := by omega
      have hset := H2.out.setS (s' := { s1 with lost := s1.lost - 1 }) 2 (.int .i64 ((s1.lost : Int) - 1)) rfl rfl rfl (fun F Q K => by simp; omega)
      have HS := Lib.hid hset
      clear HX hm hset
      go_wp2
      go_ret
      rw [HXX.out]
      exact ⟨rfl, HS.out, F2.out.trans (RFr.of_disk (grown_one _ _ _ _) hBr G1.out)⟩
    · have h0' : (s1.lost : Int) ≤ 0 := by omega
      have HXX : Hid (Y = (s1.settled f (rget s1.fl f).2.1, 0)) := Lib.hid (by rw [HX.out, if_neg (by rw [hm]; simp), if_neg h0])
      have HG := Lib.hid (rget_any r B s1 f w3 H2.out (by rw [U1.out]; have := HB.out.fl; omega))
      have hfd := field_now (rget s1.fl f)
      have hsl : s1.fl.length ≤ 1099511627776 := by rw [U1.out]; have := HB.out.fl; omega
      have hsq : s1.q.length ≤ 1099511627776 := by rw [U2.out]; have := HB.out.q; omega
      generalize rget s1.fl f = y at *
      clear HX hm
      go_wp2_with fail
      refine HG.out.mono ?_
      rintro e w4 ⟨rfl, hb4⟩
      unfold fval
      have HR4 := H2.out.below hb4
      have HSE := Lib.hid (rsettle_any r B s1 f y.2.1 w4 HR4 hsl hsq)
      have HB4 := Lib.hid hb4
      clear hb4 HR4 HG
      go_wp2_with fail
      refine HSE.out.mono ?_
      rintro e w5 ⟨rfl, h5, f5⟩
      have H5 := Lib.hid h5
      have F5 := Lib.hid f5
      clear h5 f5 HSE
      go_wp2
      go_ret
      rw [HXX.out]
      exact ⟨rfl, H5.out, (F2.out.trans (RFr.of_below HB4.out)).trans F5.out⟩
  · have HXX : Hid (Y = (s1, mayOf s1.down f)) := Lib.hid (by rw [HX.out, if_pos hm])
    have hmn : (mayOf s1.down f != 0) = true := by simpa using hm
    clear HX HM
    generalize mayOf s1.down f = mm at *
    go_wp2
    go_ret
    rw [HXX.out]
    exact ⟨rfl, H2.out, F2.out⟩

set_option maxHeartbeats 1000000 in
theorem rlose_any (r B : Nat) (s : RSt) (n : Int) (w : World) (h : RAt r B s w) :
    Calls Tryz.prog 17 #[.pointer (some ⟨r, 0, none⟩), .int .i64 n] w fun e w' => e = .returned (.tuple #[]) ∧ RAt r B { s with lost := n.toNat } w' ∧ RFr B w w' := by
  have hBr : B ≤ r := by obtain ⟨_, _, _, _, _, _, _, h5⟩ := h; exact h5
  obtain ⟨_, _, _, _, _, c2, _, _, _, hz, _⟩ := h.cells
  have hz2 := hz 2
  have hset := h.setS (s' := { s with lost := n.toNat }) 2 (.int .i64 ((n.toNat : Nat) : Int)) rfl rfl rfl (fun F Q K => by simp)
  have HS := Lib.hid hset
  obtain ⟨_, _, _, g1, _⟩ := h
  have G1 := Lib.hid g1
  clear g1 hset hz
  by_cases h0 : n < 0
  · have hn : ((n.toNat : Nat) : Int) = 0 := by omega
    rw [hn] at HS
    go_enter Tryz.func17, Tryz.ntmps17
    go_wp2
    refine bodyPost_end (results_none rfl _ _ _) rfl ?_
    exact ⟨rfl, HS.out, RFr.of_disk (grown_one _ _ _ _) hBr G1.out⟩
  · have hn : ((n.toNat : Nat) : Int) = n := by omega
    rw [hn] at HS
    have h0' : 0 ≤ n := by omega
    go_enter Tryz.func17, Tryz.ntmps17
    go_wp2
    refine bodyPost_end (results_none rfl _ _ _) rfl ?_
    exact ⟨rfl, HS.out, RFr.of_disk (grown_one _ _ _ _) hBr G1.out⟩

set_option maxHeartbeats 1000000 in
theorem rstart_any (r B : Nat) (s : RSt) (w : World) (h : RAt r B s w) :
    Calls Tryz.prog 23 #[.pointer (some ⟨r, 0, none⟩)] w fun e w' => e = .returned (.tuple #[]) ∧ RAt r B { s with down := false } w' ∧ RFr B w w' := by
  have hBr : B ≤ r := by obtain ⟨_, _, _, _, _, _, _, h5⟩ := h; exact h5
  obtain ⟨_, _, _, _, _, _, c3, _, _, hz, _⟩ := h.cells
  have hz3 := hz 3
  have hset := h.setS (s' := { s with down := false }) 3 (.bool false) rfl rfl rfl (fun F Q K => by simp)
  have HS := Lib.hid hset
  obtain ⟨_, _, _, g1, _⟩ := h
  have G1 := Lib.hid g1
  clear g1 hset hz
  go_enter Tryz.func23, Tryz.ntmps23
  go_wp2
  refine bodyPost_end (results_none rfl _ _ _) rfl ?_
  exact ⟨rfl, HS.out, RFr.of_disk (grown_one _ _ _ _) hBr G1.out⟩

end Go.Proofs.YtbpkcgkcamkggaaGreatDoor
