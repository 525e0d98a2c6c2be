/-
  The contracts of the reference's Write, Sync and Truncate, Lose and Start.
-/
import Derived.Test.YtkbffhlkbcdgnaaRe
set_option linter.unusedVariables false
namespace Go.Proofs.Ytkbffhlkbcdgnaa
open Go.RowKit

theorem crashed_down (s : RSt) (keep : List Int) : (s.crashed keep).down = true := by
  unfold RSt.crashed
  split
  · assumption
  · rfl
/-- a machine that is up behind comes has only counted. -/
theorem come_up {s : RSt} {f a : Int} {t : List UInt8} (h : (s.come f a t).down = false) : (s.come f a t).fl = s.fl ∧ (s.come f a t).q = s.q := by
  unfold RSt.come at h ⊢
  split at h
  · rename_i c; rw [if_pos c]; exact ⟨rfl, rfl⟩
  · rename_i c
    rw [if_neg c]
    split at h
    · rename_i c2; rw [if_pos c2]; exact ⟨rfl, rfl⟩
    · split at h
      · rw [crashed_down] at h; cases h
      · rw [crashed_down] at h; cases h

/-- what Write leaves, and what it returns. -/
def RSt.wrote (s : RSt) (f a : Int) (t : List UInt8) : RSt × Int :=
  if mayOf (s.come f a t).down f ≠ 0 then (s.come f a t, mayOf (s.come f a t).down f) else if a < 0 then (s.come f a t, 1)
  else if fitsB a t.length = false then (s.come f a t, 6) else ((s.come f a t).added f a.toNat t, 0)
theorem may_ok {d : Bool} {f : Int} (h : mayOf d f = 0) : d = false ∧ 0 ≤ f ∧ f ≤ 15 := by
  unfold mayOf at h
  cases d with
  | true => rw [if_pos rfl] at h; cases h
  | false =>
    rw [if_neg (by decide)] at h
    split at h
    · rename_i c; exact ⟨rfl, c⟩
    · cases h

set_option maxRecDepth 100000 in
set_option maxHeartbeats 8000000 in
theorem rwrite_any (r B : Nat) (s : RSt) (f a : Int) (t : ByteArray) (w : World) (h : RAt r B s w) (hb : RB s) (ha : In64 a) (ht : t.size ≤ 1099511627776) (harm : s.armed ≤ 9223372036854775807) :
    Calls Try.prog 30 #[.pointer (some ⟨r, 0, none⟩), .int .i64 f, .int .i64 a, .string t] w fun e w' => e = .returned (.int .i64 (s.wrote f a t.data.toList).2) ∧ RAt r B (s.wrote f a t.data.toList).1 w' ∧ RFr B w w' := by
  have htl : t.data.toList.length = t.size := Array.length_toList
  have HCO := Lib.hid (rcomes_any r B s f a t w h hb ha ht harm)
  have HX : Hid (s.wrote f a t.data.toList = if mayOf (s.come f a t.data.toList).down f ≠ 0 then (s.come f a t.data.toList, mayOf (s.come f a t.data.toList).down f) else if a < 0 then (s.come f a t.data.toList, 1)
    else if fitsB a t.size = false then (s.come f a t.data.toList, 6) else ((s.come f a t.data.toList).added f a.toNat t.data.toList, 0)) := Lib.hid (by unfold RSt.wrote; rw [htl])
  have HUP : Hid ((s.come f a t.data.toList).down = false → (s.come f a t.data.toList).fl = s.fl ∧ (s.come f a t.data.toList).q = s.q) := Lib.hid come_up
  have HB := Lib.hid hb
  generalize s.wrote f a t.data.toList = Y at *
  generalize s.come f a t.data.toList = s1 at *
  clear h hb
  go_enter Try.func30, Try.ntmps30
  go_wp2_with fail
  refine HCO.out.mono ?_
  rintro e w2 ⟨rfl, h2, f2⟩
  have H2 := Lib.hid h2
  have F2 := Lib.hid f2
  clear HCO
  have HM := Lib.hid (rMay_any r B s1 f w2 h2)
  clear h2 f2
  go_wp2_with fail
  refine HM.out.mono ?_
  rintro e w3 ⟨rfl, rfl⟩
  by_cases hm : mayOf s1.down f = 0
  · obtain ⟨hd, hf0, hf1⟩ := may_ok hm
    obtain ⟨u1, u2⟩ := HUP.out hd
    have U1 := Lib.hid u1
    have U2 := Lib.hid u2
    clear u1 u2 hd HUP HM
    rw [hm]
    by_cases h0 : a < 0
    · have HXX : Hid (Y = (s1, 1)) := Lib.hid (by rw [HX.out, if_neg (by rw [hm]; simp), if_pos h0])
      clear HX hm
      go_wp2
      go_ret
      rw [HXX.out]
      exact ⟨rfl, H2.out, F2.out⟩
    · have h0' : 0 ≤ a := by omega
      have HFI := Lib.hid (rFits_any a t w3 ha ht)
      cases hfit : fitsB a t.size with
      | true =>
        have HXX : Hid (Y = (s1.added f a.toNat t.data.toList, 0)) := Lib.hid (by rw [HX.out, if_neg (by rw [hm]; simp), if_neg h0, if_neg (by rw [hfit]; decide)])
        have hfb : 0 ≤ a ∧ a + t.size ≤ 16777216 := by simpa [fitsB] using hfit
        obtain ⟨an, rfl⟩ := Int.eq_ofNat_of_zero_le hfb.1
        rw [hfit] at HFI
        clear HX hm hfit
        go_wp2_with fail
        refine HFI.out.mono ?_
        rintro e w4 ⟨rfl, m, rfl⟩
        have HS2 : Hid (RAt r B s1 (w3.drewN m)) := Lib.hid H2.out
        have HF2 : Hid (RFr B w (w3.drewN m)) := Lib.hid (F2.out.trans (RFr.of_below ⟨rfl, rfl, rfl, Nat.le_refl _, fun _ _ => rfl⟩))
        generalize w3.drewN m = wd at *
        have hadd := radd_any r B s1 f an t wd HS2.out (by rw [U1.out]; have := HB.out.fl; omega) (by rw [U2.out]; have := HB.out.q; omega) (fun g => by rw [U1.out]; exact (HB.out.big g).1) (by omega)
        have HAD := Lib.hid hadd
        clear hadd HFI
        go_wp2_with fail
        refine HAD.out.mono ?_
        rintro e w5 ⟨rfl, h5, f5⟩
        have H5 := Lib.hid h5
        have F5 := Lib.hid f5
        clear h5 f5 HAD
        go_wp2
        go_ret
        rw [HXX.out]
        exact ⟨rfl, H5.out, HF2.out.trans F5.out⟩
      | false =>
        have HXX : Hid (Y = (s1, 6)) := Lib.hid (by rw [HX.out, if_neg (by rw [hm]; simp), if_neg h0, if_pos hfit])
        rw [hfit] at HFI
        clear HX hm hfit
        go_wp2_with fail
        refine HFI.out.mono ?_
        rintro e w4 ⟨rfl, m, rfl⟩
        go_wp2
        go_ret
        rw [HXX.out]
        exact ⟨rfl, H2.out, F2.out.trans (RFr.of_below ⟨rfl, rfl, rfl, Nat.le_refl _, fun _ _ => rfl⟩)⟩
  · have HXX : Hid (Y = (s1, mayOf s1.down f)) := Lib.hid (by rw [HX.out, if_pos hm])
    have hmn : (mayOf s1.down f != 0) = true := by simpa using hm
    clear HX HM
    generalize mayOf s1.down f = mm at *
    go_wp2
    go_ret
    rw [HXX.out]
    exact ⟨rfl, H2.out, F2.out⟩

end Go.Proofs.Ytkbffhlkbcdgnaa
