/-
  The contract of the reference's comes.
-/
import Derived.Test.YtbpkcgkcamkggaaGreatDoorT906
set_option linter.unusedVariables false
namespace Go.Proofs.YtbpkcgkcamkggaaGreatDoor
open Go.RowKit

/-- what is held of the reference's disk between two calls. -/
structure RB (s : RSt) : Prop where
  fl : s.fl.length ≤ 1073741824
  q : s.q.length ≤ 1073741824
  big : FBig s.fl
  qn : ∀ x ∈ s.q, x.2 ≤ 1073741824
  keep : s.keep.length ≤ 1073741824

/-- the disk's own list keep, read for a crash. -/
theorem krow_own {B : Nat} {w : World} {v : Value} {keep : List Int} (h : w.ownsRow B 3 1 v keep.length (keep.map (Value.int .i64))) :
    ∃ A cap, v = .slice A keep.length cap ∧ KRow B w A keep := by
  obtain ⟨A, cap, e, hA⟩ := own_parts h
  refine ⟨A, cap, e, fun hn => ?_⟩
  obtain ⟨g, rfl, hg, hc⟩ := hA hn
  refine ⟨g, 0, rfl, hg, .inr (fun c z => ?_), fun j hj => ?_⟩
  · obtain ⟨_, hv⟩ := h
    rcases hv with ⟨rfl, _⟩ | ⟨g', cap', cur, hv2, _, h3, _⟩
    · cases e
    · rw [e] at hv2
      simp only [Value.slice.injEq, Option.some.injEq, Addr.mk.injEq, and_true] at hv2
      obtain ⟨rfl, _⟩ := hv2
      rw [h3]
      constructor
      · intro e2; simp only [Option.some.injEq, Obj.cells.injEq] at e2; exact absurd e2.2.1 (by decide)
      · intro e2; simp only [Option.some.injEq, Obj.cells.injEq] at e2; exact absurd e2.2.1 (by decide)
  · rw [Nat.zero_add, hc j (by omega)]
    simp [hj]

theorem added_fl (s : RSt) (f : Int) (a : Nat) (t : List UInt8) : (s.added f a t).fl.length ≤ s.fl.length + 1 := by
  unfold RSt.added; split
  · omega
  · exact rset_len _ _
theorem added_q (s : RSt) (f : Int) (a : Nat) (t : List UInt8) (hb : a + t.length ≤ 16777216) : (s.added f a t).q.length ≤ s.q.length + 300000 := by
  unfold RSt.added; split
  · omega
  · have := addSecs_len f ((a + t.length - 1) / 64 + 1 - a / 64) s.q (a / 64)
    simp only
    omega
theorem added_qn (s : RSt) (f : Int) (a : Nat) (t : List UInt8) (hb : a + t.length ≤ 16777216) (h : ∀ x ∈ s.q, x.2 ≤ 1073741824) : ∀ x ∈ (s.added f a t).q, x.2 ≤ 1073741824 := by
  unfold RSt.added; split
  · exact h
  · intro x hx
    rcases (mem_addSecs _ _ _ _ _).1 hx with hx | hx
    · exact h x hx
    · omega
theorem added_big (s : RSt) (f : Int) (a : Nat) (t : List UInt8) (hb : a + t.length ≤ 16777216) (h : FBig s.fl) : FBig (s.added f a t).fl := by
  unfold RSt.added
  by_cases ht : t = []
  · rw [if_pos ht]; exact h
  · rw [if_neg ht]
    intro g
    simp only
    rw [rget_set]
    by_cases c : g = (rNow s f a t).1
    · rw [if_pos c]
      refine ⟨?_, (h f).2⟩
      show (bsOf _).size ≤ _
      have e1 : (rget s.fl f).2.1.data.toList.length = (rget s.fl f).2.1.size := Array.length_toList
      have := (h f).1
      rw [bsOf_size, put_length ht, e1]
      omega
    · rw [if_neg c]; exact h g

/-- the reference's disk behind comes. -/
def RSt.come (s : RSt) (f a : Int) (t : List UInt8) : RSt :=
  if s.down = true ∨ s.armed = 0 then s
  else if 2 ≤ s.armed then { s with armed := s.armed - 1 }
  else if 0 ≤ f ∧ f ≤ 15 ∧ fitsB a t.length = true then (RSt.added { s with armed := 0 } f a.toNat t).crashed s.keep else RSt.crashed { s with armed := 0 } s.keep

theorem added_keep (s : RSt) (f : Int) (a : Nat) (t : List UInt8) : (s.added f a t).keep = s.keep := by
  unfold RSt.added; split <;> rfl

/-- a crash by the disk's own list keep. -/
theorem rcrash_own (r B : Nat) (s : RSt) (w : World) (h : RAt r B s w) (hl : s.fl.length ≤ 274877906944) (hql : s.q.length ≤ 274877906944) (hbig : FBig s.fl) (hqn : ∀ x ∈ s.q, x.2 ≤ 1099511627776) (hk : s.keep.length ≤ 1099511627776) :
    ∃ A cap, w.cell? ⟨r, 5, none⟩ = some (.slice A s.keep.length cap) ∧ Calls Tryz.prog 21 #[.pointer (some ⟨r, 0, none⟩), .slice A s.keep.length cap] w fun e w' => e = .returned (.tuple #[]) ∧ RAt r B (s.crashed s.keep) w' ∧ RFr B w w' := by
  obtain ⟨_, _, Kv, _, _, _, _, _, c5, _, _, _, hK⟩ := h.cells
  obtain ⟨A, cap, rfl, hA⟩ := krow_own hK
  exact ⟨A, cap, c5, rcrash_any r B s A cap s.keep w h hA hk hl hql hbig hqn⟩

set_option maxRecDepth 100000 in
set_option maxHeartbeats 8000000 in
theorem rcomes_any (r B : Nat) (s : RSt) (f a : Int) (t : ByteArray) (w : World) (h : RAt r B s w) (hb : RB s) (ha : In64 a) (ht : t.size ≤ 1099511627776) (harm : s.armed ≤ 9223372036854775807) :
    Calls Tryz.prog 58 #[.pointer (some ⟨r, 0, none⟩), .int .i64 f, .int .i64 a, .string t] w fun e w' => e = .returned (.tuple #[]) ∧ RAt r B (s.come f a t.data.toList) w' ∧ RFr B w w' := by
  have hBr : B ≤ r := by obtain ⟨_, _, _, _, _, _, _, h5⟩ := h; exact h5
  have htl : t.data.toList.length = t.size := Array.length_toList
  obtain ⟨_, _, _, _, _, _, c3, c4, _, hz, _⟩ := h.cells
  have hz4 := hz 4
  clear hz
  have HH := Lib.hid h
  have HB := Lib.hid hb
  have HX : Hid (s.come f a t.data.toList = if s.down = true ∨ s.armed = 0 then s else if 2 ≤ s.armed then { s with armed := s.armed - 1 } else if 0 ≤ f ∧ f ≤ 15 ∧ fitsB a t.size = true then (RSt.added { s with armed := 0 } f a.toNat t.data.toList).crashed s.keep else RSt.crashed { s with armed := 0 } s.keep) := Lib.hid (by unfold RSt.come; rw [htl])
  clear hb
  cases hd : s.down with
  | true =>
    rw [hd] at c3
    have HXX : Hid (s.come f a t.data.toList = s) := Lib.hid (by rw [HX.out, if_pos (.inl hd)])
    clear hd h HX
    go_enter Tryz.func58, Tryz.ntmps58
    go_wp2
    refine bodyPost_ret (results_none rfl _ _ _) rfl ?_
    rw [HXX.out]
    exact ⟨rfl, HH.out, RFr.refl _ _⟩
  | false =>
    rw [hd] at c3
    by_cases h0 : s.armed = 0
    · rw [h0] at c4
      have HXX : Hid (s.come f a t.data.toList = s) := Lib.hid (by rw [HX.out, if_pos (.inr h0)])
      clear hd h HX h0
      go_enter Tryz.func58, Tryz.ntmps58
      go_wp2
      refine bodyPost_ret (results_none rfl _ _ _) rfl ?_
      rw [HXX.out]
      exact ⟨rfl, HH.out, RFr.refl _ _⟩
    · have hne : ((s.armed : Int) == 0) = false := by simp; omega
      have hge : (1 : Int) ≤ (s.armed : Int) := by omega
      obtain ⟨_, _, _, g1, _⟩ := h
      by_cases h2 : 2 ≤ s.armed
      · have HXX : Hid (s.come f a t.data.toList = { s with armed := s.armed - 1 }) := Lib.hid (by rw [HX.out, if_neg (by rw [hd]; simp; omega), if_pos h2])
        have h2' : (0 : Int) < (s.armed : Int) - 1 := by omega
        have hset := HH.out.setS (s' := { s with armed := s.armed - 1 }) 4 (.int .i64 ((s.armed : Int) - 1)) rfl rfl rfl (fun F Q K => by simp; omega)
        have HS := Lib.hid hset
        have G1 := Lib.hid g1
        clear hd HX g1 hset
        go_enter Tryz.func58, Tryz.ntmps58
        go_wp2
        refine bodyPost_ret (results_none rfl _ _ _) rfl ?_
        rw [HXX.out]
        exact ⟨rfl, HS.out, RFr.of_disk (grown_one _ _ _ _) hBr G1.out⟩
      · have h1 : s.armed = 1 := by omega
        rw [h1] at c4
        have hset := HH.out.setS (s' := { s with armed := 0 }) 4 (.int .i64 0) rfl rfl rfl (fun F Q K => by simp)
        have HS := Lib.hid hset
        have HF := Lib.hid (RFr.of_disk (grown_one w r 4 (.int .i64 0)) hBr g1)
        have hx4 : (w.setCell ⟨r, 4, none⟩ (.int .i64 0)).cell? ⟨r, 4, none⟩ = some (.int .i64 0) := by
          obtain ⟨_, _, _, _, _, _, _, q4, _⟩ := hset.cells
          exact q4
        by_cases hin : 0 ≤ f ∧ f ≤ 15
        · obtain ⟨hf0, hf1⟩ := hin
          have HFI := Lib.hid (rFits_any a t (w.setCell ⟨r, 4, none⟩ (.int .i64 0)) ha ht)
          cases hfit : fitsB a t.size with
          | true =>
            have HXX : Hid (s.come f a t.data.toList = (RSt.added { s with armed := 0 } f a.toNat t.data.toList).crashed s.keep) := Lib.hid (by rw [HX.out, if_neg (by rw [hd]; simp; omega), if_neg h2, if_pos ⟨hf0, hf1, hfit⟩])
            have hfb : 0 ≤ a ∧ a + t.size ≤ 16777216 := by simpa [fitsB] using hfit
            obtain ⟨an, rfl⟩ := Int.eq_ofNat_of_zero_le hfb.1
            have hfb2 : an + t.size ≤ 16777216 := by omega
            rw [hfit] at HFI
            clear hd HX g1 hset h1 h2 hfit hne hge
            go_enter Tryz.func58, Tryz.ntmps58
            go_wp2_with fail
            refine HFI.out.mono ?_
            rintro e w2 ⟨rfl, m, rfl⟩
            have HS2 : Hid (RAt r B { s with armed := 0 } ((w.setCell ⟨r, 4, none⟩ (.int .i64 0)).drewN m)) := Lib.hid HS.out
            have HF2 : Hid (RFr B w ((w.setCell ⟨r, 4, none⟩ (.int .i64 0)).drewN m)) := Lib.hid (HF.out.trans (RFr.of_below ⟨rfl, rfl, rfl, Nat.le_refl _, fun _ _ => rfl⟩))
            generalize (w.setCell ⟨r, 4, none⟩ (.int .i64 0)).drewN m = wd at *
            have hadd := radd_any r B _ f an t wd HS2.out (by have := HB.out.fl; simp only; omega) (by have := HB.out.q; simp only; omega) (fun g => (HB.out.big g).1) hfb2
            have HAD := Lib.hid hadd
            clear hadd HFI
            go_wp2_with fail
            refine HAD.out.mono ?_
            rintro e w3 ⟨rfl, h3, f3⟩
            have H3 := Lib.hid h3
            have F3 := Lib.hid (HF2.out.trans f3)
            have hkp := added_keep { s with armed := 0 } f an t.data.toList
            have HKP := Lib.hid hkp
            clear h3 f3 HAD hkp
            obtain ⟨A, cap, c5, hcr⟩ := rcrash_own r B _ _ H3.out (by have := HB.out.fl; have := added_fl { s with armed := 0 } f an t.data.toList; simp only at this; omega) (by have := HB.out.q; have := added_q { s with armed := 0 } f an t.data.toList (by omega); simp only at this; omega) (added_big _ _ _ _ (by omega) HB.out.big) (fun x hx => by have := added_qn { s with armed := 0 } f an t.data.toList (by omega) HB.out.qn x hx; omega) (by have := HB.out.keep; rw [added_keep]; simp only; omega)
            have HC := Lib.hid hcr
            clear hcr
            go_wp2_with fail
            refine HC.out.mono ?_
            rintro e w9 ⟨rfl, h9, f9⟩
            have H9 := Lib.hid h9
            have F9 := Lib.hid f9
            clear h9 f9 HC
            go_wp2
            refine bodyPost_end (results_none rfl _ _ _) rfl ?_
            rw [HXX.out]
            have h9' := H9.out
            rw [HKP.out] at h9'
            exact ⟨rfl, h9', F3.out.trans F9.out⟩
          | false =>
            have HXX : Hid (s.come f a t.data.toList = RSt.crashed { s with armed := 0 } s.keep) := Lib.hid (by rw [HX.out, if_neg (by rw [hd]; simp; omega), if_neg h2, if_neg (by rw [hfit]; simp)])
            rw [hfit] at HFI
            clear hd HX g1 hset h1 h2 hfit hne hge
            go_enter Tryz.func58, Tryz.ntmps58
            go_wp2_with fail
            refine HFI.out.mono ?_
            rintro e w2 ⟨rfl, m, rfl⟩
            have HS2 : Hid (RAt r B { s with armed := 0 } ((w.setCell ⟨r, 4, none⟩ (.int .i64 0)).drewN m)) := Lib.hid HS.out
            have HF2 : Hid (RFr B w ((w.setCell ⟨r, 4, none⟩ (.int .i64 0)).drewN m)) := Lib.hid (HF.out.trans (RFr.of_below ⟨rfl, rfl, rfl, Nat.le_refl _, fun _ _ => rfl⟩))
            generalize (w.setCell ⟨r, 4, none⟩ (.int .i64 0)).drewN m = wd at *
            obtain ⟨A, cap, c5, hcr⟩ := rcrash_own r B _ _ HS2.out (by have := HB.out.fl; simp only; omega) (by have := HB.out.q; simp only; omega) HB.out.big (fun x hx => by have := HB.out.qn x hx; omega) (by have := HB.out.keep; simp only; omega)
            have HC := Lib.hid hcr
            clear hcr
            go_wp2_with fail
            refine HC.out.mono ?_
            rintro e w9 ⟨rfl, h9, f9⟩
            have H9 := Lib.hid h9
            have F9 := Lib.hid f9
            clear h9 f9 HC
            go_wp2
            refine bodyPost_end (results_none rfl _ _ _) rfl ?_
            rw [HXX.out]
            exact ⟨rfl, H9.out, HF2.out.trans F9.out⟩
        · have HXX : Hid (s.come f a t.data.toList = RSt.crashed { s with armed := 0 } s.keep) := Lib.hid (by rw [HX.out, if_neg (by rw [hd]; simp; omega), if_neg h2, if_neg (fun hh => hin ⟨hh.1, hh.2.1⟩)])
          by_cases hf0 : 0 ≤ f
          · have hf1 : 15 < f := by omega
            clear hd HX g1 hset h1 h2 hne hge hin
            go_enter Tryz.func58, Tryz.ntmps58
            obtain ⟨A, cap, c5, hcr⟩ := rcrash_own r B _ _ HS.out (by have := HB.out.fl; simp only; omega) (by have := HB.out.q; simp only; omega) HB.out.big (fun x hx => by have := HB.out.qn x hx; omega) (by have := HB.out.keep; simp only; omega)
            have HC := Lib.hid hcr
            clear hcr
            go_wp2_with fail
            refine HC.out.mono ?_
            rintro e w9 ⟨rfl, h9, f9⟩
            have H9 := Lib.hid h9
            have F9 := Lib.hid f9
            clear h9 f9 HC
            go_wp2
            refine bodyPost_end (results_none rfl _ _ _) rfl ?_
            rw [HXX.out]
            exact ⟨rfl, H9.out, HF.out.trans F9.out⟩
          · have hf1 : f < 0 := by omega
            clear hd HX g1 hset h1 h2 hne hge hin
            go_enter Tryz.func58, Tryz.ntmps58
            obtain ⟨A, cap, c5, hcr⟩ := rcrash_own r B _ _ HS.out (by have := HB.out.fl; simp only; omega) (by have := HB.out.q; simp only; omega) HB.out.big (fun x hx => by have := HB.out.qn x hx; omega) (by have := HB.out.keep; simp only; omega)
            have HC := Lib.hid hcr
            clear hcr
            go_wp2_with fail
            refine HC.out.mono ?_
            rintro e w9 ⟨rfl, h9, f9⟩
            have H9 := Lib.hid h9
            have F9 := Lib.hid f9
            clear h9 f9 HC
            go_wp2
            refine bodyPost_end (results_none rfl _ _ _) rfl ?_
            rw [HXX.out]
            exact ⟨rfl, H9.out, HF.out.trans F9.out⟩

end Go.Proofs.YtbpkcgkcamkggaaGreatDoor
