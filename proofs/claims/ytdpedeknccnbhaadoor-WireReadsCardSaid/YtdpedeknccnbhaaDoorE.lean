/-
  Contracts of wire.Reader's methods (3): Num, Int and Text.
-/
import Derived.Test.YtdpedeknccnbhaaDoorD
set_option linter.unusedVariables false
namespace Go.Proofs.YtdpedeknccnbhaaDoor
open Go.RowKit Go.Sort

/-- what a reading method comes to: the value and the rest, or, where nothing can be read, the zero value, and the reader has failed. -/
def MPost {α : Type} (T : TypeId) (r : Nat) (f : Bool) (val : α → Value) (zero : Value) (x : Option (α × List UInt8)) (w : World) (e : Ending) (w' : World) : Prop :=
  match x with
  | some (v, l) => After T r (val v) l f w e w'
  | none => After T r zero [] true w e w'

theorem toNat59 : (((59 : UInt8).toNat : Nat) : Int) = 59 := rfl
theorem digits_at (r : Nat) (s : ByteArray) (f : Bool) (e : UInt8) (c : Int) (hc : c = (e.toNat : Int)) (he : isD e = false) (most : Nat) (m : Int) (hm0 : m = (most : Int)) (hm : most ≤ 9223372036854775808) (hm9 : 9 ≤ most) (w : World)
    (hr : RdrAt 54 r s f w) (hsz : s.size ≤ 1099511627776) :
    Calls Tryd.prog 48 #[.pointer (some ⟨r, 0, none⟩), .int .u8 c, .int .u64 m] w (DigPost r f (rdM most e s.data.toList) w) := by
  subst hc; subst hm0
  exact digits_any r s f e he most hm hm9 w hr hsz

theorem maxI_le {n : Nat} (h : n ≤ maxI) : (n : Int) ≤ 9223372036854775807 := by unfold maxI at h; omega
theorem rdM_le {most : Nat} {e : UInt8} {l : List UInt8} {n : Nat} {t : List UInt8} (h : rdM most e l = some (n, t)) : n ≤ most := by
  unfold rdM at h
  split at h
  · split at h
    · simp only [Option.some.injEq, Prod.mk.injEq] at h
      obtain ⟨rfl, _⟩ := h
      assumption
    · cases h
  · cases h

set_option maxHeartbeats 1000000 in
theorem numR_any (r : Nat) (s : ByteArray) (f : Bool) (w : World) (hr : RdrAt 54 r s f w) (hsz : s.size ≤ 1099511627776) :
    Calls Tryd.prog 24 #[.pointer (some ⟨r, 0, none⟩)] w (MPost 54 r f (Value.int .i64) (.int .i64 0) (rdNum s.data.toList) w) := by
  have hd := digits_at r s f 59 59 rfl (by decide) maxI 9223372036854775807 rfl (by unfold maxI; omega) (by unfold maxI; omega) w hr hsz
  cases hx : rdM maxI 59 s.data.toList with
  | none =>
    rw [hx] at hd
    have hn : rdNum s.data.toList = none := by unfold rdNum; rw [hx]
    have HN := Lib.hid hn
    have HD := Lib.hid hd
    clear hn hx hd hr
    go_enter Tryd.func24, Tryd.ntmps24
    go_wp2_with fail
    refine HD.out.mono ?_
    rintro e w2 ⟨rfl, hA, hg⟩
    have HA := Lib.hid hA; clear hA
    go_wp2
    go_ret
    rw [HN.out]
    exact ⟨rfl, HA.out, hg⟩
  | some x =>
    obtain ⟨n, t⟩ := x
    rw [hx] at hd
    have hn : rdNum s.data.toList = some ((n : Int), t) := by unfold rdNum; rw [hx]
    have hle := maxI_le (rdM_le hx)
    have HN := Lib.hid hn
    have HD := Lib.hid hd
    clear hn hx hd hr
    go_enter Tryd.func24, Tryd.ntmps24
    go_wp2_with fail
    refine HD.out.mono ?_
    rintro e w2 ⟨rfl, hA, hg⟩
    have HA := Lib.hid hA; clear hA
    go_wp2
    go_ret
    rw [HN.out]
    exact ⟨rfl, HA.out, hg⟩

theorem prefix_any (s p : ByteArray) (w : World) :
    Calls Tryd.prog 50 #[.string s, .string p] w fun e w' => e = .returned (.bool (Lib.hasPrefix s.data.toList p.data.toList)) ∧ w = w' :=
  (Tryd.strings_HasPrefix s p w).mono fun _ _ ⟨he, hw⟩ => ⟨he, hw.symm⟩
theorem prefix_yes (s : ByteArray) (c : UInt8) (t : List UInt8) (h : s.data.toList = c :: t) (w : World) :
    Calls Tryd.prog 50 #[.string s, .string ⟨#[c]⟩] w fun e w' => e = .returned (.bool true) ∧ w = w' :=
  (prefix_any s ⟨#[c]⟩ w).mono fun _ _ ⟨he, hw⟩ => ⟨by rw [he, h]; simp [Lib.hasPrefix, List.isPrefixOf], hw⟩
theorem prefix_no (s : ByteArray) (c : UInt8) (h : ∀ t, s.data.toList ≠ c :: t) (w : World) :
    Calls Tryd.prog 50 #[.string s, .string ⟨#[c]⟩] w fun e w' => e = .returned (.bool false) ∧ w = w' :=
  (prefix_any s ⟨#[c]⟩ w).mono fun _ _ ⟨he, hw⟩ => ⟨by
    rw [he]
    congr 2
    cases hl : s.data.toList with
    | nil => rfl
    | cons a t =>
      have : c ≠ a := fun e => h t (by rw [hl, e])
      simp [Lib.hasPrefix, List.isPrefixOf, this], hw⟩

def negOf : Option (Nat × List UInt8) → Option (Int × List UInt8)
  | some (0, _) => none
  | some (n, l) => some (-(n : Int), l)
  | none => none
theorem rdInt_neg (t : List UInt8) : rdInt (45 :: t) = negOf (rdM 9223372036854775808 59 t) := rfl
theorem rdNeg_none {x : Option (Nat × List UInt8)} (h : x = none) : negOf x = none := by rw [h]; rfl
theorem rdNeg_zero {x : Option (Nat × List UInt8)} {l : List UInt8} (h : x = some (0, l)) : negOf x = none := by rw [h]; rfl
theorem rdNeg_some {x : Option (Nat × List UInt8)} {l : List UInt8} {m : Nat} (h : x = some (m + 1, l)) : negOf x = some (-((m + 1 : Nat) : Int), l) := by rw [h]; rfl
theorem rdInt_pos (l : List UInt8) (h : ∀ t, l ≠ 45 :: t) : rdInt l = rdNum l := by
  unfold rdInt rdI
  split
  · rename_i t; exact absurd rfl (h t)
  · rfl
theorem ret_i64 {a b : Int} (h : a = b) : Ending.returned (.int .i64 a) = .returned (.int .i64 b) := by rw [h]

theorem extract_size (s : ByteArray) (a : Nat) (h : a ≤ s.size) : (s.extract a s.size).size = s.size - a := by
  have := size_of (ext_drop s a)
  rw [this, List.length_drop, size_list]

set_option maxRecDepth 100000 in
set_option maxHeartbeats 2000000 in
theorem intR_any (r : Nat) (s : ByteArray) (f : Bool) (w : World) (hr : RdrAt 54 r s f w) (hsz : s.size ≤ 1099511627776) :
    Calls Tryd.prog 26 #[.pointer (some ⟨r, 0, none⟩)] w (MPost 54 r f (Value.int .i64) (.int .i64 0) (rdInt s.data.toList) w) := by
  have c0 := hr.cell0
  have f0 := hr.froz 0
  by_cases h45 : ∃ t, s.data.toList = 45 :: t
  · obtain ⟨t, ht⟩ := h45
    have HP := Lib.hid (prefix_yes s 45 t ht)
    have h1 : 1 ≤ s.size := by rw [← size_list, ht]; simp
    have hr2 := hr.set0 (s.extract 1 s.size)
    have hds := ext_drop s 1
    rw [ht] at hds
    have hsz2 : (s.extract 1 s.size).size ≤ 1099511627776 := by rw [extract_size s 1 h1]; omega
    have hd := digits_at r _ f 59 59 rfl (by decide) 9223372036854775808 9223372036854775808 rfl (by omega) (by omega) _ hr2 hsz2
    rw [hds] at hd
    simp only [List.drop_succ_cons, List.drop_zero] at hd
    have hg0 := grown_set w r 0 (.string (s.extract 1 s.size))
    have HE := Lib.hid ((congrArg rdInt ht).trans (rdInt_neg t))
    clear ht hds hr2
    cases hx : rdM 9223372036854775808 59 t with
    | none =>
      rw [hx] at hd
      have HN := Lib.hid (HE.out.trans (rdNeg_none hx))
      have HD := Lib.hid hd
      clear hx hd hr HE
      go_enter Tryd.func26, Tryd.ntmps26
      go_wp2_with fail
      refine (HP.out _).mono ?_
      rintro e w2 ⟨rfl, rfl⟩
      go_wp2_with fail
      refine HD.out.mono ?_
      rintro e w2 ⟨rfl, hA, hg⟩
      obtain ⟨s2, hs2, hr3⟩ := hA
      have HS := Lib.hid hs2; clear hs2
      have HR := Lib.hid hr3; clear hr3
      go_wp2_with fail
      refine (fail_any r _ _ _ HR.out).mono ?_
      rintro e w3 ⟨rfl, hA2, hg3⟩
      have HA := Lib.hid hA2; clear hA2
      go_wp2
      go_ret
      rw [HN.out]
      exact ⟨rfl, HA.out, grown_trans (grown_trans hg0 hg) hg3⟩
    | some x =>
      obtain ⟨n, l⟩ := x
      rw [hx] at hd
      have hle := rdM_le hx
      by_cases hn0 : n = 0
      · subst hn0
        have HN := Lib.hid (HE.out.trans (rdNeg_zero hx))
        have HD := Lib.hid hd
        clear hx hd hr HE
        go_enter Tryd.func26, Tryd.ntmps26
        go_wp2_with fail
        refine (HP.out _).mono ?_
        rintro e w2 ⟨rfl, rfl⟩
        go_wp2_with fail
        refine HD.out.mono ?_
        rintro e w2 ⟨rfl, hA, hg⟩
        obtain ⟨s2, hs2, hr3⟩ := hA
        have HS := Lib.hid hs2; clear hs2
        have HR := Lib.hid hr3; clear hr3
        go_wp2_with fail
        refine (fail_any r _ _ _ HR.out).mono ?_
        rintro e w3 ⟨rfl, hA2, hg3⟩
        have HA := Lib.hid hA2; clear hA2
        go_wp2
        go_ret
        rw [HN.out]
        exact ⟨rfl, HA.out, grown_trans (grown_trans hg0 hg) hg3⟩
      · obtain ⟨m, rfl⟩ : ∃ m, n = m + 1 := ⟨n - 1, by omega⟩
        have HN := Lib.hid (HE.out.trans (rdNeg_some hx))
        have HD := Lib.hid hd
        generalize hn : m + 1 = n at *
        have hn1 : 1 ≤ n := by omega
        have hnz : ((n : Int) == 0) = false := beq_eq_false_iff_ne.2 (by omega)
        clear hx hd hr HE hn0 hn
        go_enter Tryd.func26, Tryd.ntmps26
        go_wp2_with fail
        refine (HP.out _).mono ?_
        rintro e w2 ⟨rfl, rfl⟩
        go_wp2_with fail
        refine HD.out.mono ?_
        rintro e w2 ⟨rfl, hA, hg⟩
        have HA := Lib.hid hA; clear hA
        go_wp2
        go_ret
        rw [HN.out]
        exact ⟨ret_i64 (by rw [IntKind.wrap_u64]; unfold wrap64; omega), HA.out, grown_trans hg0 hg⟩
  · have HP := Lib.hid (prefix_no s 45 (fun t e => h45 ⟨t, e⟩))
    have hH := Lib.hid (numR_any r s f w hr hsz)
    have HE := Lib.hid (rdInt_pos s.data.toList (fun t e => h45 ⟨t, e⟩))
    clear h45 hr
    go_enter Tryd.func26, Tryd.ntmps26
    go_wp2_with fail
    refine (HP.out _).mono ?_
    rintro e w2 ⟨rfl, rfl⟩
    cases hx : rdNum s.data.toList with
    | none =>
      rw [hx] at hH
      have HN := Lib.hid (HE.out.trans hx); clear hx HE
      go_wp2_with fail
      refine hH.out.mono ?_
      rintro e w2 ⟨rfl, hA, hg⟩
      have HA := Lib.hid hA; clear hA
      go_wp2
      go_ret
      rw [HN.out]
      exact ⟨rfl, HA.out, hg⟩
    | some x =>
      obtain ⟨n, l⟩ := x
      rw [hx] at hH
      have HN := Lib.hid (HE.out.trans hx); clear hx HE
      go_wp2_with fail
      refine hH.out.mono ?_
      rintro e w2 ⟨rfl, hA, hg⟩
      have HA := Lib.hid hA; clear hA
      go_wp2
      go_ret
      rw [HN.out]
      exact ⟨rfl, HA.out, hg⟩

end Go.Proofs.YtdpedeknccnbhaaDoor
