/-
  Contracts of wire.Reader's methods (3): Num, Int and Text.
  Contracts of wire.Reader's methods (4): Text.
  Contracts of the reference's writers.
-/
import Derived.Test.YtbpkcgkcamkggaaGreatDoorT931
import Derived.Lib.AppendIntMem
set_option linter.unusedVariables false
namespace Go.Proofs.YtbpkcgkcamkggaaGreatDoor.W
open Go.RowKit Go.Sort

/-- what a reading method comes to: the value and the rest, or, where nothing can be read, the zero value, and the reader has failed. -/
def MPost {α : Type} (T : TypeId) (r : Nat) (f : Bool) (val : α → Value) (zero : Value) (x : Option (α × List UInt8)) (w : World) (e : Ending) (w' : World) : Prop :=
  match x with
  | some (v, l) => After T r (val v) l f w e w'
  | none => After T r zero [] true w e w'

theorem digits_at (r : Nat) (s : ByteArray) (f : Bool) (e : UInt8) (c : Int) (hc : c = (e.toNat : Int)) (he : isD e = false) (most : Nat) (m : Int) (hm0 : m = (most : Int)) (hm : most ≤ 9223372036854775808) (hm9 : 9 ≤ most) (w : World)
    (hr : RdrAt 109 r s f w) (hsz : s.size ≤ 1099511627776) :
    Calls Tryz.prog 77 #[.pointer (some ⟨r, 0, none⟩), .int .u8 c, .int .u64 m] w (DigPost r f (rdM most e s.data.toList) w) := by
  subst hc; subst hm0
  exact digits_any r s f e he most hm hm9 w hr hsz

theorem maxI_le {n : Nat} (h : n ≤ maxI) : (n : Int) ≤ 9223372036854775807 := by unfold maxI at h; omega
theorem rdM_le {most : Nat} {e : UInt8} {l : List UInt8} {n : Nat} {t : List UInt8} (h : rdM most e l = some (n, t)) : n ≤ most := by
  unfold rdM at h
  split at h
  · split at h
    · simp only [Option.some.injEq, Prod.mk.injEq] at h
      obtain ⟨rfl, _⟩ := h
      assumption
    · cases h
  · cases h

set_option maxHeartbeats 1000000 in
theorem numR_any (r : Nat) (s : ByteArray) (f : Bool) (w : World) (hr : RdrAt 109 r s f w) (hsz : s.size ≤ 1099511627776) :
    Calls Tryz.prog 55 #[.pointer (some ⟨r, 0, none⟩)] w (MPost 109 r f (Value.int .i64) (.int .i64 0) (rdNum s.data.toList) w) := by
  have hd := digits_at r s f 59 59 rfl (by decide) maxI 9223372036854775807 rfl (by unfold maxI; omega) (by unfold maxI; omega) w hr hsz
  cases hx : rdM maxI 59 s.data.toList with
  | none =>
    rw [hx] at hd
    have hn : rdNum s.data.toList = none := by unfold rdNum; rw [hx]
    have HN := Lib.hid hn
    have HD := Lib.hid hd
    clear hn hx hd hr
    go_enter Tryz.func55, Tryz.ntmps55
    go_wp2_with fail
    refine HD.out.mono ?_
    rintro e w2 ⟨rfl, hA, hg⟩
    have HA := Lib.hid hA; clear hA
    go_wp2
    go_ret
    rw [HN.out]
    exact ⟨rfl, HA.out, hg⟩
  | some x =>
    obtain ⟨n, t⟩ := x
    rw [hx] at hd
    have hn : rdNum s.data.toList = some ((n : Int), t) := by unfold rdNum; rw [hx]
    have hle := maxI_le (rdM_le hx)
    have HN := Lib.hid hn
    have HD := Lib.hid hd
    clear hn hx hd hr
    go_enter Tryz.func55, Tryz.ntmps55
    go_wp2_with fail
    refine HD.out.mono ?_
    rintro e w2 ⟨rfl, hA, hg⟩
    have HA := Lib.hid hA; clear hA
    go_wp2
    go_ret
    rw [HN.out]
    exact ⟨rfl, HA.out, hg⟩

theorem extract_size (s : ByteArray) (a : Nat) (h : a ≤ s.size) : (s.extract a s.size).size = s.size - a := by
  have := size_of (ext_drop s a)
  rw [this, List.length_drop, size_list]

end Go.Proofs.YtbpkcgkcamkggaaGreatDoor.W
namespace Go.Proofs.YtbpkcgkcamkggaaGreatDoor.W
open Go.RowKit Go.Sort

/-- a string of bytes. -/
def bs (l : List UInt8) : ByteArray := ⟨l.toArray⟩
theorem bs_data (l : List UInt8) : (bs l).data.toList = l := rfl
theorem ret_str {a b : ByteArray} (h : a.data.toList = b.data.toList) : Ending.returned (.string a) = .returned (.string b) := by
  have : a = b := ByteArray.ext (Array.toList_inj.1 h)
  rw [this]
theorem empty_of {s : ByteArray} (h : s.data.toList = []) : s = ⟨#[]⟩ := ByteArray.ext (Array.toList_inj.1 h)

theorem ext_take (s : ByteArray) (n : Nat) : (s.extract 0 n).data.toList = s.data.toList.take n := by
  rw [Lib.extract_data]; simp

theorem rdText_none {l : List UInt8} (h : rdM maxI 58 l = none) : rdText l = none := by unfold rdText; rw [h]
theorem rdText_short {l t : List UInt8} {n : Nat} (h : rdM maxI 58 l = some (n, t)) (hn : t.length ≤ n) : rdText l = none := by
  unfold rdText; rw [h]
  simp only
  rw [List.getElem?_eq_none hn]
  rfl
theorem rdText_other {l t : List UInt8} {n : Nat} (h : rdM maxI 58 l = some (n, t)) (hn : n < t.length) (hc : t[n] ≠ 44) : rdText l = none := by
  unfold rdText; rw [h]
  simp only
  rw [List.getElem?_eq_getElem hn]
  exact if_neg (fun e => hc (Option.some.inj e))
theorem rdText_some {l t : List UInt8} {n : Nat} (h : rdM maxI 58 l = some (n, t)) (hn : n < t.length) (hc : t[n] = 44) : rdText l = some (t.take n, t.drop (n + 1)) := by
  unfold rdText; rw [h]
  simp only
  rw [List.getElem?_eq_getElem hn, hc]
  exact if_pos rfl
theorem rd_rest_len {most : Nat} {e : UInt8} (he : isD e = false) {l t : List UInt8} {n : Nat} (h : rdM most e l = some (n, t)) : t.length + 2 ≤ l.length := by
  obtain ⟨rfl, _⟩ := (rdM_iff most e he l n t).1 h
  have := dec_ne n
  have h1 : 1 ≤ (Lib.decDigits n).length := by rw [Lib.decDigits_length]; exact Lib.nDigits_pos n
  simp only [List.length_append, List.length_cons]
  omega

/-- a string's value. -/
def vStr (l : List UInt8) : Value := .string (bs l)

set_option maxRecDepth 100000 in
set_option maxHeartbeats 2000000 in
theorem textR_any (r : Nat) (s : ByteArray) (f : Bool) (w : World) (hr : RdrAt 109 r s f w) (hsz : s.size ≤ 1099511627776) :
    Calls Tryz.prog 54 #[.pointer (some ⟨r, 0, none⟩)] w (MPost 109 r f vStr (.string ⟨#[]⟩) (rdText s.data.toList) w) := by
  have hd := digits_at r s f 58 58 rfl (by decide) maxI 9223372036854775807 rfl (by unfold maxI; omega) (by unfold maxI; omega) w hr hsz
  cases hx : rdM maxI 58 s.data.toList with
  | none =>
    rw [hx] at hd
    have HN := Lib.hid (rdText_none hx)
    have HD := Lib.hid hd
    clear hx hd hr
    go_enter Tryz.func54, Tryz.ntmps54
    go_wp2_with fail
    refine HD.out.mono ?_
    rintro e w2 ⟨rfl, hA, hg⟩
    obtain ⟨s2, hs2, hr2⟩ := hA
    obtain rfl := empty_of hs2
    have c2 := hr2.cell0
    have HR := Lib.hid hr2; clear hr2 hs2
    go_wp2_with fail
    refine (fail_any r _ _ _ HR.out).mono ?_
    rintro e w3 ⟨rfl, hA2, hg3⟩
    have HA := Lib.hid hA2; clear hA2
    go_wp2
    go_ret
    rw [HN.out]
    exact ⟨rfl, HA.out, grown_trans hg hg3⟩
  | some x =>
    obtain ⟨n, t⟩ := x
    rw [hx] at hd
    have hle := maxI_le (rdM_le hx)
    have htl := rd_rest_len (by decide) hx
    rw [size_list] at htl
    have HD := Lib.hid hd
    have HX := Lib.hid hx
    clear hd hr hx
    by_cases hlen : t.length ≤ n
    · have HN := Lib.hid (rdText_short HX.out hlen)
      go_enter Tryz.func54, Tryz.ntmps54
      go_wp2_with fail
      refine HD.out.mono ?_
      rintro e w2 ⟨rfl, hA, hg⟩
      obtain ⟨s2, hs2, hr2⟩ := hA
      have hz2 := size_of hs2
      have hz3 : (s2.size : Int) ≤ (n : Int) := by rw [hz2]; omega
      have c2 := hr2.cell0
      have HR := Lib.hid hr2; clear hr2 hs2 hz2
      go_wp2_with fail
      refine (fail_any r _ _ _ HR.out).mono ?_
      rintro e w3 ⟨rfl, hA2, hg3⟩
      have HA := Lib.hid hA2; clear hA2
      go_wp2
      go_ret
      rw [HN.out]
      exact ⟨rfl, HA.out, grown_trans hg hg3⟩
    · by_cases hc : t[n] = 44
      · have HN := Lib.hid (rdText_some HX.out (by omega) hc)
        have HC := Lib.hid hc; clear hc
        go_enter Tryz.func54, Tryz.ntmps54
        go_wp2_with fail
        refine HD.out.mono ?_
        rintro e w2 ⟨rfl, hA, hg⟩
        obtain ⟨s2, hs2, hr2⟩ := hA
        have hz2 := size_of hs2
        have hz3 : (n : Int) < (s2.size : Int) := by rw [hz2]; omega
        have hz4 : n < s2.size := by omega
        have hz5 : s2.size ≤ 1099511627776 := by omega
        have hcc : ((s2[n].toNat : Int) != 44) = false := by
          have h1 : s2[n] = 44 := by
            have := HC.out
            rw [← get_list s2 n hz4]
            subst hs2
            exact this
          rw [h1]; rfl
        have c2 := hr2.cell0
        have f2 := hr2.froz 0
        have HR := Lib.hid hr2; clear hr2 hz2
        have H2 := Lib.hid hs2; clear hs2
        go_wp2
        go_ret
        rw [HN.out]
        refine ⟨ret_str ?_, ⟨_, ?_, HR.out.set0 _⟩, grown_trans hg (grown_set _ _ _ _)⟩
        · rw [bs_data]; exact (ext_take s2 n).trans (by rw [H2.out])
        · exact (ext_drop s2 _).trans (by rw [H2.out])
      · have HN := Lib.hid (rdText_other HX.out (by omega) hc)
        have HC := Lib.hid hc; clear hc
        go_enter Tryz.func54, Tryz.ntmps54
        go_wp2_with fail
        refine HD.out.mono ?_
        rintro e w2 ⟨rfl, hA, hg⟩
        obtain ⟨s2, hs2, hr2⟩ := hA
        have hz2 := size_of hs2
        have hz3 : (n : Int) < (s2.size : Int) := by rw [hz2]; omega
        have hz4 : n < s2.size := by omega
        have hcc : ((s2[n].toNat : Int) != 44) = true := by
          rw [bne_iff_ne]
          intro h
          refine HC.out ?_
          have h1 : s2[n] = 44 := UInt8.toNat_inj.1 (by show s2[n].toNat = 44; omega)
          rw [← get_list s2 n hz4] at h1
          subst hs2
          exact h1
        have c2 := hr2.cell0
        have HR := Lib.hid hr2; clear hr2 hz2
        have H2 := Lib.hid hs2; clear hs2
        go_wp2_with fail
        refine (fail_any r _ _ _ HR.out).mono ?_
        rintro e w3 ⟨rfl, hA2, hg3⟩
        have HA := Lib.hid hA2; clear hA2
        go_wp2
        go_ret
        rw [HN.out]
        exact ⟨rfl, HA.out, grown_trans hg hg3⟩

end Go.Proofs.YtbpkcgkcamkggaaGreatDoor.W
namespace Go.Proofs.YtbpkcgkcamkggaaGreatDoor.W
open Go.RowKit Go.Sort

theorem str_eq {s : ByteArray} {l : List UInt8} (h : s.data.toList = l) : s = ⟨l.toArray⟩ := ByteArray.ext (Array.toList_inj.1 h)
theorem grown_of_below {w w' : World} (hb : Below w.heap.size w w') (row : Option Nat) : w.grownBy w' row := ⟨hb.os, hb.tape, hb.output, hb.size, fun k hk _ => hb.block k hk⟩
set_option maxRecDepth 100000 in
theorem conv_one (x : Int) (w : World) : ∃ s : ByteArray, (convert 62 9 (.slice (some ⟨w.heap.size, 0, none⟩) 1 1)).run Tryz.prog (w.alloc (.cells #[.int .u8 x] 5)) = .ok (.string s) (w.alloc (.cells #[.int .u8 x] 5)) ∧
    s.data.toList = [UInt8.ofNat x.toNat] := by
  refine ⟨ByteArray.empty.push (UInt8.ofNat x.toNat), ?_, rfl⟩
  rw [run_convert_bytes_string _ 62 9 5 _ _ _ Tryz.underlying62 Tryz.underlying5 Tryz.underlying9]
  have hload : (loadCells ⟨w.heap.size, 0, none⟩ 1).run Tryz.prog (w.alloc (.cells #[.int .u8 x] 5)) = .ok (([x].map (Value.int .u8)).toArray) (w.alloc (.cells #[.int .u8 x] 5)) := by
    go_simp
  rw [run_bytesToString _ _ 1 1 [x] hload]
  rfl

set_option maxRecDepth 100000 in
set_option maxHeartbeats 1000000 in
theorem rdigits_any (N : Nat) : ∀ (m : Nat), m ≤ N → m ≤ 9223372036854775808 → ∀ w : World,
    Calls Tryz.prog 85 #[.int .i64 (-(m : Int))] w (StrIs (Lib.decDigits m) w) := by
  induction N with
  | zero =>
    intro m hm _ w
    obtain rfl : m = 0 := by omega
    obtain ⟨s, hconv, hs⟩ := conv_one 48 w
    have HS := Lib.hid hs; clear hs
    go_enter Tryz.func85, Tryz.ntmps85
    go_wp2
    go_ret
    exact ⟨_, rfl, by rw [HS.out, dec_small (by omega)]; rfl, (Below.refl _ _).alloc (Nat.le_refl _) _⟩
  | succ N ih =>
    intro m hm hmm w
    have IH := Lib.hid ih; clear ih
    obtain ⟨s, hconv, hs⟩ := conv_one (48 + (m : Int) % 10) w
    have hz := size_of hs
    simp only [List.length_cons, List.length_nil] at hz
    have hz1 : s.size ≤ 1 := by omega
    have HS := Lib.hid hs; clear hs hz
    by_cases h10 : m < 10
    · go_enter Tryz.func85, Tryz.ntmps85
      go_wp2
      go_ret
      exact ⟨_, rfl, by rw [HS.out, dec_small h10]; congr 2; omega, (Below.refl _ _).alloc (Nat.le_refl _) _⟩
    · have hb1 : Below w.heap.size w (w.alloc (.cells #[.int .u8 (48 + (m : Int) % 10)] 5)) := (Below.refl _ _).alloc (Nat.le_refl _) _
      go_enter Tryz.func85, Tryz.ntmps85
      have hdiv : ((m / 10 : Nat) : Int) = (m : Int) / 10 := by omega
      have IH2 : Hid (∀ w : World, Calls Tryz.prog 85 #[.int .i64 (-((m : Int) / 10))] w (StrIs (Lib.decDigits (m / 10)) w)) := fun w => by
        have := IH.out (m / 10) (by omega) (by omega) w
        rw [hdiv] at this
        exact this
      clear hdiv
      go_wp2_with fail
      refine (IH2.out _).mono ?_
      rintro e w2 ⟨s2, rfl, hs2, hb2⟩
      have hz2 := size_of hs2
      have hz3 := dec_len (m / 10) (by omega)
      have hz4 : s2.size ≤ 19 := by omega
      clear hz2 hz3
      have H2 := Lib.hid hs2; clear hs2
      have hb3 := hb1.trans (hb2.mono (by simp))
      go_wp2
      go_ret
      refine ⟨_, rfl, ?_, hb3⟩
      rw [dec_big h10, ← H2.out]
      have e1 : UInt8.ofNat (48 + m % 10) = UInt8.ofNat (48 + (m : Int) % 10).toNat := by congr 1
      rw [e1, ← HS.out]
      simp

set_option maxHeartbeats 400000 in
theorem rInt_any (n : Int) (h : In64 n) (w : World) :
    Calls Tryz.prog 86 #[.int .i64 n] w (StrIs (eInt n) w) := by
  by_cases hn : n < 0
  · obtain ⟨m, rfl⟩ : ∃ m : Nat, n = -(m : Int) := ⟨n.natAbs, by omega⟩
    have hm : m ≤ 9223372036854775808 := by unfold In64 at h; omega
    clear h
    have e1 : eInt (-(m : Int)) = 45 :: Lib.decDigits m ++ [59] := by
      unfold eInt Lib.itoa
      rw [if_pos hn]
      simp
    have E1 := Lib.hid e1; clear e1
    go_enter Tryz.func86, Tryz.ntmps86
    go_wp2_with fail
    refine (rdigits_any m m (Nat.le_refl _) hm _).mono ?_
    rintro e w2 ⟨s2, rfl, hs2, hb2⟩
    have hz2 := size_of hs2
    have hz3 := dec_len m hm
    have hz4 : s2.size ≤ 19 := by omega
    clear hz2 hz3
    have H2 := Lib.hid hs2; clear hs2
    go_wp2
    go_ret
    exact ⟨_, rfl, by rw [E1.out, ← H2.out]; simp, hb2⟩
  · obtain ⟨m, rfl⟩ : ∃ m : Nat, n = (m : Int) := ⟨n.natAbs, by omega⟩
    have hm : m ≤ 9223372036854775807 := by unfold In64 at h; omega
    clear h
    have e1 : eInt (m : Int) = Lib.decDigits m ++ [59] := by
      unfold eInt Lib.itoa
      rw [if_neg hn]
      simp
    have E1 := Lib.hid e1; clear e1
    go_enter Tryz.func86, Tryz.ntmps86
    go_wp2_with fail
    refine (rdigits_any m m (Nat.le_refl _) (by omega) _).mono ?_
    rintro e w2 ⟨s2, rfl, hs2, hb2⟩
    have hz2 := size_of hs2
    have hz3 := dec_len m (by omega)
    have hz4 : s2.size ≤ 19 := by omega
    clear hz2 hz3
    have H2 := Lib.hid hs2; clear hs2
    go_wp2
    go_ret
    exact ⟨_, rfl, by rw [E1.out, ← H2.out]; simp, hb2⟩

set_option maxHeartbeats 400000 in
theorem rNum_any (n : Int) (h : In64 n) (w : World) :
    Calls Tryz.prog 67 #[.int .i64 n] w (StrIs (eNum n) w) := by
  by_cases hn : n < 0
  · have he : eNum n = [] := by simp [eNum, hn]
    have hE := Lib.hid he; clear he h
    go_enter Tryz.func67, Tryz.ntmps67
    go_wp2
    go_ret
    exact ⟨_, rfl, by rw [hE.out], Below.refl _ _⟩
  · have he : eNum n = eInt n := by simp [eNum, hn]
    have hE := Lib.hid he; clear he
    have hi := Lib.hid h; clear h
    go_enter Tryz.func67, Tryz.ntmps67
    go_wp2_with (go_at_call 86; refine (rInt_any n hi.out _).mono ?_; rintro e w' ⟨s, rfl, hs, hb⟩; have hS := Lib.hid hs; clear hs)
    go_ret
    exact ⟨_, rfl, by rw [hS.out, hE.out], hb⟩

set_option maxHeartbeats 400000 in
theorem rText_any (t : ByteArray) (ht0 : t.size ≤ 1099511627776) (w : World) :
    Calls Tryz.prog 66 #[.string t] w (StrIs (eText t.data.toList) w) := by
  go_enter Tryz.func66, Tryz.ntmps66
  go_wp2_with fail
  refine (rdigits_any t.size t.size (Nat.le_refl _) (by omega) _).mono ?_
  rintro e w2 ⟨s2, rfl, hs2, hb2⟩
  have hz2 := size_of hs2
  have hz3 := dec_len t.size (by omega)
  have hz4 : s2.size ≤ 19 := by omega
  clear hz2 hz3
  have H2 := Lib.hid hs2; clear hs2
  go_wp2
  go_ret
  refine ⟨_, rfl, ?_, hb2⟩
  rw [eText, size_list, ← H2.out]
  simp


end Go.Proofs.YtbpkcgkcamkggaaGreatDoor.W
