/-
  Contracts of wire.Reader's methods (3): Num, Int and Text.
-/
import Derived.Test.YtncadnmoiiiahaaDoorWd
set_option linter.unusedVariables false
namespace Go.Proofs.YtncadnmoiiiahaaDoor.W
open Go.RowKit Go.Sort

/-- what a reading method comes to: the value and the rest, or, where nothing can be read, the zero value, and the reader has failed. -/
def MPost {α : Type} (T : TypeId) (r : Nat) (f : Bool) (val : α → Value) (zero : Value) (x : Option (α × List UInt8)) (w : World) (e : Ending) (w' : World) : Prop :=
  match x with
  | some (v, l) => After T r (val v) l f w e w'
  | none => After T r zero [] true w e w'

theorem toNat59 : (((59 : UInt8).toNat : Nat) : Int) = 59 := rfl
theorem digits_at (r : Nat) (s : ByteArray) (f : Bool) (e : UInt8) (c : Int) (hc : c = (e.toNat : Int)) (he : isD e = false) (most : Nat) (m : Int) (hm0 : m = (most : Int)) (hm : most ≤ 9223372036854775808) (hm9 : 9 ≤ most) (w : World)
    (hr : RdrAt 75 r s f w) (hsz : s.size ≤ 1099511627776) :
    Calls Tryd.prog 39 #[.pointer (some ⟨r, 0, none⟩), .int .u8 c, .int .u64 m] w (DigPost r f (rdM most e s.data.toList) w) := by
  subst hc; subst hm0
  exact digits_any r s f e he most hm hm9 w hr hsz

theorem maxI_le {n : Nat} (h : n ≤ maxI) : (n : Int) ≤ 9223372036854775807 := by unfold maxI at h; omega
theorem rdM_le {most : Nat} {e : UInt8} {l : List UInt8} {n : Nat} {t : List UInt8} (h : rdM most e l = some (n, t)) : n ≤ most := by
  unfold rdM at h
  split at h
  · split at h
    · simp only [Option.some.injEq, Prod.mk.injEq] at h
      obtain ⟨rfl, _⟩ := h
      assumption
    · cases h
  · cases h

set_option maxHeartbeats 1000000 in
theorem numR_any (r : Nat) (s : ByteArray) (f : Bool) (w : World) (hr : RdrAt 75 r s f w) (hsz : s.size ≤ 1099511627776) :
    Calls Tryd.prog 28 #[.pointer (some ⟨r, 0, none⟩)] w (MPost 75 r f (Value.int .i64) (.int .i64 0) (rdNum s.data.toList) w) := by
  have hd := digits_at r s f 59 59 rfl (by decide) maxI 9223372036854775807 rfl (by unfold maxI; omega) (by unfold maxI; omega) w hr hsz
  cases hx : rdM maxI 59 s.data.toList with
  | none =>
    rw [hx] at hd
    have hn : rdNum s.data.toList = none := by unfold rdNum; rw [hx]
    have HN := Lib.hid hn
    have HD := Lib.hid hd
    clear hn hx hd hr
    go_enter Tryd.func28, Tryd.ntmps28
    go_wp2_with fail
    refine HD.out.mono ?_
    rintro e w2 ⟨rfl, hA, hg⟩
    have HA := Lib.hid hA; clear hA
    go_wp2
    go_ret
    rw [HN.out]
    exact ⟨rfl, HA.out, hg⟩
  | some x =>
    obtain ⟨n, t⟩ := x
    rw [hx] at hd
    have hn : rdNum s.data.toList = some ((n : Int), t) := by unfold rdNum; rw [hx]
    have hle := maxI_le (rdM_le hx)
    have HN := Lib.hid hn
    have HD := Lib.hid hd
    clear hn hx hd hr
    go_enter Tryd.func28, Tryd.ntmps28
    go_wp2_with fail
    refine HD.out.mono ?_
    rintro e w2 ⟨rfl, hA, hg⟩
    have HA := Lib.hid hA; clear hA
    go_wp2
    go_ret
    rw [HN.out]
    exact ⟨rfl, HA.out, hg⟩

theorem ret_i64 {a b : Int} (h : a = b) : Ending.returned (.int .i64 a) = .returned (.int .i64 b) := by rw [h]

theorem extract_size (s : ByteArray) (a : Nat) (h : a ≤ s.size) : (s.extract a s.size).size = s.size - a := by
  have := size_of (ext_drop s a)
  rw [this, List.length_drop, size_list]

end Go.Proofs.YtncadnmoiiiahaaDoor.W
