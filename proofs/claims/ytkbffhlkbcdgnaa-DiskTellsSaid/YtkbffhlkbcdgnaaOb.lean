/-
  tell: its contract.
-/
import Derived.Test.YtkbffhlkbcdgnaaOa
set_option linter.unusedVariables false
set_option maxRecDepth 100000
namespace Go.Proofs.Ytkbffhlkbcdgnaa
open Go.RowKit

/-- a list that came in, for the reference. -/
theorem JRow.krow {w w' : World} {A : Option Addr} {l : List Int} (h : JRow w A l) (hf : RFr w.heap.size w w') : KRow w.heap.size w' A l := fun h0 => by
  obtain ⟨b, off, rfl, hl, hc⟩ := h h0
  refine ⟨b, off, rfl, Nat.lt_of_lt_of_le hl hf.size, .inl hl, fun j hj => ?_⟩
  rw [← hc j hj]
  exact World.cell?_of_block (hf.block b hl (.inl hl))
/-- what tell leaves. -/
def TellPost (r B : Nat) (p : RSt × Int) (w : World) (e : Ending) (w' : World) : Prop := e = .returned (.int .i64 p.2) ∧ RAt r B p.1 w' ∧ RFr B w w'

set_option maxHeartbeats 8000000 in
theorem tell_any (r B : Nat) (s : RSt) (w : World) (h : RAt r B s w) (hb : RB s) (harm : s.armed ≤ 9223372036854775807) (hcl : (s.come 0 0 []).lost ≤ 9223372036854775807) (x : DAct) (hx : ActOk x) (hs : x.s.size ≤ 300) (hk : x.kl.length ≤ 60)
    {A : Option Addr} {cap : Nat} (hr : KRow B w A x.kl) (hA : A = none → x.kl = [] ∧ cap = 0) (hB : B ≤ w.heap.size) :
    Calls Try.prog 9 #[.pointer (some ⟨r, 0, none⟩), .agg #[.int .i64 x.k, .int .i64 x.f, .int .i64 x.n, .string x.s, .slice A x.kl.length cap]] w (TellPost r B (rstep s x) w) := by
  have hb1 : Below w.heap.size w (w.alloc (.cells #[.int .i64 x.k, .int .i64 x.f, .int .i64 x.n, .string x.s, .slice A x.kl.length cap] 33)) := (Below.refl _ _).alloc (Nat.le_refl _) _
  have hf1 : RFr B w (w.alloc (.cells #[.int .i64 x.k, .int .i64 x.f, .int .i64 x.n, .string x.s, .slice A x.kl.length cap] 33)) := ⟨hb1.os, hb1.tape, hb1.output, hb1.size, fun k hk _ => hb1.block k hk⟩
  have H := Lib.hid (h.below hb1)
  have HR := Lib.hid (hr.kept hf1)
  have HFR := Lib.hid hf1
  have HB := Lib.hid hb
  have h7 := and_seven x.k
  have h3 := and_three x.n
  have HX := Lib.hid hx
  have HE : Hid (rstep s x = if x.k % 8 = 2 then s.synced x.f else if x.k % 8 = 3 then s.cut x.f x.n else if x.k % 8 = 4 then ({ s with lost := (x.n % 4).toNat }, 0) else if x.k % 8 = 5 then ({ s with armed := x.n.toNat, keep := x.kl }, 0) else if x.k % 8 = 6 then (s.crashed x.kl, 0) else if x.k % 8 = 7 then ({ s with down := false }, 0) else s.wrote x.f x.n x.s.data.toList) := Lib.hid rfl
  clear h hr hx hb1 hf1 hb
  have hcases : x.k % 8 = 0 ∨ x.k % 8 = 1 ∨ x.k % 8 = 2 ∨ x.k % 8 = 3 ∨ x.k % 8 = 4 ∨ x.k % 8 = 5 ∨ x.k % 8 = 6 ∨ x.k % 8 = 7 := by omega
  rcases hcases with k7 | k7 | k7 | k7 | k7 | k7 | k7 | k7
  all_goals
    rw [k7] at h7
    rw [HE.out, k7]
    clear HE k7
  case inl | inr.inl =>
    go_enter Try.func9, Try.ntmps9
    go_wp2_with fail
    refine (rwrite_any r B s x.f x.n x.s _ H.out HB.out HX.out.n (by omega) harm).mono ?_
    rintro e w2 ⟨rfl, hd, hst⟩
    have HD := Lib.hid (And.intro hd (HFR.out.trans hst))
    clear hd hst
    go_wp2
    go_ret
    exact ⟨rfl, HD.out.1, HD.out.2⟩
  case inr.inr.inl =>
    go_enter Try.func9, Try.ntmps9
    go_wp2_with fail
    refine (rsync_any r B s x.f _ H.out HB.out harm hcl).mono ?_
    rintro e w2 ⟨rfl, hd, hst⟩
    have HD := Lib.hid (And.intro hd (HFR.out.trans hst))
    clear hd hst
    go_wp2
    go_ret
    exact ⟨rfl, HD.out.1, HD.out.2⟩
  case inr.inr.inr.inl =>
    go_enter Try.func9, Try.ntmps9
    go_wp2_with fail
    refine (rcut_any r B s x.f x.n _ H.out HB.out harm HX.out.n).mono ?_
    rintro e w2 ⟨rfl, hd, hst⟩
    have HD := Lib.hid (And.intro hd (HFR.out.trans hst))
    clear hd hst
    go_wp2
    go_ret
    exact ⟨rfl, HD.out.1, HD.out.2⟩
  case inr.inr.inr.inr.inl =>
    go_enter Try.func9, Try.ntmps9
    go_wp2_with fail
    refine (rlose_any r B s (x.n % 4) _ H.out).mono ?_
    rintro e w2 ⟨rfl, hd, hst⟩
    have HD := Lib.hid (And.intro hd (HFR.out.trans hst))
    clear hd hst
    go_wp2
    go_ret
    exact ⟨rfl, HD.out.1, HD.out.2⟩
  case inr.inr.inr.inr.inr.inl =>
    go_enter Try.func9, Try.ntmps9
    go_wp2_with fail
    refine (rarm_any r B s x.n A cap x.kl _ H.out HR.out hA (by omega)).mono ?_
    rintro e w2 ⟨rfl, hd, hst⟩
    have HD := Lib.hid (And.intro hd (HFR.out.trans hst))
    clear hd hst
    go_wp2
    go_ret
    exact ⟨rfl, HD.out.1, HD.out.2⟩
  case inr.inr.inr.inr.inr.inr.inl =>
    go_enter Try.func9, Try.ntmps9
    go_wp2_with fail
    refine (rcrash_any r B s A cap x.kl _ H.out HR.out (by omega) (by have := HB.out.fl; omega) (by have := HB.out.q; omega) HB.out.big (fun y hy => by have := HB.out.qn y hy; omega)).mono ?_
    rintro e w2 ⟨rfl, hd, hst⟩
    have HD := Lib.hid (And.intro hd (HFR.out.trans hst))
    clear hd hst
    go_wp2
    go_ret
    exact ⟨rfl, HD.out.1, HD.out.2⟩
  case inr.inr.inr.inr.inr.inr.inr =>
    go_enter Try.func9, Try.ntmps9
    go_wp2_with fail
    refine (rstart_any r B s _ H.out).mono ?_
    rintro e w2 ⟨rfl, hd, hst⟩
    have HD := Lib.hid (And.intro hd (HFR.out.trans hst))
    clear hd hst
    go_wp2
    go_ret
    exact ⟨rfl, HD.out.1, HD.out.2⟩

end Go.Proofs.Ytkbffhlkbcdgnaa
