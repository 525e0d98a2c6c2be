/-
  same: two disks have the same bytes in the files that acts name.
-/
import Derived.Test.YtcjadlokjbeibaaNd
import Derived.Test.YtcjadlokjbeibaaNc
import Derived.Laws.IdiomStrings
import Derived.Deep.QuietTactic
import Derived.BigQuiet
set_option linter.unusedVariables false
namespace Go.Proofs.Ytcjadlokjbeibaa
open Go.RowKit

theorem DAt.of_heap {r : Nat} {L : Lay} {d : Dk} {n : Nat} {w w' : World} (h : DAt r L d n w) (hh : w'.heap = w.heap) : DAt r L d n w' := h.kept fun b _ _ _ _ _ => by rw [hh]
/-- a quiet call behind a quiet region. -/
theorem quiet_more {P : Program} {f : FuncId} {args : Array Value} {w : World} {a n : Nat} {v : Value}
    (h : Calls P f args (w.drewN (a + n)) fun e w' => e = .returned v ∧ w' = w.drewN (a + n)) :
    Calls P f args (w.drewN (a + n)) fun e w'' => e = .returned v ∧ ∃ m, w'' = w.drewN (a + m) :=
  h.mono fun _ _ ⟨he, hm⟩ => ⟨he, n, hm⟩

set_option maxRecDepth 100000 in
set_option maxHeartbeats 4000000 in
theorem same_any {W : World} {r : Nat} {L : Lay} {d : Dk} {n : Nat} {r2 : Nat} {L2 : Lay} {c : Dk} {n2 : Nat} {w : World} (h : Pair W r L d n r2 L2 c n2 w) (hn : n ≤ 137438953472) (hn2 : n2 ≤ 137438953472) (hd : d.down = c.down) (hnow : d.now = c.now)
    (A : Option Addr) (cap : Nat) (l : List DAct) (hl : l.length ≤ 9223372036854775807) (hok : ∀ v ∈ l, ActOk v) (hA : Acts W A l) :
    Calls Try.prog 28 #[.pointer (some ⟨r, 0, none⟩), .pointer (some ⟨r2, 0, none⟩), .slice A l.length cap] w fun e w' => e = .returned (.bool true) ∧ Pair W r L d n r2 L2 c n2 w' := by
  have HO := Lib.hid hok; clear hok
  have HA := Lib.hid hA; clear hA
  have H := Lib.hid h; clear h
  have hrd : ∀ f a k, d.read f a k = c.read f a k := fun f a k => by unfold Dk.read; rw [hd, hnow]
  have HRD := Lib.hid hrd
  have HNOW := Lib.hid hnow
  have HD := Lib.hid hd
  clear hrd hnow hd
  go_enter Try.func28, Try.ntmps28
  go_wp2_with fail
  refine (mDown H.out.one.at_).mono ?_
  rintro e w1 ⟨he, rfl⟩
  rw [HD.out] at he
  subst he
  go_wp2_with fail
  refine (mDown H.out.two.at_).mono ?_
  rintro e w2 ⟨he, rfl⟩
  subst he
  go_wp2
  go_loopw [7, 8, 9, 10, 11] (fun i _ _ _ _ wr => ∃ (k : Nat), k ≤ l.length ∧ i = .int .i64 k ∧ Hid (Pair W r L d n r2 L2 c n2 wr)) (fun i _ _ _ _ _ => l.length - (intOf i).toNat)
  case atStart => exact ⟨0, Nat.zero_le _, rfl, H⟩
  case round =>
    clear H
    obtain ⟨k, hk, rfl, H⟩ := hrel
    by_cases hlt : k < l.length
    · obtain ⟨b, off, rfl, hb, hv⟩ := HA.out (by omega)
      obtain ⟨AV, cv, _, hcc⟩ := hv k hlt
      have v1 := (H.out.one.bel.cell (p := ⟨b, off + k * 5 + 1, none⟩) hb).trans (hcc 1 _ rfl)
      have hok := HO.out l[k] (List.getElem_mem hlt)
      have HF := Lib.hid hok.f
      have hcc1 := hcc 1 _ rfl
      clear hcc hv hok
      generalize l[k] = v at *
      obtain ⟨_, F, _, _, _⟩ := v
      simp only at hcc1 HF v1
      have HV := Lib.hid hcc1
      have HBB := Lib.hid hb
      clear hcc1 hb
      have hi0 : (0 : Int) ≤ (k : Int) := by omega
      have hi1 : (k : Int) < (l.length : Int) := by omega
      go_wp2_with fail
      refine (mRead H.out.one.at_ hn HF.out (by unfold In64; omega) (by unfold In64; omega)).mono ?_
      rintro e w5 ⟨x, he, hs5, h5⟩
      rw [HRD.out] at he hs5
      subst he
      have H5 := Lib.hid (H.out.below h5)
      have HS5 := Lib.hid hs5
      clear h5 hs5 H v1
      have v1 := (H5.out.one.bel.cell (p := ⟨b, off + k * 5 + 1, none⟩) HBB.out).trans HV.out
      go_wp2_with fail
      refine (mRead H5.out.two.at_ hn2 HF.out (by unfold In64; omega) (by unfold In64; omega)).mono ?_
      rintro e w6 ⟨y, he, hs6, h6⟩
      subst he
      obtain rfl : y = x := ByteArray.ext (Array.toList_inj.1 (hs6.trans HS5.out.symm))
      have H6 := Lib.hid (H5.out.below h6)
      clear h6 hs6 HS5 H5 v1
      have v1 := (H6.out.one.bel.cell (p := ⟨b, off + k * 5 + 1, none⟩) HBB.out).trans HV.out
      generalize (c.read F 0 16777216).2 = cc at *
      have HZ1 : Hid (∀ m, Calls Try.prog 16 #[.pointer (some ⟨r, 0, none⟩), .int .i64 F] (w6.drewN m) fun e w'' => e = .returned (.int .i64 ((c.now F).length : Int)) ∧ w'' = w6.drewN m) := Lib.hid (fun m => by
        have := mSize (H6.out.one.at_.below (below_drew w6 m)) HF.out
        rw [HNOW.out] at this
        exact this)
      have HZ2 : Hid (∀ m, Calls Try.prog 16 #[.pointer (some ⟨r2, 0, none⟩), .int .i64 F] (w6.drewN m) fun e w'' => e = .returned (.int .i64 ((c.now F).length : Int)) ∧ w'' = w6.drewN m) := Lib.hid (fun m => mSize (H6.out.two.at_.below (below_drew w6 m)) HF.out)
      have HZ : Hid (∀ rr, rr = r ∨ rr = r2 → ∀ m, Calls Try.prog 16 #[.pointer (some ⟨rr, 0, none⟩), .int .i64 F] (w6.drewN m) fun e w'' => e = .returned (.int .i64 ((c.now F).length : Int)) ∧ w'' = w6.drewN m) := Lib.hid (fun rr h m => by
        rcases h with rfl | rfl
        · exact HZ1.out m
        · exact HZ2.out m)
      clear HZ1 HZ2
      generalize (c.now F).length = sz at *
      go_wp2
      go_quiet ((go_at_call 16; exact Calls.quiet_of_same (HZ.out _ (by first | exact Or.inl rfl | exact Or.inr rfl) _)))
      go_wp2
      go_roundw
      case rel => exact ⟨k + 1, by omega, by go_num, Lib.hid (H6.out.below (below_drew w6 _))⟩
      case measure => simp [intOf]; omega
    · obtain rfl : k = l.length := by omega
      go_wp2
      go_ret
      exact ⟨rfl, H.out⟩

end Go.Proofs.Ytcjadlokjbeibaa
