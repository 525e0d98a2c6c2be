/-
  Contracts of the laws' own helpers (4): the reference's comparisons of lists, and equal.
-/
import Derived.Test.YtdpedeknccnbhaaDoorM
import Derived.Deep.RegionHeld3
import Derived.BigQuiet
set_option linter.unusedVariables false
namespace Go.Proofs.YtdpedeknccnbhaaDoor
open Go.RowKit Go.Sort

theorem ne_false_of {p : Prop} [Decidable p] (h : ¬ p) : decide p = false := decide_eq_false h

set_option maxRecDepth 100000 in
set_option maxHeartbeats 2000000 in
theorem sameInts_any (A1 : Option Addr) (c1 : Nat) (A2 : Option Addr) (c2 : Nat) (l : List Int) (w : World) (h1 : Row w A1 (l.map (Value.int .i64))) (h2 : Row w A2 (l.map (Value.int .i64))) (hl : l.length ≤ 9223372036854775807) :
    Calls Tryd.prog 30 #[.slice A1 l.length c1, .slice A2 l.length c2] w fun e w' => e = .returned (.bool true) ∧ ∃ n, w' = w.drewN n := by
  have H1 := Lib.hid h1; clear h1
  have H2 := Lib.hid h2; clear h2
  have hee : ((l.length : Int) != (l.length : Int)) = false := by simp
  go_enter Tryd.func30, Tryd.ntmps30
  go_wp2
  go_loopw [5] (fun i wr => ∃ (k m : Nat), k ≤ l.length ∧ i = .int .i64 k ∧ wr = w.drewN m) (fun i _ => l.length - (intOf i).toNat)
  case atStart => exact ⟨0, 0, Nat.zero_le _, rfl, rfl⟩
  case round =>
    obtain ⟨k, m, hk, rfl, rfl⟩ := hrel
    by_cases hlt : k < l.length
    · obtain ⟨b1, o1, rfl, hb1, hc1⟩ := H1.out (by simp; omega)
      obtain ⟨b2, o2, rfl, hb2, hc2⟩ := H2.out (by simp; omega)
      have k1 : w.cell? ⟨b1, o1 + k, none⟩ = some (.int .i64 l[k]) := hc1 k _ (by simp [hlt])
      have k2 : w.cell? ⟨b2, o2 + k, none⟩ = some (.int .i64 l[k]) := hc2 k _ (by simp [hlt])
      clear hc1 hc2
      generalize l[k] = x at *
      have hi0 : (0 : Int) ≤ (k : Int) := by omega
      have hi1 : (k : Int) < (l.length : Int) := by omega
      have hxx : (x != x) = false := by simp
      go_wp2
      go_quiet (fail)
      go_wp2
      go_roundw
      case rel => exact ⟨k + 1, m + nq, by omega, by go_num, rfl⟩
      case measure => simp [intOf]; omega
    · obtain rfl : k = l.length := by omega
      go_wp2
      go_ret
      exact ⟨rfl, m, rfl⟩

set_option maxRecDepth 100000 in
set_option maxHeartbeats 2000000 in
theorem sameStrs_any (A1 : Option Addr) (c1 : Nat) (A2 : Option Addr) (c2 : Nat) (l : List ByteArray) (w : World) (h1 : Row w A1 (l.map Value.string)) (h2 : Row w A2 (l.map Value.string)) (hl : l.length ≤ 9223372036854775807) :
    Calls Tryd.prog 33 #[.slice A1 l.length c1, .slice A2 l.length c2] w fun e w' => e = .returned (.bool true) ∧ ∃ n, w' = w.drewN n := by
  have H1 := Lib.hid h1; clear h1
  have H2 := Lib.hid h2; clear h2
  have hee : ((l.length : Int) != (l.length : Int)) = false := by simp
  go_enter Tryd.func33, Tryd.ntmps33
  go_wp2
  go_loopw [5] (fun i wr => ∃ (k m : Nat), k ≤ l.length ∧ i = .int .i64 k ∧ wr = w.drewN m) (fun i _ => l.length - (intOf i).toNat)
  case atStart => exact ⟨0, 0, Nat.zero_le _, rfl, rfl⟩
  case round =>
    obtain ⟨k, m, hk, rfl, rfl⟩ := hrel
    by_cases hlt : k < l.length
    · obtain ⟨b1, o1, rfl, hb1, hc1⟩ := H1.out (by simp; omega)
      obtain ⟨b2, o2, rfl, hb2, hc2⟩ := H2.out (by simp; omega)
      have k1 : w.cell? ⟨b1, o1 + k, none⟩ = some (.string l[k]) := hc1 k _ (by simp [hlt])
      have k2 : w.cell? ⟨b2, o2 + k, none⟩ = some (.string l[k]) := hc2 k _ (by simp [hlt])
      clear hc1 hc2
      generalize l[k] = x at *
      have hi0 : (0 : Int) ≤ (k : Int) := by omega
      have hi1 : (k : Int) < (l.length : Int) := by omega
      go_wp2
      go_quiet (fail)
      go_wp2
      go_roundw
      case rel => exact ⟨k + 1, m + nq, by omega, by go_num, rfl⟩
      case measure => simp [intOf]; omega
    · obtain rfl : k = l.length := by omega
      go_wp2
      go_ret
      exact ⟨rfl, m, rfl⟩

/-- the cells of the box, at a later world, where nothing but block r (and what is new) has turned since w0. -/
def KeptR (r B : Nat) (v : Val) (AL : Option Addr) (cL : Nat) (AT : Option Addr) (cT : Nat) (w0 w : World) : Prop :=
  w.cell? ⟨B, 1, none⟩ = some (.int .i64 v.N) ∧ w.cell? ⟨B, 2, none⟩ = some (.string v.S) ∧ w.cell? ⟨B, 3, none⟩ = some (.slice AL v.L.length cL) ∧ w.cell? ⟨B, 4, none⟩ = some (.slice AT v.T.length cT) ∧ B < w.heap.size ∧ Hid (w0.grownBy w (some r))
section
variable {r B : Nat} {v : Val} {AL : Option Addr} {cL : Nat} {AT : Option Addr} {cT : Nat} {w0 w w' : World}
theorem KeptR.go (h : KeptR r B v AL cL AT cT w0 w) (hr : r ≠ B) (hb : w.grownBy w' (some r)) : KeptR r B v AL cL AT cT w0 w' := by
  obtain ⟨h1, h2, h3, h4, h5, h6⟩ := h
  have hc : ∀ j, w'.cell? ⟨B, j, none⟩ = w.cell? ⟨B, j, none⟩ := fun j => World.cell?_of_block (a := ⟨B, j, none⟩) (hb.block B h5 (fun e => hr (by injection e with e; exact e.symm)))
  exact ⟨(hc 1).trans h1, (hc 2).trans h2, (hc 3).trans h3, (hc 4).trans h4, Nat.lt_of_lt_of_le h5 hb.size, Lib.hid (grown_trans h6.out hb)⟩
theorem KeptR.drewN (h : KeptR r B v AL cL AT cT w0 w) (n : Nat) : KeptR r B v AL cL AT cT w0 (w.drewN n) :=
  ⟨h.1, h.2.1, h.2.2.1, h.2.2.2.1, h.2.2.2.2.1, Lib.hid (grown_drewN h.2.2.2.2.2.out n)⟩
theorem kr_end (h : KeptR r B v AL cL AT cT w0 w) : w0.grownBy w (some r) := h.2.2.2.2.2.out
theorem grown_of_below (hb : Below w.heap.size w w') (row : Option Nat) : w.grownBy w' row := ⟨hb.os, hb.tape, hb.output, hb.size, fun k hk _ => hb.block k hk⟩
theorem KeptR.of (h : Kept B v AL cL AT cT w0 w) (r : Nat) : KeptR r B v AL cL AT cT w0 w := ⟨h.1, h.2.1, h.2.2.1, h.2.2.2.1, h.2.2.2.2.1, Lib.hid (grown_of_below h.2.2.2.2.2.out _)⟩
theorem RdrAt.of_heap {T : TypeId} {s : ByteArray} {f : Bool} (h : RdrAt T r s f w) (e : w'.heap = w.heap) : RdrAt T r s f w' := by unfold RdrAt; rw [e]; exact h
end

theorem rdNum_enc {v : Val} (h : kindOf v.K = 0) (hok : VOk v) {l rest : List UInt8} (hl : l = enc v ++ rest) : rdNum l = some (numberOf v.N, rest) := by
  have hn := number_in hok.2.1
  rw [hl, enc0 h]
  exact (rdNum_iff _ _ _).2 ⟨rfl, hn⟩
theorem rdInt_enc {v : Val} (h : kindOf v.K = 1) (hok : VOk v) {l rest : List UInt8} (hl : l = enc v ++ rest) : rdInt l = some (v.N, rest) := by
  rw [hl, enc1 h]
  exact (rdInt_iff _ _ _).2 ⟨rfl, hok.2.1⟩
theorem rdText_enc {v : Val} (h : kindOf v.K = 2) {l rest : List UInt8} (hl : l = enc v ++ rest) (hlen : l.length ≤ maxI) : rdText l = some (v.S.data.toList, rest) := by
  rw [rdText_iff l hlen, hl, enc2 h]
theorem rdNums_enc {v : Val} (h : kindOf v.K = 3) (hok : VOk v) {l rest : List UInt8} (hl : l = enc v ++ rest) (hlen : l.length ≤ maxI) : rdList rdInt l = some (v.L, rest) := by
  rw [rdList_iff reads_int l hlen, hl, enc3 h]
  exact ⟨rfl, hok.2.2.2.1, hok.2.2.2.2.2.1⟩
theorem eStr_list (T : List ByteArray) : eList eStr T = eList eText (T.map fun x => x.data.toList) := by
  unfold eList
  rw [List.length_map, List.flatMap_map]
  rfl
theorem rdTexts_enc {v : Val} (h : kindOf v.K = 4) (hok : VOk v) {l rest : List UInt8} (hl : l = enc v ++ rest) (hlen : l.length ≤ maxI) : rdList rdText l = some (v.T.map (fun x => x.data.toList), rest) := by
  rw [rdList_iff reads_text l hlen, hl, enc4 h, eStr_list]
  exact ⟨rfl, by rw [List.length_map]; exact hok.2.2.2.2.1, fun _ _ => trivial⟩
theorem vStr_map (T : List ByteArray) : (T.map (fun x => x.data.toList)).map vStr = T.map Value.string := by
  rw [List.map_map]
  rfl

end Go.Proofs.YtdpedeknccnbhaaDoor
