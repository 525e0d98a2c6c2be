/-
  Contracts of the laws' own helpers (2): few.
-/
import Derived.Test.YtdpedeknccnbhaaDoorH
import Derived.BigQuiet
import Derived.Deep.QuietTactic
set_option linter.unusedVariables false
namespace Go.Proofs.YtdpedeknccnbhaaDoor
open Go.RowKit Go.Sort

/-- a law's Value. -/
structure Val where
  K : Int
  N : Int
  S : ByteArray
  L : List Int
  T : List ByteArray

/-- the Value v lies at these cells. -/
def VAt (w : World) (b o : Nat) (v : Val) : Prop :=
  w.cell? ⟨b, o, none⟩ = some (.int .i64 v.K) ∧ w.cell? ⟨b, o + 1, none⟩ = some (.int .i64 v.N) ∧ w.cell? ⟨b, o + 2, none⟩ = some (.string v.S) ∧
  (∃ A c, w.cell? ⟨b, o + 3, none⟩ = some (.slice A v.L.length c) ∧ Row w A (v.L.map (Value.int .i64))) ∧
  (∃ A c, w.cell? ⟨b, o + 4, none⟩ = some (.slice A v.T.length c) ∧ Row w A (v.T.map Value.string))
/-- what can be read is within the machine's bounds. -/
def VOk (v : Val) : Prop := In64 v.K ∧ In64 v.N ∧ v.S.size ≤ 9223372036854775807 ∧ v.L.length ≤ 9223372036854775807 ∧ v.T.length ≤ 9223372036854775807 ∧ (∀ n ∈ v.L, In64 n) ∧ ∀ s ∈ v.T, s.size ≤ 9223372036854775807
def Vals (w : World) (A : Option Addr) (l : List Val) : Prop :=
  0 < l.length → ∃ b off, A = some ⟨b, off, none⟩ ∧ b < w.heap.size ∧ ∀ j (h : j < l.length), VAt w b (off + j * 5) l[j]

def tsz (l : List ByteArray) : Nat := (l.map (·.size)).sum
def vsz (v : Val) : Nat := v.S.size + v.L.length + v.T.length + tsz v.T
def Few (l : List Val) : Prop := l.length ≤ 20 ∧ (l.map vsz).sum ≤ 400

/-- few answers something, and where it says yes the bounds hold. -/
def FewPost (l : List Val) (w : World) (e : Ending) (w' : World) : Prop := ∃ b : Bool, e = .returned (.bool b) ∧ (b = true → Few l) ∧ ∃ n, w' = w.drewN n

theorem no_few {l : List Val} {w : World} (n : Nat) : FewPost l w (.returned (.bool false)) (w.drewN n) := ⟨false, rfl, (fun h => nomatch h), n, rfl⟩
theorem vsum_snoc (l : List Val) (k : Nat) (h : k < l.length) : ((l.take (k + 1)).map vsz).sum = ((l.take k).map vsz).sum + vsz l[k] := by
  rw [List.take_succ_eq_append_getElem h, List.map_append, List.sum_append]; simp
theorem tsz_snoc (l : List ByteArray) (k : Nat) (h : k < l.length) : tsz (l.take (k + 1)) = tsz (l.take k) + l[k].size := by
  unfold tsz
  rw [List.take_succ_eq_append_getElem h, List.map_append, List.sum_append]; simp

set_option maxRecDepth 100000 in
set_option maxHeartbeats 4000000 in
theorem few_any (A : Option Addr) (cap : Nat) (l : List Val) (w : World) (hl : l.length ≤ 9223372036854775807) (hok : ∀ v ∈ l, VOk v) (hA : Vals w A l) :
    Calls Tryd.prog 10 #[.slice A l.length cap] w (FewPost l w) := by
  have HO := Lib.hid hok; clear hok
  have HA := Lib.hid hA; clear hA
  by_cases h20 : 20 < l.length
  · have h20' : (20 : Int) < (l.length : Int) := by omega
    go_enter Tryd.func10, Tryd.ntmps10
    go_wp2
    go_ret
    exact no_few 0
  · have h20' : (l.length : Int) ≤ 20 := by omega
    go_enter Tryd.func10, Tryd.ntmps10
    go_wp2
    go_loopw [3, 4, 5] (fun n i _ wr => ∃ (k m S : Nat), k ≤ l.length ∧ i = .int .i64 k ∧ n = .int .i64 S ∧ Hid (((l.take k).map vsz).sum = S) ∧ S ≤ 161200 * k ∧ wr = w.drewN m) (fun _ i _ _ => l.length - (intOf i).toNat)
    case atStart => exact ⟨0, 0, 0, Nat.zero_le _, rfl, rfl, Lib.hid (by simp), by simp, rfl⟩
    case round =>
      obtain ⟨k, m, S, hk, rfl, rfl, hS, hs, rfl⟩ := hrel
      by_cases hlt : k < l.length
      · obtain ⟨b, off, rfl, hb, hv⟩ := HA.out (by omega)
        obtain ⟨v0, v1, v2, ⟨AL, cL, v3, hL⟩, ⟨AT, cT, v4, hT⟩⟩ := hv k hlt
        have hsn := vsum_snoc l k hlt
        rw [hS.out] at hsn
        generalize l[k] = v at *
        have HSN := Lib.hid hsn; clear hsn
        have HT := Lib.hid hT
        clear hv hT hL v0 v1
        by_cases h1 : v.L.length ≤ 400
        · have h1' : (v.L.length : Int) ≤ 400 := by omega
          by_cases h2 : v.T.length ≤ 400
          · have h2' : (v.T.length : Int) ≤ 400 := by omega
            by_cases h3 : v.S.size ≤ 400
            · have h3' : (v.S.size : Int) ≤ 400 := by omega
              have hi0 : (0 : Int) ≤ (k : Int) := by omega
              have hi1 : (k : Int) < (l.length : Int) := by omega
              go_wp2
              go_quiet (fail)
              go_wp2
              have hS0 : (S : Int) ≤ 8000000 := by omega
              go_loopw [3, 5] (fun n j wr => ∃ (q m2 S2 : Nat), q ≤ v.T.length ∧ j = .int .i64 q ∧ n = .int .i64 S2 ∧ Hid (S + v.S.size + v.L.length + v.T.length + tsz (v.T.take q) = S2) ∧ S2 ≤ S + 1200 + 400 * q ∧ wr = w.drewN m2) (fun _ j _ => v.T.length - (intOf j).toNat)
              case atStart => exact ⟨0, m + nq, S + v.S.size + v.L.length + v.T.length, Nat.zero_le _, rfl, by go_num, Lib.hid (by simp [tsz]), by omega, World.drewN_drewN _ _ _⟩
              case round =>
                obtain ⟨q, m2, S2, hq, rfl, rfl, hS2, hs2, rfl⟩ := hrel
                by_cases hqt : q < v.T.length
                · obtain ⟨bt, ot, rfl, hbt, hct⟩ := HT.out (by simp; omega)
                  have hcell : w.cell? ⟨bt, ot + q, none⟩ = some (.string v.T[q]) := hct q _ (by simp [hqt])
                  have hsn := tsz_snoc v.T q hqt
                  generalize v.T[q] = x at *
                  have HSQ := Lib.hid hsn; clear hsn hct
                  by_cases hx : x.size ≤ 400
                  · have hx' : (x.size : Int) ≤ 400 := by omega
                    go_wp2
                    go_roundw
                    case rel => exact ⟨q + 1, m2, S2 + x.size, by omega, by go_num, by go_num, Lib.hid (by rw [HSQ.out, ← hS2.out]; omega), by omega, rfl⟩
                    case measure => simp [intOf]; omega
                  · have hx' : (400 : Int) < (x.size : Int) := by omega
                    go_wp2
                    go_ret
                    exact no_few m2
                · obtain rfl : q = v.T.length := by omega
                  have hS3 : Hid (((l.take (k + 1)).map vsz).sum = S2) := Lib.hid (by
                    have := hS2.out
                    rw [List.take_length] at this
                    rw [HSN.out, ← this]; unfold vsz; omega)
                  go_wp2
                  go_roundw
                  case rel => exact ⟨k + 1, m2, S2, by omega, by go_num, rfl, hS3, by omega, rfl⟩
                  case measure => simp [intOf]; omega
            · have h3' : (400 : Int) < (v.S.size : Int) := by omega
              go_wp2
              go_ret
              exact no_few m
          · have h2' : (400 : Int) < (v.T.length : Int) := by omega
            go_wp2
            go_ret
            exact no_few m
        · have h1' : (400 : Int) < (v.L.length : Int) := by omega
          go_wp2
          go_ret
          exact no_few m
      · obtain rfl : k = l.length := by omega
        have hfull : Hid ((l.map vsz).sum = S) := Lib.hid (by have := hS.out; rwa [List.take_length] at this)
        go_wp2
        go_ret
        exact ⟨decide ((S : Int) ≤ 400), rfl, fun h => ⟨by omega, by rw [hfull.out]; have := of_decide_eq_true h; omega⟩, m, rfl⟩

end Go.Proofs.YtdpedeknccnbhaaDoor
