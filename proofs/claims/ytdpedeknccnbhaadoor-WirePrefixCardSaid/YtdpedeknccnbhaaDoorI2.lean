/-
  Contracts of the laws' own helpers (2b): few, its answer told.
-/
import Derived.Test.YtdpedeknccnbhaaDoorP
set_option linter.unusedVariables false
namespace Go.Proofs.YtdpedeknccnbhaaDoor
open Go.RowKit Go.Sort

/-- few's answer. -/
def fewB (l : List Val) : Bool := decide (l.length ≤ 20) && decide ((l.map vsz).sum ≤ 400)
theorem fewB_iff (l : List Val) : fewB l = true ↔ Few l := by simp [fewB, Few]
def FewIs (l : List Val) (w : World) (e : Ending) (w' : World) : Prop := e = .returned (.bool (fewB l)) ∧ ∃ n, w' = w.drewN n
theorem few_no {l : List Val} {w : World} (h : ¬ Few l) (n : Nat) : FewIs l w (.returned (.bool false)) (w.drewN n) := by
  have : fewB l = false := by
    cases e : fewB l with
    | false => rfl
    | true => exact absurd ((fewB_iff l).1 e) h
  exact ⟨by rw [this], n, rfl⟩
theorem big_not {l : List Val} {k : Nat} (hk : k < l.length) {v : Val} (hv : l[k] = v) (h : 400 < vsz v) : ¬ Few l := fun hf => by
  have := vsz_mem l v (hv ▸ List.getElem_mem hk)
  have := hf.2
  omega
theorem tsz_get {l : List ByteArray} {q : Nat} (hq : q < l.length) {x : ByteArray} (hx : l[q] = x) (h : 400 < x.size) : 400 < tsz l := by
  have := tsz_mem l x (hx ▸ List.getElem_mem hq)
  omega

set_option maxRecDepth 100000 in
set_option maxHeartbeats 4000000 in
theorem few_b (A : Option Addr) (cap : Nat) (l : List Val) (w : World) (hl : l.length ≤ 9223372036854775807) (hok : ∀ v ∈ l, VOk v) (hA : Vals w A l) :
    Calls Tryd.prog 10 #[.slice A l.length cap] w (FewIs l w) := by
  have HO := Lib.hid hok; clear hok
  have HA := Lib.hid hA; clear hA
  by_cases h20 : 20 < l.length
  · have h20' : (20 : Int) < (l.length : Int) := by omega
    go_enter Tryd.func10, Tryd.ntmps10
    go_wp2
    go_ret
    exact few_no (fun h => by have := h.1; omega) 0
  · have h20' : (l.length : Int) ≤ 20 := by omega
    go_enter Tryd.func10, Tryd.ntmps10
    go_wp2
    go_loopw [3, 4, 5] (fun n i _ wr => ∃ (k m S : Nat), k ≤ l.length ∧ i = .int .i64 k ∧ n = .int .i64 S ∧ Hid (((l.take k).map vsz).sum = S) ∧ S ≤ 161200 * k ∧ wr = w.drewN m) (fun _ i _ _ => l.length - (intOf i).toNat)
    case atStart => exact ⟨0, 0, 0, Nat.zero_le _, rfl, rfl, Lib.hid (by simp), by simp, rfl⟩
    case round =>
      obtain ⟨k, m, S, hk, rfl, rfl, hS, hs, rfl⟩ := hrel
      by_cases hlt : k < l.length
      · obtain ⟨b, off, rfl, hb, hv⟩ := HA.out (by omega)
        obtain ⟨v0, v1, v2, ⟨AL, cL, v3, hL⟩, ⟨AT, cT, v4, hT⟩⟩ := hv k hlt
        have hsn := vsum_snoc l k hlt
        rw [hS.out] at hsn
        have HBN : Hid (∀ v, l[k] = v → 400 < vsz v → ¬ Few l) := Lib.hid (fun v hv h => big_not hlt hv h)
        generalize hlk : l[k] = v at *
        have HBV := Lib.hid (HBN.out v rfl); clear HBN hlk
        have HSN := Lib.hid hsn; clear hsn
        have HT := Lib.hid hT
        clear hv hT hL v0 v1
        by_cases h1 : v.L.length ≤ 400
        · have h1' : (v.L.length : Int) ≤ 400 := by omega
          by_cases h2 : v.T.length ≤ 400
          · have h2' : (v.T.length : Int) ≤ 400 := by omega
            by_cases h3 : v.S.size ≤ 400
            · have h3' : (v.S.size : Int) ≤ 400 := by omega
              have hi0 : (0 : Int) ≤ (k : Int) := by omega
              have hi1 : (k : Int) < (l.length : Int) := by omega
              go_wp2
              go_quiet (fail)
              go_wp2
              have hS0 : (S : Int) ≤ 8000000 := by omega
              go_loopw [3, 5] (fun n j wr => ∃ (q m2 S2 : Nat), q ≤ v.T.length ∧ j = .int .i64 q ∧ n = .int .i64 S2 ∧ Hid (S + v.S.size + v.L.length + v.T.length + tsz (v.T.take q) = S2) ∧ S2 ≤ S + 1200 + 400 * q ∧ wr = w.drewN m2) (fun _ j _ => v.T.length - (intOf j).toNat)
              case atStart => exact ⟨0, m + nq, S + v.S.size + v.L.length + v.T.length, Nat.zero_le _, rfl, by go_num, Lib.hid (by simp [tsz]), by omega, World.drewN_drewN _ _ _⟩
              case round =>
                obtain ⟨q, m2, S2, hq, rfl, rfl, hS2, hs2, rfl⟩ := hrel
                by_cases hqt : q < v.T.length
                · obtain ⟨bt, ot, rfl, hbt, hct⟩ := HT.out (by simp; omega)
                  have hcell : w.cell? ⟨bt, ot + q, none⟩ = some (.string v.T[q]) := hct q _ (by simp [hqt])
                  have hsn := tsz_snoc v.T q hqt
                  have HBX : Hid (∀ x, v.T[q] = x → 400 < x.size → 400 < tsz v.T) := Lib.hid (fun x hx h => tsz_get hqt hx h)
                  generalize hvq : v.T[q] = x at *
                  have HBY := Lib.hid (HBX.out x rfl); clear HBX hvq
                  have HSQ := Lib.hid hsn; clear hsn hct
                  by_cases hx : x.size ≤ 400
                  · have hx' : (x.size : Int) ≤ 400 := by omega
                    go_wp2
                    go_roundw
                    case rel => exact ⟨q + 1, m2, S2 + x.size, by omega, by go_num, by go_num, Lib.hid (by rw [HSQ.out, ← hS2.out]; omega), by omega, rfl⟩
                    case measure => simp [intOf]; omega
                  · have hx' : (400 : Int) < (x.size : Int) := by omega
                    go_wp2
                    go_ret
                    exact few_no (HBV.out (by have := HBY.out (by omega); unfold vsz; omega)) m2
                · obtain rfl : q = v.T.length := by omega
                  have hS3 : Hid (((l.take (k + 1)).map vsz).sum = S2) := Lib.hid (by
                    have := hS2.out
                    rw [List.take_length] at this
                    rw [HSN.out, ← this]; unfold vsz; omega)
                  go_wp2
                  go_roundw
                  case rel => exact ⟨k + 1, m2, S2, by omega, by go_num, rfl, hS3, by omega, rfl⟩
                  case measure => simp [intOf]; omega
            · have h3' : (400 : Int) < (v.S.size : Int) := by omega
              go_wp2
              go_ret
              exact few_no (HBV.out (by unfold vsz; omega)) m
          · have h2' : (400 : Int) < (v.T.length : Int) := by omega
            go_wp2
            go_ret
            exact few_no (HBV.out (by unfold vsz; omega)) m
        · have h1' : (400 : Int) < (v.L.length : Int) := by omega
          go_wp2
          go_ret
          exact few_no (HBV.out (by unfold vsz; omega)) m
      · obtain rfl : k = l.length := by omega
        have hfull : Hid ((l.map vsz).sum = S) := Lib.hid (by have := hS.out; rwa [List.take_length] at this)
        go_wp2
        go_ret
        refine ⟨?_, m, rfl⟩
        have e1 : decide (l.length ≤ 20) = true := decide_eq_true (by omega)
        have e2 : decide ((S : Int) ≤ 400) = decide (S ≤ 400) := by rw [decide_eq_decide]; omega
        show Ending.returned (.bool (decide ((S : Int) ≤ 400))) = _
        rw [fewB, e1, hfull.out, e2, Bool.true_and]

end Go.Proofs.YtdpedeknccnbhaaDoor
