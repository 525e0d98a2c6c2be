/-
  Contracts of the program's Arm, Truncate and Read.
-/
import Derived.Test.YtncadnmoiiiahaaDoorMq
import Derived.Laws.BytesArg
import Derived.Laws.IdiomStrings
set_option linter.unusedVariables false
set_option maxRecDepth 100000
namespace Go.Proofs.YtncadnmoiiiahaaDoor
open Go.RowKit

/-- the string of bytes that a read gives. -/
def ReadPost (r : Nat) (L : Lay) (d : Dk) (res : List UInt8 × Int) (w : World) (e : Ending) (w' : World) : Prop :=
  ∃ s : ByteArray, e = .returned (.tuple #[.string s, .int .i64 res.2]) ∧ s.data.toList = res.1 ∧ Below w.heap.size w w'

theorem own_slice {w : World} {v : Value} {l : List UInt8} (h : w.ownsRow 0 5 1 v l.length (bcs l)) : ∃ A cap, v = .slice A l.length cap ∧ (A = none → l = [] ∧ cap = 0) ∧ l.length ≤ cap ∧ cap ≤ 9223372036854775807 ∧
    ∀ a, A = some a → ∃ g, a = ⟨g, 0, none⟩ ∧ g < w.heap.size ∧ ∀ j (hj : j < l.length), w.cell? ⟨g, j, none⟩ = some (.int .u8 (l[j].toNat : Int)) := by
  rcases h.2 with ⟨rfl, h0⟩ | ⟨g, cap, cur, rfl, _, hg, hnc, hcm, hcs, ht⟩
  · have hl : l = [] := List.eq_nil_of_length_eq_zero h0
    subst hl
    exact ⟨none, 0, rfl, fun _ => ⟨rfl, rfl⟩, Nat.le_refl _, by omega, fun a h => by cases h⟩
  · refine ⟨_, cap, rfl, (fun h => by cases h), hnc, by unfold maxLen at hcm; omega, fun a ha => ?_⟩
    injection ha with ha
    refine ⟨g, ha.symm, brow_lt hg, fun j hj => ?_⟩
    have := h.cells (g := g) rfl j (.int .u8 (l[j].toNat : Int)) (bcs_at l j hj)
    rw [Addr.add_lit, Nat.zero_add] at this
    exact this

set_option maxRecDepth 100000 in
set_option maxHeartbeats 4000000 in
theorem pRead_any (r : Nat) (L : Lay) (d : Dk) (f a n : Int) (w : World) (h : PAt r L d w) (hb : Fits d) (h64 : In64 f) (ha64 : In64 a) (hn64 : In64 n) :
    Calls Tryd.prog 10 #[.pointer (some ⟨r, 0, none⟩), .int .i64 f, .int .i64 a, .int .i64 n] w (ReadPost r L d (d.read f a n) w) := by
  obtain ⟨c0, _, _, _, _, _, c6, _⟩ := h.raw.cells
  have hbr := Below.refl w.heap.size w
  have HBR := Lib.hid hbr
  clear hbr
  cases hd : d.down with
  | true =>
    have HX : Hid (d.read f a n = ([], 8)) := Lib.hid (by unfold Dk.read; rw [if_pos hd])
    rw [hd] at c6
    clear h hd hb
    go_enter Tryd.func10, Tryd.ntmps10
    go_wp2
    go_ret2
    rw [HX.out]
    exact ⟨⟨#[]⟩, rfl, rfl, HBR.out⟩
  | false =>
    rw [hd] at c6
    by_cases hf : Dk.fileOk f
    · have hl := h.raw.files.map.look_ok hf
      by_cases hneg : a < 0 ∨ n < 0
      · have HX : Hid (d.read f a n = ([], 1)) := Lib.hid (by unfold Dk.read; rw [if_neg (by rw [hd]; decide), if_neg (Decidable.not_not.mpr hf), if_pos hneg])
        clear h hd hb hf
        by_cases ha : a < 0
        · clear hneg
          go_enter Tryd.func10, Tryd.ntmps10
          go_wp2
          go_ret2
          rw [HX.out]
          exact ⟨⟨#[]⟩, rfl, rfl, HBR.out⟩
        · have hn : n < 0 := by omega
          have ha0 : 0 ≤ a := by omega
          clear hneg ha
          go_enter Tryd.func10, Tryd.ntmps10
          go_wp2
          go_ret2
          rw [HX.out]
          exact ⟨⟨#[]⟩, rfl, rfl, HBR.out⟩
      · have ha0 : 0 ≤ a := by omega
        have hn0 : 0 ≤ n := by omega
        have hX : d.read f a n = (((d.now f).drop a.toNat).take n.toNat, 0) := by unfold Dk.read; rw [if_neg (by rw [hd]; decide), if_neg (Decidable.not_not.mpr hf), if_neg hneg]
        have hbig := hb.ok.big f
        obtain ⟨k0, _, _⟩ := h.raw.files.cells hf
        obtain ⟨A, cap, hv, hnil, hlc, hcm, hA⟩ := own_slice (h.raw.files.row f false hf)
        rw [hv] at k0
        have e : side d.now d.last f false = d.now f := rfl
        rw [e] at k0 hnil hlc hA
        rw [hX]
        clear h hd hb hf hneg hX hv e
        generalize d.now f = l at *
        obtain ⟨fr, hfr⟩ : ∃ fr : Nat, fr = min a.toNat l.length := ⟨_, rfl⟩
        obtain ⟨to, hto⟩ : ∃ to : Nat, to = min n.toNat (l.length - fr) := ⟨_, rfl⟩
        have hpart : (l.drop a.toNat).take n.toNat = (l.drop fr).take to := by
          by_cases c : a.toNat ≤ l.length
          · have e : fr = a.toNat := by omega
            rw [e]
            by_cases c2 : n.toNat ≤ l.length - a.toNat
            · rw [show to = n.toNat by omega]
            · rw [List.take_of_length_le (by rw [List.length_drop]; omega), List.take_of_length_le (by rw [List.length_drop]; omega)]
          · rw [List.drop_of_length_le (by omega), show fr = l.length by omega, List.drop_of_length_le (Nat.le_refl _)]
            simp
        rw [hpart]
        have e1 : min a (l.length : Int) = (fr : Int) := by omega
        have hfl : fr ≤ l.length := by omega
        have htl : to ≤ l.length - fr := by omega
        have hpl : ((l.drop fr).take to).length = to := by rw [List.length_take, List.length_drop]; omega
        have e2 : min n ((l.length : Int) - (fr : Int)) = (to : Int) := by omega
        have e3 : ((l.length - fr : Nat) : Int) = (l.length : Int) - (fr : Int) := by omega
        have hf0 : (0 : Int) ≤ (fr : Int) := by omega
        have hf1 : (fr : Int) ≤ (l.length : Int) := by omega
        have ht0 : (0 : Int) ≤ (to : Int) := by omega
        cases A with
        | none =>
          obtain ⟨hl0, rfl⟩ := hnil rfl
          subst hl0
          have hpe : (([] : List UInt8).drop fr).take to = [] := by simp
          rw [hpe]
          have hcv : ∀ m c, (convert 36 9 (.slice none 0 c)).run Tryd.prog (w.drewN m) = .ok (.string ByteArray.empty) (w.drewN m) := fun m c => run_convert_bytes_nil (P := Tryd.prog) (w.drewN m) 36 5 Tryd.underlying36 Tryd.underlying5 0 c 9 Tryd.underlying9
          have HCV := Lib.hid hcv
          have q1 : min a 0 = 0 := by omega
          have q2 : min n 0 = 0 := by omega
          clear hcv hnil hA hfr hto hpart hpl e1 e2 e3 hpe hfl htl hf0 hf1 ht0 hlc hbig
          go_enter Tryd.func10, Tryd.ntmps10
          go_wp2_with fail
          go_quiet (fail)
          rename_i nq
          have hcv := HCV.out nq
          go_wp2_with fail
          go_ret2
          exact ⟨ByteArray.empty, rfl, rfl, HBR.out.trans ⟨rfl, rfl, rfl, Nat.le_refl _, fun _ _ => rfl⟩⟩
        | some ad =>
          obtain ⟨g, rfl, hg, hcell⟩ := hA ad rfl
          by_cases hcf : cap = fr
          · have hto0 : to = 0 := by omega
            have hcv : ∀ m c, (convert 36 9 (.slice (some ⟨g, 0, none⟩) 0 c)).run Tryd.prog (w.drewN m) = .ok (.string ⟨#[]⟩) (w.drewN m) := fun m c => by
              exact run_convert_bytes_back (P := Tryd.prog) (w.drewN m) 36 9 5 ⟨g, 0, none⟩ c [] Tryd.underlying36 Tryd.underlying5 Tryd.underlying9 (fun q hq => absurd hq (by simp))
            have HCV := Lib.hid hcv
            have hpe : (l.drop fr).take to = [] := by rw [hto0]; rfl
            rw [hpe]
            have q2 : min n 0 = 0 := by omega
            subst hcf
            clear hcv hcell hnil hA hfr hto hpart hpl e2 e3 hpe hto0
            go_enter Tryd.func10, Tryd.ntmps10
            go_wp2_with fail
            go_quiet (fail)
            rename_i nq
            have hcv := HCV.out nq
            go_wp2_with fail
            go_ret2
            exact ⟨⟨#[]⟩, rfl, rfl, HBR.out.trans ⟨rfl, rfl, rfl, Nat.le_refl _, fun _ _ => rfl⟩⟩
          · have hcv : ∀ m c, (convert 36 9 (.slice (some ⟨g, fr, none⟩) to c)).run Tryd.prog (w.drewN m) = .ok (.string ⟨((l.drop fr).take to).toArray⟩) (w.drewN m) := fun m c => by
              have := run_convert_bytes_back (P := Tryd.prog) (w.drewN m) 36 9 5 ⟨g, fr, none⟩ c ((l.drop fr).take to) Tryd.underlying36 Tryd.underlying5 Tryd.underlying9 (fun q hq => by
                rw [hpl] at hq
                rw [Addr.add_lit]
                have := hcell (fr + q) (by omega)
                simpa using this)
              rw [hpl] at this
              exact this
            have HCV := Lib.hid hcv
            have hcl : fr < cap := by omega
            have E2 := Lib.hid e2
            have E3 := Lib.hid e3
            clear hcv hcell hnil hA hfr hto hpart hpl e2 e3
            generalize (l.drop fr).take to = part at *
            go_enter Tryd.func10, Tryd.ntmps10
            go_wp2_with fail
            go_quiet (fail)
            rename_i nq
            have hcv := HCV.out nq
            have e2 := E2.out
            have e3 := E3.out
            go_wp2_with fail
            go_ret2
            exact ⟨⟨part.toArray⟩, rfl, rfl, HBR.out.trans ⟨rfl, rfl, rfl, Nat.le_refl _, fun _ _ => rfl⟩⟩
    · have hl := h.raw.files.map.look_no h64 hf
      have HX : Hid (d.read f a n = ([], 1)) := Lib.hid (by unfold Dk.read; rw [if_neg (by rw [hd]; decide), if_pos hf])
      clear h hd hb hf
      go_enter Tryd.func10, Tryd.ntmps10
      go_wp2
      go_ret2
      rw [HX.out]
      exact ⟨⟨#[]⟩, rfl, rfl, HBR.out⟩

end Go.Proofs.YtncadnmoiiiahaaDoor
