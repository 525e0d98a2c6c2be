/-
  Layer 14: the contract of sign.
-/
import Derived.Test.YtfmocnbhahcgoaaDoorG4
set_option linter.unusedVariables false
set_option maxRecDepth 100000
namespace Go.Proofs.YtfmocnbhahcgoaaDoor
open Go.RowKit

theorem Glb.cells {w : World} (h : Glb w) : ∀ j u, (sgns.map fun l => Value.string ⟨l.toArray⟩).toArray[j]? = some u → w.cell? ⟨0, j, none⟩ = some u := by
  intro j u hu
  have h1 := World.var?_cell gn_signs h.sg j
  rw [h1]
  exact hu
theorem sgn_none {l : List UInt8} (h : ∀ j (hj : j < sgns.length), sgns[j].isPrefixOf l = false) : signT l = ⟨13, 0, [], 0⟩ := by
  unfold signT
  rw [List.find?_eq_none.2 (fun x hx => by
    obtain ⟨j, hj, rfl⟩ := List.getElem_of_mem hx
    rw [h j hj]; decide)]
theorem sgn_some {l : List UInt8} {k : Nat} (hk : k < sgns.length) (h : ∀ j (hj : j < sgns.length), j < k → sgns[j].isPrefixOf l = false) (hp : sgns[k].isPrefixOf l = true) : signT l = ⟨0, 2, sgns[k], 0⟩ := by
  unfold signT
  have : sgns.find? (fun g => g.isPrefixOf l) = some sgns[k] := List.find?_eq_some_iff_getElem.2 ⟨hp, k, hk, rfl, fun j hj => by rw [h j (by omega) hj]; rfl⟩
  rw [this]
theorem idx14_0 (w : World) : (Instr.index 64 (.agg #[.string ⟨#[60, 61]⟩, .string ⟨#[61, 61]⟩, .string ⟨#[59]⟩, .string ⟨#[44]⟩, .string ⟨#[58]⟩, .string ⟨#[61]⟩, .string ⟨#[60]⟩, .string ⟨#[43]⟩, .string ⟨#[45]⟩, .string ⟨#[42]⟩, .string ⟨#[47]⟩, .string ⟨#[37]⟩, .string ⟨#[40]⟩, .string ⟨#[41]⟩]) (.int .i64 0)).run Tryd.prog w = .ok (.string ⟨#[60, 61]⟩) w := by
  simp [Instr.index, run_underlying Tryd.underlying64, asIntOf, go_sem]
theorem idx14_1 (w : World) : (Instr.index 64 (.agg #[.string ⟨#[60, 61]⟩, .string ⟨#[61, 61]⟩, .string ⟨#[59]⟩, .string ⟨#[44]⟩, .string ⟨#[58]⟩, .string ⟨#[61]⟩, .string ⟨#[60]⟩, .string ⟨#[43]⟩, .string ⟨#[45]⟩, .string ⟨#[42]⟩, .string ⟨#[47]⟩, .string ⟨#[37]⟩, .string ⟨#[40]⟩, .string ⟨#[41]⟩]) (.int .i64 1)).run Tryd.prog w = .ok (.string ⟨#[61, 61]⟩) w := by
  simp [Instr.index, run_underlying Tryd.underlying64, asIntOf, go_sem]
theorem idx14_2 (w : World) : (Instr.index 64 (.agg #[.string ⟨#[60, 61]⟩, .string ⟨#[61, 61]⟩, .string ⟨#[59]⟩, .string ⟨#[44]⟩, .string ⟨#[58]⟩, .string ⟨#[61]⟩, .string ⟨#[60]⟩, .string ⟨#[43]⟩, .string ⟨#[45]⟩, .string ⟨#[42]⟩, .string ⟨#[47]⟩, .string ⟨#[37]⟩, .string ⟨#[40]⟩, .string ⟨#[41]⟩]) (.int .i64 2)).run Tryd.prog w = .ok (.string ⟨#[59]⟩) w := by
  simp [Instr.index, run_underlying Tryd.underlying64, asIntOf, go_sem]
theorem idx14_3 (w : World) : (Instr.index 64 (.agg #[.string ⟨#[60, 61]⟩, .string ⟨#[61, 61]⟩, .string ⟨#[59]⟩, .string ⟨#[44]⟩, .string ⟨#[58]⟩, .string ⟨#[61]⟩, .string ⟨#[60]⟩, .string ⟨#[43]⟩, .string ⟨#[45]⟩, .string ⟨#[42]⟩, .string ⟨#[47]⟩, .string ⟨#[37]⟩, .string ⟨#[40]⟩, .string ⟨#[41]⟩]) (.int .i64 3)).run Tryd.prog w = .ok (.string ⟨#[44]⟩) w := by
  simp [Instr.index, run_underlying Tryd.underlying64, asIntOf, go_sem]
theorem idx14_4 (w : World) : (Instr.index 64 (.agg #[.string ⟨#[60, 61]⟩, .string ⟨#[61, 61]⟩, .string ⟨#[59]⟩, .string ⟨#[44]⟩, .string ⟨#[58]⟩, .string ⟨#[61]⟩, .string ⟨#[60]⟩, .string ⟨#[43]⟩, .string ⟨#[45]⟩, .string ⟨#[42]⟩, .string ⟨#[47]⟩, .string ⟨#[37]⟩, .string ⟨#[40]⟩, .string ⟨#[41]⟩]) (.int .i64 4)).run Tryd.prog w = .ok (.string ⟨#[58]⟩) w := by
  simp [Instr.index, run_underlying Tryd.underlying64, asIntOf, go_sem]
theorem idx14_5 (w : World) : (Instr.index 64 (.agg #[.string ⟨#[60, 61]⟩, .string ⟨#[61, 61]⟩, .string ⟨#[59]⟩, .string ⟨#[44]⟩, .string ⟨#[58]⟩, .string ⟨#[61]⟩, .string ⟨#[60]⟩, .string ⟨#[43]⟩, .string ⟨#[45]⟩, .string ⟨#[42]⟩, .string ⟨#[47]⟩, .string ⟨#[37]⟩, .string ⟨#[40]⟩, .string ⟨#[41]⟩]) (.int .i64 5)).run Tryd.prog w = .ok (.string ⟨#[61]⟩) w := by
  simp [Instr.index, run_underlying Tryd.underlying64, asIntOf, go_sem]
theorem idx14_6 (w : World) : (Instr.index 64 (.agg #[.string ⟨#[60, 61]⟩, .string ⟨#[61, 61]⟩, .string ⟨#[59]⟩, .string ⟨#[44]⟩, .string ⟨#[58]⟩, .string ⟨#[61]⟩, .string ⟨#[60]⟩, .string ⟨#[43]⟩, .string ⟨#[45]⟩, .string ⟨#[42]⟩, .string ⟨#[47]⟩, .string ⟨#[37]⟩, .string ⟨#[40]⟩, .string ⟨#[41]⟩]) (.int .i64 6)).run Tryd.prog w = .ok (.string ⟨#[60]⟩) w := by
  simp [Instr.index, run_underlying Tryd.underlying64, asIntOf, go_sem]
theorem idx14_7 (w : World) : (Instr.index 64 (.agg #[.string ⟨#[60, 61]⟩, .string ⟨#[61, 61]⟩, .string ⟨#[59]⟩, .string ⟨#[44]⟩, .string ⟨#[58]⟩, .string ⟨#[61]⟩, .string ⟨#[60]⟩, .string ⟨#[43]⟩, .string ⟨#[45]⟩, .string ⟨#[42]⟩, .string ⟨#[47]⟩, .string ⟨#[37]⟩, .string ⟨#[40]⟩, .string ⟨#[41]⟩]) (.int .i64 7)).run Tryd.prog w = .ok (.string ⟨#[43]⟩) w := by
  simp [Instr.index, run_underlying Tryd.underlying64, asIntOf, go_sem]
theorem idx14_8 (w : World) : (Instr.index 64 (.agg #[.string ⟨#[60, 61]⟩, .string ⟨#[61, 61]⟩, .string ⟨#[59]⟩, .string ⟨#[44]⟩, .string ⟨#[58]⟩, .string ⟨#[61]⟩, .string ⟨#[60]⟩, .string ⟨#[43]⟩, .string ⟨#[45]⟩, .string ⟨#[42]⟩, .string ⟨#[47]⟩, .string ⟨#[37]⟩, .string ⟨#[40]⟩, .string ⟨#[41]⟩]) (.int .i64 8)).run Tryd.prog w = .ok (.string ⟨#[45]⟩) w := by
  simp [Instr.index, run_underlying Tryd.underlying64, asIntOf, go_sem]
theorem idx14_9 (w : World) : (Instr.index 64 (.agg #[.string ⟨#[60, 61]⟩, .string ⟨#[61, 61]⟩, .string ⟨#[59]⟩, .string ⟨#[44]⟩, .string ⟨#[58]⟩, .string ⟨#[61]⟩, .string ⟨#[60]⟩, .string ⟨#[43]⟩, .string ⟨#[45]⟩, .string ⟨#[42]⟩, .string ⟨#[47]⟩, .string ⟨#[37]⟩, .string ⟨#[40]⟩, .string ⟨#[41]⟩]) (.int .i64 9)).run Tryd.prog w = .ok (.string ⟨#[42]⟩) w := by
  simp [Instr.index, run_underlying Tryd.underlying64, asIntOf, go_sem]
theorem idx14_10 (w : World) : (Instr.index 64 (.agg #[.string ⟨#[60, 61]⟩, .string ⟨#[61, 61]⟩, .string ⟨#[59]⟩, .string ⟨#[44]⟩, .string ⟨#[58]⟩, .string ⟨#[61]⟩, .string ⟨#[60]⟩, .string ⟨#[43]⟩, .string ⟨#[45]⟩, .string ⟨#[42]⟩, .string ⟨#[47]⟩, .string ⟨#[37]⟩, .string ⟨#[40]⟩, .string ⟨#[41]⟩]) (.int .i64 10)).run Tryd.prog w = .ok (.string ⟨#[47]⟩) w := by
  simp [Instr.index, run_underlying Tryd.underlying64, asIntOf, go_sem]
theorem idx14_11 (w : World) : (Instr.index 64 (.agg #[.string ⟨#[60, 61]⟩, .string ⟨#[61, 61]⟩, .string ⟨#[59]⟩, .string ⟨#[44]⟩, .string ⟨#[58]⟩, .string ⟨#[61]⟩, .string ⟨#[60]⟩, .string ⟨#[43]⟩, .string ⟨#[45]⟩, .string ⟨#[42]⟩, .string ⟨#[47]⟩, .string ⟨#[37]⟩, .string ⟨#[40]⟩, .string ⟨#[41]⟩]) (.int .i64 11)).run Tryd.prog w = .ok (.string ⟨#[37]⟩) w := by
  simp [Instr.index, run_underlying Tryd.underlying64, asIntOf, go_sem]
theorem idx14_12 (w : World) : (Instr.index 64 (.agg #[.string ⟨#[60, 61]⟩, .string ⟨#[61, 61]⟩, .string ⟨#[59]⟩, .string ⟨#[44]⟩, .string ⟨#[58]⟩, .string ⟨#[61]⟩, .string ⟨#[60]⟩, .string ⟨#[43]⟩, .string ⟨#[45]⟩, .string ⟨#[42]⟩, .string ⟨#[47]⟩, .string ⟨#[37]⟩, .string ⟨#[40]⟩, .string ⟨#[41]⟩]) (.int .i64 12)).run Tryd.prog w = .ok (.string ⟨#[40]⟩) w := by
  simp [Instr.index, run_underlying Tryd.underlying64, asIntOf, go_sem]
theorem idx14_13 (w : World) : (Instr.index 64 (.agg #[.string ⟨#[60, 61]⟩, .string ⟨#[61, 61]⟩, .string ⟨#[59]⟩, .string ⟨#[44]⟩, .string ⟨#[58]⟩, .string ⟨#[61]⟩, .string ⟨#[60]⟩, .string ⟨#[43]⟩, .string ⟨#[45]⟩, .string ⟨#[42]⟩, .string ⟨#[47]⟩, .string ⟨#[37]⟩, .string ⟨#[40]⟩, .string ⟨#[41]⟩]) (.int .i64 13)).run Tryd.prog w = .ok (.string ⟨#[41]⟩) w := by
  simp [Instr.index, run_underlying Tryd.underlying64, asIntOf, go_sem]
set_option maxHeartbeats 40000000 in
theorem sign_any (s : ByteArray) (w : World) (hg : Glb w) : Calls Tryd.prog 33 #[.string s] w (T1Is (signT s.data.toList) w) := by
  have HP := Lib.hid (prefix_any s)
  have R0 := RC.start w
  have hc := hg.cells
  have hn0 : 0 < w.heap.size := var_lt gn_signs hg.sg
  have hn1 : ¬ (0 = w.heap.size) := by omega
  have R0 := Lib.hid R0
  have c0 := hc 0 (.string ⟨#[60, 61]⟩) rfl; have c1 := hc 1 (.string ⟨#[61, 61]⟩) rfl; have c2 := hc 2 (.string ⟨#[59]⟩) rfl; have c3 := hc 3 (.string ⟨#[44]⟩) rfl; have c4 := hc 4 (.string ⟨#[58]⟩) rfl; have c5 := hc 5 (.string ⟨#[61]⟩) rfl; have c6 := hc 6 (.string ⟨#[60]⟩) rfl
  have c7 := hc 7 (.string ⟨#[43]⟩) rfl; have c8 := hc 8 (.string ⟨#[45]⟩) rfl; have c9 := hc 9 (.string ⟨#[42]⟩) rfl; have c10 := hc 10 (.string ⟨#[47]⟩) rfl; have c11 := hc 11 (.string ⟨#[37]⟩) rfl; have c12 := hc 12 (.string ⟨#[40]⟩) rfl; have c13 := hc 13 (.string ⟨#[41]⟩) rfl
  clear hc hg
  obtain ⟨g, hgw⟩ : ∃ g, g = w.heap.size := ⟨_, rfl⟩
  have HN13 : Hid ((∀ j (hj : j < sgns.length), j < 14 → sgns[j].isPrefixOf s.data.toList = false) → signT s.data.toList = ⟨13, 0, [], 0⟩) := Lib.hid (fun h => sgn_none (fun j hj => h j hj hj))
  obtain ⟨g, hgw⟩ : ∃ g, g = w.heap.size := ⟨_, rfl⟩
  have HN13 : Hid ((∀ j (hj : j < sgns.length), j < 14 → sgns[j].isPrefixOf s.data.toList = false) → signT s.data.toList = ⟨13, 0, [], 0⟩) := Lib.hid (fun h => sgn_none (fun j hj => h j hj hj))
  obtain ⟨g, hgw⟩ : ∃ g, g = w.heap.size := ⟨_, rfl⟩
  have HN13 : Hid ((∀ j (hj : j < sgns.length), j < 14 → sgns[j].isPrefixOf s.data.toList = false) → signT s.data.toList = ⟨13, 0, [], 0⟩) := Lib.hid (fun h => sgn_none (fun j hj => h j hj hj))
  go_enter Tryd.func33, Tryd.ntmps33
  go_wp2_with fail
  clear c0 c1 c2 c3 c4 c5 c6 c7 c8 c9 c10 c11 c12 c13 hn0 hn1
  rw [← hgw] at R0 ⊢
  generalize w.alloc (.cells #[.int .i64 0, .string ⟨#[]⟩, .int .i64 0, .int .i64 0] 25) = w0 at *
  clear hgw
  go_loopw [7] (fun i wr => ∃ (k : Nat), k ≤ 14 ∧ i = .int .i64 k ∧ Hid (∀ j (hj : j < sgns.length), j < k → sgns[j].isPrefixOf s.data.toList = false) ∧ Hid (RC w g wr)) (fun i _ => 14 - (intOf i).toNat)
  case atStart => exact ⟨0, Nat.zero_le _, rfl, Lib.hid (fun j hj h => by omega), R0⟩
  case round =>
    clear R0
    obtain ⟨k, hk, rfl, HN, HR⟩ := hrel
    have HSM : Hid (∀ (hk : k < sgns.length), sgns[k].isPrefixOf s.data.toList = true → signT s.data.toList = ⟨0, 2, sgns[k], 0⟩) := Lib.hid (fun hk hp => sgn_some hk HN.out hp)
    have HNX : Hid (∀ (hk : k < sgns.length), sgns[k].isPrefixOf s.data.toList = false → ∀ j (hj : j < sgns.length), j < k + 1 → sgns[j].isPrefixOf s.data.toList = false) := Lib.hid (fun hk hp j hj hjk => by
      by_cases e : j = k
      · subst e; exact hp
      · exact HN.out j hj (by omega))
    rcases (by omega : k = 0 ∨ k = 1 ∨ k = 2 ∨ k = 3 ∨ k = 4 ∨ k = 5 ∨ k = 6 ∨ k = 7 ∨ k = 8 ∨ k = 9 ∨ k = 10 ∨ k = 11 ∨ k = 12 ∨ k = 13 ∨ k = 14) with rfl | rfl | rfl | rfl | rfl | rfl | rfl | rfl | rfl | rfl | rfl | rfl | rfl | rfl | rfl
    · have hX := idx14_0
      go_wp2_with fail
      clear hX
      refine (HP.out ⟨#[60, 61]⟩ _).mono ?_
      rintro e w1 ⟨rfl, hb⟩
      have r1 := HR.out.go hb
      obtain ⟨c0, c1, c2, c3⟩ := r1.c
      have f0 := r1.f 0; have f1 := r1.f 1; have f2 := r1.f 2; have f3 := r1.f 3
      have gl := r1.lt
      have R1 := Lib.hid r1
      clear r1 hb HR
      cases hp : (⟨#[60, 61]⟩ : ByteArray).data.toList.isPrefixOf s.data.toList with
      | true =>
        have HF := Lib.hid (HSM.out (by decide) hp)
        go_wp2_with fail
        refine bodyPost_ret (rct_row rfl _ _ g 25 #[.int .i64 2, .string ⟨#[60, 61]⟩, .int .i64 0, .int .i64 0] (0, 0) _ rfl ?_ Tryd.underlying25 rfl (by kernel_rfl)) rfl ?_
        · have hz := R1.out.at_
          simp [World.setCell, Array.getElem?_modify, hz, Array.setIfInBounds]
        · rw [HF.out]
          refine ⟨_, ?_, rfl, ?_⟩
          · first | rfl | assumption | exact HSL.out
          · have hgb := R1.out.eq
            have := R1.out.bel
            repeat' first | assumption | refine Below.setCell ?_ (by simp only; omega) _
      | false =>
        have HX := Lib.hid (HNX.out (by decide) hp)
        clear hp c0 c1 c2 c3 f0 f1 f2 f3
        go_wp2_with fail
        go_roundw
        case rel => exact ⟨1, by omega, rfl, HX, R1⟩
        case measure => simp [intOf]
    · have hX := idx14_1
      go_wp2_with fail
      clear hX
      refine (HP.out ⟨#[61, 61]⟩ _).mono ?_
      rintro e w1 ⟨rfl, hb⟩
      have r1 := HR.out.go hb
      obtain ⟨c0, c1, c2, c3⟩ := r1.c
      have f0 := r1.f 0; have f1 := r1.f 1; have f2 := r1.f 2; have f3 := r1.f 3
      have gl := r1.lt
      have R1 := Lib.hid r1
      clear r1 hb HR
      cases hp : (⟨#[61, 61]⟩ : ByteArray).data.toList.isPrefixOf s.data.toList with
      | true =>
        have HF := Lib.hid (HSM.out (by decide) hp)
        go_wp2_with fail
        refine bodyPost_ret (rct_row rfl _ _ g 25 #[.int .i64 2, .string ⟨#[61, 61]⟩, .int .i64 0, .int .i64 0] (0, 0) _ rfl ?_ Tryd.underlying25 rfl (by kernel_rfl)) rfl ?_
        · have hz := R1.out.at_
          simp [World.setCell, Array.getElem?_modify, hz, Array.setIfInBounds]
        · rw [HF.out]
          refine ⟨_, ?_, rfl, ?_⟩
          · first | rfl | assumption | exact HSL.out
          · have hgb := R1.out.eq
            have := R1.out.bel
            repeat' first | assumption | refine Below.setCell ?_ (by simp only; omega) _
      | false =>
        have HX := Lib.hid (HNX.out (by decide) hp)
        clear hp c0 c1 c2 c3 f0 f1 f2 f3
        go_wp2_with fail
        go_roundw
        case rel => exact ⟨2, by omega, rfl, HX, R1⟩
        case measure => simp [intOf]
    · have hX := idx14_2
      go_wp2_with fail
      clear hX
      refine (HP.out ⟨#[59]⟩ _).mono ?_
      rintro e w1 ⟨rfl, hb⟩
      have r1 := HR.out.go hb
      obtain ⟨c0, c1, c2, c3⟩ := r1.c
      have f0 := r1.f 0; have f1 := r1.f 1; have f2 := r1.f 2; have f3 := r1.f 3
      have gl := r1.lt
      have R1 := Lib.hid r1
      clear r1 hb HR
      cases hp : (⟨#[59]⟩ : ByteArray).data.toList.isPrefixOf s.data.toList with
      | true =>
        have HF := Lib.hid (HSM.out (by decide) hp)
        go_wp2_with fail
        refine bodyPost_ret (rct_row rfl _ _ g 25 #[.int .i64 2, .string ⟨#[59]⟩, .int .i64 0, .int .i64 0] (0, 0) _ rfl ?_ Tryd.underlying25 rfl (by kernel_rfl)) rfl ?_
        · have hz := R1.out.at_
          simp [World.setCell, Array.getElem?_modify, hz, Array.setIfInBounds]
        · rw [HF.out]
          refine ⟨_, ?_, rfl, ?_⟩
          · first | rfl | assumption | exact HSL.out
          · have hgb := R1.out.eq
            have := R1.out.bel
            repeat' first | assumption | refine Below.setCell ?_ (by simp only; omega) _
      | false =>
        have HX := Lib.hid (HNX.out (by decide) hp)
        clear hp c0 c1 c2 c3 f0 f1 f2 f3
        go_wp2_with fail
        go_roundw
        case rel => exact ⟨3, by omega, rfl, HX, R1⟩
        case measure => simp [intOf]
    · have hX := idx14_3
      go_wp2_with fail
      clear hX
      refine (HP.out ⟨#[44]⟩ _).mono ?_
      rintro e w1 ⟨rfl, hb⟩
      have r1 := HR.out.go hb
      obtain ⟨c0, c1, c2, c3⟩ := r1.c
      have f0 := r1.f 0; have f1 := r1.f 1; have f2 := r1.f 2; have f3 := r1.f 3
      have gl := r1.lt
      have R1 := Lib.hid r1
      clear r1 hb HR
      cases hp : (⟨#[44]⟩ : ByteArray).data.toList.isPrefixOf s.data.toList with
      | true =>
        have HF := Lib.hid (HSM.out (by decide) hp)
        go_wp2_with fail
        refine bodyPost_ret (rct_row rfl _ _ g 25 #[.int .i64 2, .string ⟨#[44]⟩, .int .i64 0, .int .i64 0] (0, 0) _ rfl ?_ Tryd.underlying25 rfl (by kernel_rfl)) rfl ?_
        · have hz := R1.out.at_
          simp [World.setCell, Array.getElem?_modify, hz, Array.setIfInBounds]
        · rw [HF.out]
          refine ⟨_, ?_, rfl, ?_⟩
          · first | rfl | assumption | exact HSL.out
          · have hgb := R1.out.eq
            have := R1.out.bel
            repeat' first | assumption | refine Below.setCell ?_ (by simp only; omega) _
      | false =>
        have HX := Lib.hid (HNX.out (by decide) hp)
        clear hp c0 c1 c2 c3 f0 f1 f2 f3
        go_wp2_with fail
        go_roundw
        case rel => exact ⟨4, by omega, rfl, HX, R1⟩
        case measure => simp [intOf]
    · have hX := idx14_4
      go_wp2_with fail
      clear hX
      refine (HP.out ⟨#[58]⟩ _).mono ?_
      rintro e w1 ⟨rfl, hb⟩
      have r1 := HR.out.go hb
      obtain ⟨c0, c1, c2, c3⟩ := r1.c
      have f0 := r1.f 0; have f1 := r1.f 1; have f2 := r1.f 2; have f3 := r1.f 3
      have gl := r1.lt
      have R1 := Lib.hid r1
      clear r1 hb HR
      cases hp : (⟨#[58]⟩ : ByteArray).data.toList.isPrefixOf s.data.toList with
      | true =>
        have HF := Lib.hid (HSM.out (by decide) hp)
        go_wp2_with fail
        refine bodyPost_ret (rct_row rfl _ _ g 25 #[.int .i64 2, .string ⟨#[58]⟩, .int .i64 0, .int .i64 0] (0, 0) _ rfl ?_ Tryd.underlying25 rfl (by kernel_rfl)) rfl ?_
        · have hz := R1.out.at_
          simp [World.setCell, Array.getElem?_modify, hz, Array.setIfInBounds]
        · rw [HF.out]
          refine ⟨_, ?_, rfl, ?_⟩
          · first | rfl | assumption | exact HSL.out
          · have hgb := R1.out.eq
            have := R1.out.bel
            repeat' first | assumption | refine Below.setCell ?_ (by simp only; omega) _
      | false =>
        have HX := Lib.hid (HNX.out (by decide) hp)
        clear hp c0 c1 c2 c3 f0 f1 f2 f3
        go_wp2_with fail
        go_roundw
        case rel => exact ⟨5, by omega, rfl, HX, R1⟩
        case measure => simp [intOf]
    · have hX := idx14_5
      go_wp2_with fail
      clear hX
      refine (HP.out ⟨#[61]⟩ _).mono ?_
      rintro e w1 ⟨rfl, hb⟩
      have r1 := HR.out.go hb
      obtain ⟨c0, c1, c2, c3⟩ := r1.c
      have f0 := r1.f 0; have f1 := r1.f 1; have f2 := r1.f 2; have f3 := r1.f 3
      have gl := r1.lt
      have R1 := Lib.hid r1
      clear r1 hb HR
      cases hp : (⟨#[61]⟩ : ByteArray).data.toList.isPrefixOf s.data.toList with
      | true =>
        have HF := Lib.hid (HSM.out (by decide) hp)
        go_wp2_with fail
        refine bodyPost_ret (rct_row rfl _ _ g 25 #[.int .i64 2, .string ⟨#[61]⟩, .int .i64 0, .int .i64 0] (0, 0) _ rfl ?_ Tryd.underlying25 rfl (by kernel_rfl)) rfl ?_
        · have hz := R1.out.at_
          simp [World.setCell, Array.getElem?_modify, hz, Array.setIfInBounds]
        · rw [HF.out]
          refine ⟨_, ?_, rfl, ?_⟩
          · first | rfl | assumption | exact HSL.out
          · have hgb := R1.out.eq
            have := R1.out.bel
            repeat' first | assumption | refine Below.setCell ?_ (by simp only; omega) _
      | false =>
        have HX := Lib.hid (HNX.out (by decide) hp)
        clear hp c0 c1 c2 c3 f0 f1 f2 f3
        go_wp2_with fail
        go_roundw
        case rel => exact ⟨6, by omega, rfl, HX, R1⟩
        case measure => simp [intOf]
    · have hX := idx14_6
      go_wp2_with fail
      clear hX
      refine (HP.out ⟨#[60]⟩ _).mono ?_
      rintro e w1 ⟨rfl, hb⟩
      have r1 := HR.out.go hb
      obtain ⟨c0, c1, c2, c3⟩ := r1.c
      have f0 := r1.f 0; have f1 := r1.f 1; have f2 := r1.f 2; have f3 := r1.f 3
      have gl := r1.lt
      have R1 := Lib.hid r1
      clear r1 hb HR
      cases hp : (⟨#[60]⟩ : ByteArray).data.toList.isPrefixOf s.data.toList with
      | true =>
        have HF := Lib.hid (HSM.out (by decide) hp)
        go_wp2_with fail
        refine bodyPost_ret (rct_row rfl _ _ g 25 #[.int .i64 2, .string ⟨#[60]⟩, .int .i64 0, .int .i64 0] (0, 0) _ rfl ?_ Tryd.underlying25 rfl (by kernel_rfl)) rfl ?_
        · have hz := R1.out.at_
          simp [World.setCell, Array.getElem?_modify, hz, Array.setIfInBounds]
        · rw [HF.out]
          refine ⟨_, ?_, rfl, ?_⟩
          · first | rfl | assumption | exact HSL.out
          · have hgb := R1.out.eq
            have := R1.out.bel
            repeat' first | assumption | refine Below.setCell ?_ (by simp only; omega) _
      | false =>
        have HX := Lib.hid (HNX.out (by decide) hp)
        clear hp c0 c1 c2 c3 f0 f1 f2 f3
        go_wp2_with fail
        go_roundw
        case rel => exact ⟨7, by omega, rfl, HX, R1⟩
        case measure => simp [intOf]
    · have hX := idx14_7
      go_wp2_with fail
      clear hX
      refine (HP.out ⟨#[43]⟩ _).mono ?_
      rintro e w1 ⟨rfl, hb⟩
      have r1 := HR.out.go hb
      obtain ⟨c0, c1, c2, c3⟩ := r1.c
      have f0 := r1.f 0; have f1 := r1.f 1; have f2 := r1.f 2; have f3 := r1.f 3
      have gl := r1.lt
      have R1 := Lib.hid r1
      clear r1 hb HR
      cases hp : (⟨#[43]⟩ : ByteArray).data.toList.isPrefixOf s.data.toList with
      | true =>
        have HF := Lib.hid (HSM.out (by decide) hp)
        go_wp2_with fail
        refine bodyPost_ret (rct_row rfl _ _ g 25 #[.int .i64 2, .string ⟨#[43]⟩, .int .i64 0, .int .i64 0] (0, 0) _ rfl ?_ Tryd.underlying25 rfl (by kernel_rfl)) rfl ?_
        · have hz := R1.out.at_
          simp [World.setCell, Array.getElem?_modify, hz, Array.setIfInBounds]
        · rw [HF.out]
          refine ⟨_, ?_, rfl, ?_⟩
          · first | rfl | assumption | exact HSL.out
          · have hgb := R1.out.eq
            have := R1.out.bel
            repeat' first | assumption | refine Below.setCell ?_ (by simp only; omega) _
      | false =>
        have HX := Lib.hid (HNX.out (by decide) hp)
        clear hp c0 c1 c2 c3 f0 f1 f2 f3
        go_wp2_with fail
        go_roundw
        case rel => exact ⟨8, by omega, rfl, HX, R1⟩
        case measure => simp [intOf]
    · have hX := idx14_8
      go_wp2_with fail
      clear hX
      refine (HP.out ⟨#[45]⟩ _).mono ?_
      rintro e w1 ⟨rfl, hb⟩
      have r1 := HR.out.go hb
      obtain ⟨c0, c1, c2, c3⟩ := r1.c
      have f0 := r1.f 0; have f1 := r1.f 1; have f2 := r1.f 2; have f3 := r1.f 3
      have gl := r1.lt
      have R1 := Lib.hid r1
      clear r1 hb HR
      cases hp : (⟨#[45]⟩ : ByteArray).data.toList.isPrefixOf s.data.toList with
      | true =>
        have HF := Lib.hid (HSM.out (by decide) hp)
        go_wp2_with fail
        refine bodyPost_ret (rct_row rfl _ _ g 25 #[.int .i64 2, .string ⟨#[45]⟩, .int .i64 0, .int .i64 0] (0, 0) _ rfl ?_ Tryd.underlying25 rfl (by kernel_rfl)) rfl ?_
        · have hz := R1.out.at_
          simp [World.setCell, Array.getElem?_modify, hz, Array.setIfInBounds]
        · rw [HF.out]
          refine ⟨_, ?_, rfl, ?_⟩
          · first | rfl | assumption | exact HSL.out
          · have hgb := R1.out.eq
            have := R1.out.bel
            repeat' first | assumption | refine Below.setCell ?_ (by simp only; omega) _
      | false =>
        have HX := Lib.hid (HNX.out (by decide) hp)
        clear hp c0 c1 c2 c3 f0 f1 f2 f3
        go_wp2_with fail
        go_roundw
        case rel => exact ⟨9, by omega, rfl, HX, R1⟩
        case measure => simp [intOf]
    · have hX := idx14_9
      go_wp2_with fail
      clear hX
      refine (HP.out ⟨#[42]⟩ _).mono ?_
      rintro e w1 ⟨rfl, hb⟩
      have r1 := HR.out.go hb
      obtain ⟨c0, c1, c2, c3⟩ := r1.c
      have f0 := r1.f 0; have f1 := r1.f 1; have f2 := r1.f 2; have f3 := r1.f 3
      have gl := r1.lt
      have R1 := Lib.hid r1
      clear r1 hb HR
      cases hp : (⟨#[42]⟩ : ByteArray).data.toList.isPrefixOf s.data.toList with
      | true =>
        have HF := Lib.hid (HSM.out (by decide) hp)
        go_wp2_with fail
        refine bodyPost_ret (rct_row rfl _ _ g 25 #[.int .i64 2, .string ⟨#[42]⟩, .int .i64 0, .int .i64 0] (0, 0) _ rfl ?_ Tryd.underlying25 rfl (by kernel_rfl)) rfl ?_
        · have hz := R1.out.at_
          simp [World.setCell, Array.getElem?_modify, hz, Array.setIfInBounds]
        · rw [HF.out]
          refine ⟨_, ?_, rfl, ?_⟩
          · first | rfl | assumption | exact HSL.out
          · have hgb := R1.out.eq
            have := R1.out.bel
            repeat' first | assumption | refine Below.setCell ?_ (by simp only; omega) _
      | false =>
        have HX := Lib.hid (HNX.out (by decide) hp)
        clear hp c0 c1 c2 c3 f0 f1 f2 f3
        go_wp2_with fail
        go_roundw
        case rel => exact ⟨10, by omega, rfl, HX, R1⟩
        case measure => simp [intOf]
    · have hX := idx14_10
      go_wp2_with fail
      clear hX
      refine (HP.out ⟨#[47]⟩ _).mono ?_
      rintro e w1 ⟨rfl, hb⟩
      have r1 := HR.out.go hb
      obtain ⟨c0, c1, c2, c3⟩ := r1.c
      have f0 := r1.f 0; have f1 := r1.f 1; have f2 := r1.f 2; have f3 := r1.f 3
      have gl := r1.lt
      have R1 := Lib.hid r1
      clear r1 hb HR
      cases hp : (⟨#[47]⟩ : ByteArray).data.toList.isPrefixOf s.data.toList with
      | true =>
        have HF := Lib.hid (HSM.out (by decide) hp)
        go_wp2_with fail
        refine bodyPost_ret (rct_row rfl _ _ g 25 #[.int .i64 2, .string ⟨#[47]⟩, .int .i64 0, .int .i64 0] (0, 0) _ rfl ?_ Tryd.underlying25 rfl (by kernel_rfl)) rfl ?_
        · have hz := R1.out.at_
          simp [World.setCell, Array.getElem?_modify, hz, Array.setIfInBounds]
        · rw [HF.out]
          refine ⟨_, ?_, rfl, ?_⟩
          · first | rfl | assumption | exact HSL.out
          · have hgb := R1.out.eq
            have := R1.out.bel
            repeat' first | assumption | refine Below.setCell ?_ (by simp only; omega) _
      | false =>
        have HX := Lib.hid (HNX.out (by decide) hp)
        clear hp c0 c1 c2 c3 f0 f1 f2 f3
        go_wp2_with fail
        go_roundw
        case rel => exact ⟨11, by omega, rfl, HX, R1⟩
        case measure => simp [intOf]
    · have hX := idx14_11
      go_wp2_with fail
      clear hX
      refine (HP.out ⟨#[37]⟩ _).mono ?_
      rintro e w1 ⟨rfl, hb⟩
      have r1 := HR.out.go hb
      obtain ⟨c0, c1, c2, c3⟩ := r1.c
      have f0 := r1.f 0; have f1 := r1.f 1; have f2 := r1.f 2; have f3 := r1.f 3
      have gl := r1.lt
      have R1 := Lib.hid r1
      clear r1 hb HR
      cases hp : (⟨#[37]⟩ : ByteArray).data.toList.isPrefixOf s.data.toList with
      | true =>
        have HF := Lib.hid (HSM.out (by decide) hp)
        go_wp2_with fail
        refine bodyPost_ret (rct_row rfl _ _ g 25 #[.int .i64 2, .string ⟨#[37]⟩, .int .i64 0, .int .i64 0] (0, 0) _ rfl ?_ Tryd.underlying25 rfl (by kernel_rfl)) rfl ?_
        · have hz := R1.out.at_
          simp [World.setCell, Array.getElem?_modify, hz, Array.setIfInBounds]
        · rw [HF.out]
          refine ⟨_, ?_, rfl, ?_⟩
          · first | rfl | assumption | exact HSL.out
          · have hgb := R1.out.eq
            have := R1.out.bel
            repeat' first | assumption | refine Below.setCell ?_ (by simp only; omega) _
      | false =>
        have HX := Lib.hid (HNX.out (by decide) hp)
        clear hp c0 c1 c2 c3 f0 f1 f2 f3
        go_wp2_with fail
        go_roundw
        case rel => exact ⟨12, by omega, rfl, HX, R1⟩
        case measure => simp [intOf]
    · have hX := idx14_12
      go_wp2_with fail
      clear hX
      refine (HP.out ⟨#[40]⟩ _).mono ?_
      rintro e w1 ⟨rfl, hb⟩
      have r1 := HR.out.go hb
      obtain ⟨c0, c1, c2, c3⟩ := r1.c
      have f0 := r1.f 0; have f1 := r1.f 1; have f2 := r1.f 2; have f3 := r1.f 3
      have gl := r1.lt
      have R1 := Lib.hid r1
      clear r1 hb HR
      cases hp : (⟨#[40]⟩ : ByteArray).data.toList.isPrefixOf s.data.toList with
      | true =>
        have HF := Lib.hid (HSM.out (by decide) hp)
        go_wp2_with fail
        refine bodyPost_ret (rct_row rfl _ _ g 25 #[.int .i64 2, .string ⟨#[40]⟩, .int .i64 0, .int .i64 0] (0, 0) _ rfl ?_ Tryd.underlying25 rfl (by kernel_rfl)) rfl ?_
        · have hz := R1.out.at_
          simp [World.setCell, Array.getElem?_modify, hz, Array.setIfInBounds]
        · rw [HF.out]
          refine ⟨_, ?_, rfl, ?_⟩
          · first | rfl | assumption | exact HSL.out
          · have hgb := R1.out.eq
            have := R1.out.bel
            repeat' first | assumption | refine Below.setCell ?_ (by simp only; omega) _
      | false =>
        have HX := Lib.hid (HNX.out (by decide) hp)
        clear hp c0 c1 c2 c3 f0 f1 f2 f3
        go_wp2_with fail
        go_roundw
        case rel => exact ⟨13, by omega, rfl, HX, R1⟩
        case measure => simp [intOf]
    · have hX := idx14_13
      go_wp2_with fail
      clear hX
      refine (HP.out ⟨#[41]⟩ _).mono ?_
      rintro e w1 ⟨rfl, hb⟩
      have r1 := HR.out.go hb
      obtain ⟨c0, c1, c2, c3⟩ := r1.c
      have f0 := r1.f 0; have f1 := r1.f 1; have f2 := r1.f 2; have f3 := r1.f 3
      have gl := r1.lt
      have R1 := Lib.hid r1
      clear r1 hb HR
      cases hp : (⟨#[41]⟩ : ByteArray).data.toList.isPrefixOf s.data.toList with
      | true =>
        have HF := Lib.hid (HSM.out (by decide) hp)
        go_wp2_with fail
        refine bodyPost_ret (rct_row rfl _ _ g 25 #[.int .i64 2, .string ⟨#[41]⟩, .int .i64 0, .int .i64 0] (0, 0) _ rfl ?_ Tryd.underlying25 rfl (by kernel_rfl)) rfl ?_
        · have hz := R1.out.at_
          simp [World.setCell, Array.getElem?_modify, hz, Array.setIfInBounds]
        · rw [HF.out]
          refine ⟨_, ?_, rfl, ?_⟩
          · first | rfl | assumption | exact HSL.out
          · have hgb := R1.out.eq
            have := R1.out.bel
            repeat' first | assumption | refine Below.setCell ?_ (by simp only; omega) _
      | false =>
        have HX := Lib.hid (HNX.out (by decide) hp)
        clear hp c0 c1 c2 c3 f0 f1 f2 f3
        go_wp2_with fail
        go_roundw
        case rel => exact ⟨14, by omega, rfl, HX, R1⟩
        case measure => simp [intOf]
    · have HF := Lib.hid (HN13.out HN.out)
      obtain ⟨c0, c1, c2, c3⟩ := HR.out.c
      have f0 := HR.out.f 0; have f1 := HR.out.f 1; have f2 := HR.out.f 2; have f3 := HR.out.f 3
      have gl := HR.out.lt
      go_wp2_with fail
      refine bodyPost_ret (rct_row rfl _ _ g 25 #[.int .i64 0, .string ⟨#[]⟩, .int .i64 0, .int .i64 0] (0, 0) _ rfl ?_ Tryd.underlying25 rfl (by kernel_rfl)) rfl ?_
      · have hz := HR.out.at_
        simp [World.setCell, Array.getElem?_modify, hz, Array.setIfInBounds]
      · rw [HF.out]
        refine ⟨_, ?_, rfl, ?_⟩
        · first | rfl | assumption | exact HSL.out
        · have hgb := HR.out.eq
          have := HR.out.bel
          repeat' first | assumption | refine Below.setCell ?_ (by simp only; omega) _
end Go.Proofs.YtfmocnbhahcgoaaDoor
