/-
  The walk of DiskSurvives.
-/
import Derived.Test.YtcjadlokjbeibaaNd
import Derived.Test.YtcjadlokjbeibaaNc
import Derived.Laws.IdiomStrings
import Derived.Deep.QuietTactic
import Derived.BigQuiet
set_option linter.unusedVariables false
namespace Go.Proofs.Ytcjadlokjbeibaa
open Go.RowKit

/-- a sector's bytes are those of X. -/
def SecIs (s X : List UInt8) (k : Nat) : Prop := ∀ i, 64 * k ≤ i → i < 64 * k + 64 → bt s i = bt X i
theorem bt_get {s : ByteArray} {i : Nat} (h : i < s.size) : bt s.data.toList i = s[i] := by
  rw [bt_lt (by rw [Array.length_toList]; exact h)]
  rfl

structure Nope (P : Prop) : Prop where
  no : ¬ P
theorem bt_data (s : ByteArray) (i : Nat) : bt s.data.toList i = s.data[i]?.getD 0 := by
  unfold bt
  rw [List.getD_eq_getElem?_getD, Array.getElem?_toList]
theorem sec_new {s X : ByteArray} {k : Nat} {x : Int} (h0 : 64 * (k : Int) ≤ x) (h1 : x < 64 * (k : Int) + 64) (h : SecIs s.data.toList X.data.toList k) (hs : x.toNat < s.size) (hX : x.toNat < X.size) :
    (((s[x.toNat]'hs).toNat : Int) == ((X[x.toNat]'hX).toNat : Int)) = true := by
  have := h x.toNat (by omega) (by omega)
  rw [bt_get hs, bt_get hX] at this
  rw [this]
  simp
theorem sec_old {s X : ByteArray} {k : Nat} {x : Int} (h0 : 64 * (k : Int) ≤ x) (h1 : x < 64 * (k : Int) + 64) (h : SecIs s.data.toList X.data.toList k) (hs : x.toNat < s.size) :
    (((s[x.toNat]'hs).toNat : Int) == ((X.data[x.toNat]?.getD 0).toNat : Int)) = true := by
  have := h x.toNat (by omega) (by omega)
  rw [bt_get hs, bt_data] at this
  rw [this]
  simp

theorem quiet_add_same {P : Program} {f : FuncId} {args : Array Value} {w : World} {a n : Nat} {v : Value}
    (h : Calls P f args (w.drewN (a + n)) fun e w' => e = .returned v ∧ w' = w.drewN (a + n)) :
    Calls P f args (w.drewN (a + n)) fun e w'' => e = .returned v ∧ ∃ m, w'' = w.drewN (a + m) :=
  h.mono fun _ _ ⟨he, hm⟩ => ⟨he, n, hm⟩

set_option maxRecDepth 100000 in
set_option maxHeartbeats 8000000 in
theorem survives_walk (A : Option Addr) (cap : Nat) (l : List DAct) (f : Int) (AK : Option Addr) (ck : Nat) (keep : List Int) (w : World)
    (hl : l.length ≤ 9223372036854775807) (hok : ∀ v ∈ l, ActOk v) (hA : Acts w A l) (h64 : In64 f) (hK : JRow w AK keep) (hKl : keep.length ≤ 9223372036854775807) :
    Calls Try.prog 4 #[.slice A l.length cap, .int .i64 f, .slice AK keep.length ck] w fun e w' => e = .returned (.bool true) ∧ Below w.heap.size w w' := by
  have HO := Lib.hid hok; clear hok
  have HA := Lib.hid hA; clear hA
  have HK := Lib.hid hK; clear hK
  go_enter Try.func4, Try.ntmps4
  go_wp2_with fail
  refine (small_any w).mono ?_
  rintro e w1 ⟨rfl, b1⟩
  go_wp2_with fail
  refine (few_any A cap l w1 hl HO.out (HA.out.below b1)).mono ?_
  rintro e w2 ⟨b, rfl, hb, b12⟩
  have B2 := Lib.hid (b1.trans (b12.mono b1.size))
  clear b1 b12
  cases b with
  | false =>
    clear hb
    go_wp2
    go_ret
    exact ⟨rfl, B2.out⟩
  | true =>
  have HF := Lib.hid (hb rfl)
  clear hb
  by_cases hk : 60 < keep.length
  · have hk' : (60 : Int) < (keep.length : Int) := by omega
    go_wp2
    go_ret
    exact ⟨rfl, B2.out⟩
  have hk' : (keep.length : Int) ≤ 60 := by omega
  have H64 := Lib.hid h64
  clear h64
  go_wp2_with fail
  refine (played_any w A cap l w2 B2.out HF.out HO.out HA.out).mono ?_
  rintro e w4 ⟨r, L, rfl, h4⟩
  have H4 := Lib.hid h4
  clear h4 B2 HF HO HA
  generalize run Dk.new l = d at *
  go_wp2_with fail
  refine (mDown H4.out.at_).mono ?_
  rintro e w5 ⟨he, rfl⟩
  subst he
  by_cases hd : d.down = true
  · rw [hd]
    go_wp2
    go_ret
    exact ⟨rfl, H4.out.bel⟩
  have hd' : d.down = false := by simpa using hd
  clear hd
  rw [hd']
  by_cases hf0 : f < 0
  · go_wp2
    go_ret
    exact ⟨rfl, H4.out.bel⟩
  by_cases hf1 : 15 < f
  · have hf0' : 0 ≤ f := by omega
    go_wp2
    go_ret
    exact ⟨rfl, H4.out.bel⟩
  have hf0' : 0 ≤ f := by omega
  have hf1' : f ≤ 15 := by omega
  clear hf0 hf1
  have HFO : Hid (Dk.fileOk f) := Lib.hid ⟨hf0', hf1'⟩
  go_wp2_with fail
  refine (mSize H4.out.at_ H64.out).mono ?_
  rintro e w5 ⟨he, rfl⟩
  subst he
  by_cases hz : 100000 < (d.now f).length
  · have hz' : (100000 : Int) < ((d.now f).length : Int) := by omega
    go_wp2
    go_ret
    exact ⟨rfl, H4.out.bel⟩
  have hz' : ((d.now f).length : Int) ≤ 100000 := by omega
  have hcn : ∀ kp, (d.crash kp).now f = d.crashed kp f := fun kp => by rw [(Dk.crash_up hd' kp)]
  have hall : d.read f 0 16777216 = (d.now f, 0) := Dk.read_all H4.out.at_.ok HFO.out hd'
  obtain ⟨hl1, hl2⟩ := Dk.survives_len H4.out.at_.ok f keep
  have HS := Lib.hid (fun n => Dk.survives_sector H4.out.at_.ok f keep n)
  have HC1 := Lib.hid (congrFun (Dk.crashed_one H4.out.at_.ok) f)
  have HCN := Lib.hid hcn
  have HALL := Lib.hid hall
  clear hcn hall hd'
  go_wp2_with fail
  refine (hRead H4.out (by omega) H64.out (by unfold In64; omega) (by unfold In64; omega)).mono ?_
  rintro e w6 ⟨now, he, hs6, h6⟩
  rw [HALL.out] at he hs6
  subst he
  have H6 := Lib.hid h6
  have hs6 : now.data.toList = d.now f := hs6
  have hn1 : (d.now f).length = now.size := by rw [← hs6]; exact Array.length_toList
  have HN := Lib.hid hs6
  clear hs6 h6 H4 HALL
  go_wp2_with fail
  refine (after_any (l := []) H6.out (by omega) H64.out 0 (fun h => absurd h (by simp)) (by simp)).mono ?_
  rintro e w7 ⟨last, b7, rfl, h7, bb7⟩
  obtain ⟨rfl, hs7⟩ := h7 HFO.out
  rw [HCN.out] at hs7
  have HL := Lib.hid hs7
  have hn2 : (d.crashed [] f).length = last.size := by rw [← hs7]; exact Array.length_toList
  have H7 := Lib.hid (H6.out.below bb7)
  clear h7 hs7 bb7 H6
  go_wp2_with fail
  have H8 := Lib.hid (H7.out.below (below_alloc w7 (.cells #[.int .i64 1] 3)))
  refine (after_any (l := [1]) H8.out (by omega) H64.out 1 (fun _ => ⟨w7.heap.size, 0, rfl, ?_, fun j hj => ?_⟩) (by simp)).mono ?_
  · exact brow_lt (heap_alloc_new w7 _)
  · rw [Nat.zero_add, Lib.cell_of_heap (heap_alloc_new w7 _)]
    obtain rfl : j = 0 := by simpa using hj
    rfl
  rintro e w9 ⟨all, b9, rfl, h9, bb9⟩
  obtain ⟨rfl, hs9⟩ := h9 HFO.out
  rw [HCN.out, HC1.out] at hs9
  obtain rfl : all = now := ByteArray.ext (Array.toList_inj.1 (hs9.trans HN.out.symm))
  have H9 := Lib.hid (H8.out.below bb9)
  clear h9 hs9 bb9 H8 H7 HC1
  go_wp2_with fail
  refine (after_any H9.out (by omega) H64.out ck (HK.out.below H9.out.bel) (by omega)).mono ?_
  rintro e w10 ⟨some_, b10, rfl, h10, bb10⟩
  obtain ⟨rfl, hs10⟩ := h10 HFO.out
  rw [HCN.out] at hs10
  have hn3 : (d.crashed keep f).length = some_.size := by rw [← hs10]; exact Array.length_toList
  have H10 := Lib.hid (H9.out.bel.trans (bb10.mono H9.out.bel.size))
  have HSS : Hid (∀ n, SecIs some_.data.toList all.data.toList n ∨ SecIs some_.data.toList last.data.toList n) := Lib.hid (by
    rw [hs10, HN.out, HL.out]; exact HS.out)
  rw [hn2, hn3] at hl1
  rw [hn1, hn3] at hl2
  rw [hn1] at hz'
  clear h10 hs10 bb10 H9 HS HL HN HCN HK hn1 hn2 hn3 hz
  have hl1' : (last.size : Int) ≤ (some_.size : Int) := by omega
  have hl2' : (some_.size : Int) ≤ (all.size : Int) := by omega
  go_wp2
  go_loopw [17, 18, 19, 20] (fun n _ _ _ wr => ∃ (k : Nat), n = .int .i64 k ∧ 64 * k ≤ some_.size + 64 ∧ Below w.heap.size w wr) (fun n _ _ _ _ => some_.size + 64 - 64 * (intOf n).toNat)
  case atStart => exact ⟨0, rfl, by omega, H10.out⟩
  case round =>
    clear H10
    obtain ⟨k, rfl, hk64, bb⟩ := hrel
    have hb0 := bb.size
    have BB := Lib.hid bb
    clear bb
    by_cases hlt : 64 * k < some_.size
    · have hlt' : (64 : Int) * (k : Int) < (some_.size : Int) := by omega
      have hks := HSS.out k
      have HKS := Lib.hid hks
      clear hks
      go_wp2
      go_loopw [18, 19, 20] (fun n o i wr => ∃ (bn bo : Bool) (x : Int), n = .bool bn ∧ o = .bool bo ∧ i = .int .i64 x ∧ 64 * (k : Int) ≤ x ∧ x ≤ 64 * (k : Int) + 64 ∧ Hid (SecIs some_.data.toList all.data.toList k → bn = true) ∧ Hid (SecIs some_.data.toList last.data.toList k → bo = true) ∧ Hid (Below w.heap.size w wr)) (fun _ _ i _ => (64 * (k : Int) + 64 - intOf i).toNat)
      case atStart => exact ⟨true, true, 64 * (k : Int), rfl, rfl, by go_num, Int.le_refl _, by omega, Lib.hid (fun _ => rfl), Lib.hid (fun _ => rfl), BB⟩
      case round =>
        clear BB hb0
        rename_i wr2 _ _
        obtain ⟨bn, bo, x, rfl, rfl, rfl, hx0, hx1, hn, ho, BB⟩ := hrel
        by_cases hx : x < 64 * (k : Int) + 64
        · by_cases hxs : x < (some_.size : Int)
          · have hxa : x < (all.size : Int) := by omega
            have hx00 : 0 ≤ x := by omega
            have hxb : x ≤ 200000 := by omega
            have HBA := Lib.hid (fun w => byteAt_any last x w ⟨by omega, by omega⟩ (by omega) hx00)
            have E1 := Lib.hid (fun hs hX h => sec_new (s := some_) (X := all) hx0 hx h hs hX)
            have E2 := Lib.hid (fun hs h => sec_old (s := some_) (X := last) hx0 hx h hs)
            cases bn with
            | true =>
              clear hn
              cases bo with
              | true =>
                clear ho
                skip
                go_wp2
                go_quiet (fail)
                go_wp2
                go_quiet ((go_at_call 24; first | exact Calls.quiet_of_same (HBA.out _) | exact quiet_add_same (HBA.out _)))
                go_wp2
                go_roundw
                case rel => exact ⟨_, _, x + 1, rfl, rfl, by go_num, by omega, by omega, Lib.hid (E1.out _ _), Lib.hid (E2.out _), Lib.hid ⟨BB.out.os, BB.out.tape, BB.out.output, BB.out.size, BB.out.block⟩⟩
                case measure => simp [intOf]; omega
              | false =>
                have OP : Nope (SecIs some_.data.toList last.data.toList k) := ⟨fun h => by cases ho.out h⟩
                clear ho
                go_wp2
                go_quiet (fail)
                go_wp2
                go_quiet (fail)
                go_wp2
                go_roundw
                case rel => exact ⟨_, _, x + 1, rfl, rfl, by go_num, by omega, by omega, Lib.hid (E1.out _ _), Lib.hid (fun h => absurd h OP.no), Lib.hid ⟨BB.out.os, BB.out.tape, BB.out.output, BB.out.size, BB.out.block⟩⟩
                case measure => simp [intOf]; omega
            | false =>
              have NP : Nope (SecIs some_.data.toList all.data.toList k) := ⟨fun h => by cases hn.out h⟩
              clear hn
              cases bo with
              | true =>
                clear ho
                skip
                go_wp2
                go_quiet (fail)
                go_wp2
                go_quiet ((go_at_call 24; first | exact Calls.quiet_of_same (HBA.out _) | exact quiet_add_same (HBA.out _)))
                go_wp2
                go_roundw
                case rel => exact ⟨_, _, x + 1, rfl, rfl, by go_num, by omega, by omega, Lib.hid (fun h => absurd h NP.no), Lib.hid (E2.out _), Lib.hid ⟨BB.out.os, BB.out.tape, BB.out.output, BB.out.size, BB.out.block⟩⟩
                case measure => simp [intOf]; omega
              | false =>
                have OP : Nope (SecIs some_.data.toList last.data.toList k) := ⟨fun h => by cases ho.out h⟩
                clear ho
                go_wp2
                go_quiet (fail)
                go_wp2
                go_quiet (fail)
                go_wp2
                go_roundw
                case rel => exact ⟨_, _, x + 1, rfl, rfl, by go_num, by omega, by omega, Lib.hid (fun h => absurd h NP.no), Lib.hid (fun h => absurd h OP.no), Lib.hid ⟨BB.out.os, BB.out.tape, BB.out.output, BB.out.size, BB.out.block⟩⟩
                case measure => simp [intOf]; omega
          · have hxs' : (some_.size : Int) ≤ x := by omega
            have hor : bn = true ∨ bo = true := by
              rcases HKS.out with h | h
              · exact .inl (hn.out h)
              · exact .inr (ho.out h)
            clear hn ho HKS
            rcases hor with rfl | rfl
            · go_wp2
              go_roundw
              case rel => exact ⟨k + 1, by go_num, by omega, BB.out⟩
              case measure => simp [intOf]; omega
            · cases bn with
              | true =>
                go_wp2
                go_roundw
                case rel => exact ⟨k + 1, by go_num, by omega, BB.out⟩
                case measure => simp [intOf]; omega
              | false =>
                go_wp2
                go_roundw
                case rel => exact ⟨k + 1, by go_num, by omega, BB.out⟩
                case measure => simp [intOf]; omega
        · have hx' : 64 * (k : Int) + 64 ≤ x := by omega
          have hor : bn = true ∨ bo = true := by
            rcases HKS.out with h | h
            · exact .inl (hn.out h)
            · exact .inr (ho.out h)
          clear hn ho HKS
          rcases hor with rfl | rfl
          · go_wp2
            go_roundw
            case rel => exact ⟨k + 1, by go_num, by omega, BB.out⟩
            case measure => simp [intOf]; omega
          · cases bn with
            | true =>
              go_wp2
              go_roundw
              case rel => exact ⟨k + 1, by go_num, by omega, BB.out⟩
              case measure => simp [intOf]; omega
            | false =>
              go_wp2
              go_roundw
              case rel => exact ⟨k + 1, by go_num, by omega, BB.out⟩
              case measure => simp [intOf]; omega
    · have hlt' : (some_.size : Int) ≤ (64 : Int) * (k : Int) := by omega
      go_wp2
      go_ret
      exact ⟨rfl, BB.out⟩

end Go.Proofs.Ytcjadlokjbeibaa
