/-
  Contracts of the reference's readers (2): Size, fits, pending, may, Read.
-/
import Derived.Test.YtkbffhlkbcdgnaaRa
set_option linter.unusedVariables false
namespace Go.Proofs.Ytkbffhlkbcdgnaa
open Go.RowKit


/-- all the reference's strings and lists are within bounds. -/
structure RBig (s : RSt) : Prop where
  fl : s.fl.length ≤ 1099511627776
  q : s.q.length ≤ 1099511627776
  now : ∀ f, (rget s.fl f).2.1.size ≤ 16777216

theorem field_now (x : RFile) : ∀ w : World, (Instr.field 60 (.agg #[.int .i64 x.1, .string x.2.1, .string x.2.2]) 1).run Try.prog w = .ok (.string x.2.1) w := fun _ => by kernel_rfl

set_option maxHeartbeats 1000000 in
theorem rSize_any (r B : Nat) (s : RSt) (f : Int) (w : World) (h : RAt r B s w) (hl : s.fl.length ≤ 1099511627776) :
    Calls Try.prog 13 #[.pointer (some ⟨r, 0, none⟩), .int .i64 f] w fun e w' => e = .returned (.int .i64 ((rget s.fl f).2.1.size : Int)) ∧ Below w.heap.size w w' := by
  have HG := Lib.hid (rget_any r B s f w h hl)
  clear h
  have hfd := field_now (rget s.fl f)
  generalize rget s.fl f = x at *
  go_enter Try.func13, Try.ntmps13
  go_wp2_with fail
  refine HG.out.mono ?_
  rintro e w2 ⟨rfl, hb⟩
  unfold fval
  go_wp2
  go_ret
  exact ⟨rfl, hb⟩

/-- whether a write of n bytes at a is within a file's bounds. -/
def fitsB (a : Int) (n : Nat) : Bool := decide (0 ≤ a ∧ a + n ≤ 16777216)
/-- the first two errors. -/
def mayOf (d : Bool) (f : Int) : Int := if d then 8 else if 0 ≤ f ∧ f ≤ 15 then 0 else 1

set_option maxHeartbeats 1000000 in
theorem rFits_any (a : Int) (s : ByteArray) (w : World) (ha : In64 a) (hs : s.size ≤ 1099511627776) :
    Calls Try.prog 44 #[.int .i64 a, .string s] w fun e w' => e = .returned (.bool (fitsB a s.size)) ∧ ∃ n, w' = w.drewN n := by
  obtain ⟨a0, a1⟩ := ha
  by_cases c1 : 0 ≤ a
  · by_cases c2 : a ≤ 16777216
    · have HD : Hid (fitsB a s.size = decide (a + (s.size : Int) ≤ 16777216)) := Lib.hid (by simp [fitsB, c1])
      go_enter Try.func44, Try.ntmps44
      go_wp2
      go_ret
      rw [HD.out]
      exact ⟨rfl, 0, rfl⟩
    · have c3 : 16777216 < a := by omega
      have HD : Hid (fitsB a s.size = false) := Lib.hid (by simp [fitsB]; omega)
      go_enter Try.func44, Try.ntmps44
      go_wp2
      go_ret
      rw [HD.out]
      exact ⟨rfl, 0, rfl⟩
  · have c3 : a < 0 := by omega
    have HD : Hid (fitsB a s.size = false) := Lib.hid (by simp [fitsB]; omega)
    go_enter Try.func44, Try.ntmps44
    go_wp2
    go_ret
    rw [HD.out]
    exact ⟨rfl, 0, rfl⟩

set_option maxHeartbeats 1000000 in
theorem rMay_any (r B : Nat) (s : RSt) (f : Int) (w : World) (h : RAt r B s w) :
    Calls Try.prog 38 #[.pointer (some ⟨r, 0, none⟩), .int .i64 f] w fun e w' => e = .returned (.int .i64 (mayOf s.down f)) ∧ w' = w := by
  obtain ⟨_, _, _, _, _, _, c3, _⟩ := h.cells
  clear h
  cases hd : s.down with
  | true =>
    rw [hd] at c3
    clear hd
    go_enter Try.func38, Try.ntmps38
    go_wp2
    go_ret
    exact ⟨rfl, rfl⟩
  | false =>
    rw [hd] at c3
    clear hd
    by_cases f0 : f < 0
    · have HD : Hid (mayOf false f = 1) := Lib.hid (by unfold mayOf; rw [if_neg (by decide), if_neg (by omega)])
      go_enter Try.func38, Try.ntmps38
      go_wp2
      go_ret
      rw [HD.out]
      exact ⟨rfl, rfl⟩
    · by_cases f1 : 15 < f
      · have HD : Hid (mayOf false f = 1) := Lib.hid (by unfold mayOf; rw [if_neg (by decide), if_neg (by omega)])
        go_enter Try.func38, Try.ntmps38
        go_wp2
        go_ret
        rw [HD.out]
        exact ⟨rfl, rfl⟩
      · have HD : Hid (mayOf false f = 0) := Lib.hid (by unfold mayOf; rw [if_neg (by decide), if_pos (by omega)])
        go_enter Try.func38, Try.ntmps38
        go_wp2
        go_ret
        rw [HD.out]
        exact ⟨rfl, rfl⟩

/-- where the sector is not among the first k. -/
def NotIn (l : List (Int × Nat)) (x : Int × Nat) (k : Nat) : Prop := ∀ j (h : j < l.length), j < k → l[j] ≠ x
theorem notIn_all {l : List (Int × Nat)} {x : Int × Nat} (h : NotIn l x l.length) : x ∉ l := fun hx => by
  obtain ⟨j, hj, e⟩ := List.getElem_of_mem hx
  exact h j hj hj e
def inB (l : List (Int × Nat)) (x : Int × Nat) : Bool := decide (x ∈ l)

set_option maxRecDepth 100000 in
set_option maxHeartbeats 2000000 in
theorem rPending_any (r B : Nat) (s : RSt) (f : Int) (n : Nat) (w : World) (h : RAt r B s w) (hl : s.q.length ≤ 1099511627776) :
    Calls Try.prog 54 #[.pointer (some ⟨r, 0, none⟩), .int .i64 f, .int .i64 (n : Int)] w fun e w' => e = .returned (.bool (inB s.q (f, n))) ∧ ∃ m, w' = w.drewN m := by
  have hr := h.lt
  obtain ⟨_, Qv, _, _, c1, _, _, _, _, _, _, hQ, _⟩ := h.cells
  obtain ⟨A, cap, rfl, hA⟩ := own_parts hQ
  have HA := Lib.hid hA
  clear hA hQ h
  go_enter Try.func54, Try.ntmps54
  go_wp2
  go_loopw [7] (fun i wr => ∃ k m : Nat, k ≤ s.q.length ∧ i = .int .i64 k ∧ Hid (NotIn s.q (f, n) k) ∧ wr = w.drewN m) (fun i _ => s.q.length - (intOf i).toNat)
  case atStart => exact ⟨0, 0, Nat.zero_le _, rfl, Lib.hid (fun j _ hj => absurd hj (Nat.not_lt_zero j)), rfl⟩
  case round =>
    obtain ⟨k, m, hk, rfl, hN, rfl⟩ := hrel
    by_cases hlt : k < s.q.length
    · obtain ⟨g, rfl, hg, hc⟩ := HA.out (by omega)
      obtain ⟨e0, e1⟩ := qcells_at s.q k hlt
      have k0 : w.cell? ⟨g, k * 2, none⟩ = some (.int .i64 s.q[k].1) := (hc _ (by omega)).trans e0
      have k1 : w.cell? ⟨g, k * 2 + 1, none⟩ = some (.int .i64 (s.q[k].2 : Int)) := (hc _ (by omega)).trans e1
      clear hc e0 e1
      have hi0 : (0 : Int) ≤ (k : Int) := by omega
      have hi1 : (k : Int) < (s.q.length : Int) := by omega
      have hx : s.q[k] = (s.q[k].1, s.q[k].2) := rfl
      have HX := Lib.hid hx
      clear hx
      have hmem : s.q[k] ∈ s.q := List.getElem_mem hlt
      have HM := Lib.hid hmem
      clear hmem
      by_cases he : s.q[k].1 = f
      · by_cases hn : s.q[k].2 = n
        · have hv : Hid (inB s.q (f, n) = true) := Lib.hid (by
            have := HM.out
            rw [HX.out, he, hn] at this
            simpa [inB] using this)
          go_wp2
          go_ret
          rw [hv.out]
          exact ⟨rfl, m, rfl⟩
        · have hN2 : Hid (NotIn s.q (f, n) (k + 1)) := Lib.hid (fun j hj hjk => by
            by_cases c : j = k
            · subst c; intro e; exact hn (by rw [e])
            · exact hN.out j hj (by omega))
          go_wp2
          go_roundw
          case rel => exact ⟨k + 1, m, by omega, by go_num, hN2, rfl⟩
          case measure => simp [intOf]; omega
      · have hN2 : Hid (NotIn s.q (f, n) (k + 1)) := Lib.hid (fun j hj hjk => by
          by_cases c : j = k
          · subst c; intro e; exact he (by rw [e])
          · exact hN.out j hj (by omega))
        go_wp2
        go_roundw
        case rel => exact ⟨k + 1, m, by omega, by go_num, hN2, rfl⟩
        case measure => simp [intOf]; omega
    · obtain rfl : k = s.q.length := by omega
      have hv : Hid (inB s.q (f, n) = false) := Lib.hid (by simpa [inB] using notIn_all hN.out)
      go_wp2
      go_ret
      rw [hv.out]
      exact ⟨rfl, m, rfl⟩

end Go.Proofs.Ytkbffhlkbcdgnaa
