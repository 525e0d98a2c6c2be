/-
  The laws' own helpers (layer 3): lists of records in memory; SameTexts, begins, few, texts, disky.
-/
import Derived.Test.YtncadnmoiiiahaaDoorJh
import Derived.Test.YtncadnmoiiiahaaDoorNy
import Derived.Deep.QuietTactic
import Derived.BigQuiet
set_option linter.unusedVariables false
set_option maxRecDepth 100000
namespace Go.Proofs.YtncadnmoiiiahaaDoor
open Go.RowKit W

/-- a list of records that can be read, in a block that is none of O. -/
def TRow (O : Nat → Prop) (w : World) (A : Option Addr) (R : List (List UInt8)) : Prop :=
  0 < R.length → ∃ b off, A = some ⟨b, off, none⟩ ∧ b < w.heap.size ∧ ¬ O b ∧ ∀ j (h : j < R.length), w.cell? ⟨b, off + j, none⟩ = some (vStr R[j])
theorem TRow.nil {O : Nat → Prop} {w : World} {A : Option Addr} : TRow O w A [] := fun h => absurd h (by simp)
theorem TRow.step {O O' : Nat → Prop} {w w' : World} {A : Option Addr} {R : List (List UInt8)} (h : TRow O w A R) (k : MStep O O' w w') : TRow O' w' A R := fun h0 => by
  obtain ⟨b, off, rfl, hl, hn, hc⟩ := h h0
  refine ⟨b, off, rfl, Nat.lt_of_lt_of_le hl k.fr.size, fun ho => ?_, fun j hj => ?_⟩
  · rcases k.own b ho with h1 | h1
    · exact hn h1
    · omega
  · rw [← hc j hj]
    exact World.cell?_of_block (k.fr.block b hl hn)
theorem TRow.below {O : Nat → Prop} {w w' : World} {A : Option Addr} {R : List (List UInt8)} (h : TRow O w A R) (hb : Below w.heap.size w w') : TRow O w' A R := h.step (MStep.of_below hb)
theorem TRow.any {O : Nat → Prop} {w : World} {A : Option Addr} {R : List (List UInt8)} (h : TRow O w A R) : TRow (fun _ => False) w A R := fun h0 => by
  obtain ⟨b, off, rfl, hl, hn, hc⟩ := h h0
  exact ⟨b, off, rfl, hl, (fun h => h), hc⟩
theorem TRow.sub {O O' : Nat → Prop} {w : World} {A : Option Addr} {R : List (List UInt8)} (h : TRow O w A R) (hs : ∀ b, b < w.heap.size → O' b → O b) : TRow O' w A R := fun h0 => by
  obtain ⟨b, off, rfl, hl, hn, hc⟩ := h h0
  exact ⟨b, off, rfl, hl, (fun h => hn (hs b hl h)), hc⟩
theorem TRow.take {O : Nat → Prop} {w : World} {A : Option Addr} {R : List (List UInt8)} (h : TRow O w A R) (n : Nat) : TRow O w A (R.take n) := fun h0 => by
  rw [List.length_take] at h0
  obtain ⟨b, off, rfl, hl, hn, hc⟩ := h (by omega)
  refine ⟨b, off, rfl, hl, hn, fun j hj => ?_⟩
  rw [List.length_take] at hj
  rw [hc j (by omega), List.getElem_take]
/-- an owned slice is such a list. -/
theorem TRow.of_own {O : Nat → Prop} {w : World} {B : Nat} {v : Value} {R : List (List UInt8)} (h : w.ownsRow B 9 1 v R.length (R.map vStr)) (hO : ∀ b, v.ownBlock = some b → ¬ O b) :
    ∃ A cap, v = .slice A R.length cap ∧ TRow O w A R := by
  obtain ⟨A, cap, rfl, hA⟩ := own_parts h
  refine ⟨A, cap, rfl, fun h0 => ?_⟩
  obtain ⟨g, rfl, hg, hc⟩ := hA h0
  refine ⟨g, 0, rfl, hg, hO g rfl, fun j hj => ?_⟩
  rw [Nat.zero_add, hc j (by omega)]
  simp [hj]

set_option maxHeartbeats 2000000 in
theorem sameT_any {O1 O2 : Nat → Prop} (A1 : Option Addr) (c1 : Nat) (A2 : Option Addr) (c2 : Nat) (R : List (List UInt8)) (w : World) (h1 : TRow O1 w A1 R) (h2 : TRow O2 w A2 R) (hl : R.length ≤ 1099511627776) :
    Calls Tryd.prog 12 #[.slice A1 R.length c1, .slice A2 R.length c2] w fun e w' => e = .returned (.bool true) ∧ Below w.heap.size w w' := by
  have H1 := Lib.hid h1; clear h1
  have H2 := Lib.hid h2; clear h2
  have hee : ((R.length : Int) != (R.length : Int)) = false := by simp
  go_enter Tryd.func12, Tryd.ntmps12
  go_wp2
  go_loopw [5] (fun i wr => ∃ (k m : Nat), k ≤ R.length ∧ i = .int .i64 k ∧ wr = w.drewN m) (fun i _ => R.length - (intOf i).toNat)
  case atStart => exact ⟨0, 0, Nat.zero_le _, rfl, rfl⟩
  case round =>
    obtain ⟨k, m, hk, rfl, rfl⟩ := hrel
    by_cases hlt : k < R.length
    · obtain ⟨b1, o1, rfl, hb1, _, hc1⟩ := H1.out (by omega)
      obtain ⟨b2, o2, rfl, hb2, _, hc2⟩ := H2.out (by omega)
      have k1 : w.cell? ⟨b1, o1 + k, none⟩ = some (.string (bs R[k])) := hc1 k hlt
      have k2 : w.cell? ⟨b2, o2 + k, none⟩ = some (.string (bs R[k])) := hc2 k hlt
      clear hc1 hc2
      generalize bs R[k] = x at *
      have hi0 : (0 : Int) ≤ (k : Int) := by omega
      have hi1 : (k : Int) < (R.length : Int) := by omega
      go_wp2
      go_quiet (fail)
      go_wp2
      go_roundw
      case rel => exact ⟨k + 1, m + nq, by omega, by go_num, rfl⟩
      case measure => simp [intOf]; omega
    · obtain rfl : k = R.length := by omega
      go_wp2
      go_ret
      exact ⟨rfl, below_drew w m⟩

/-- an operation. -/
structure JOp where
  k : Int
  s : ByteArray
  n : Int
  kl : List Int
structure JOpOk (x : JOp) : Prop where
  k : In64 x.k
  n : In64 x.n
  s : x.s.size ≤ 9223372036854775807
  len : x.kl.length ≤ 9223372036854775807
def opVals (x : JOp) (A : Option Addr) (cap : Nat) : List Value := [.int .i64 x.k, .string x.s, .int .i64 x.n, .slice A x.kl.length cap]
def Ops (w : World) (A : Option Addr) (l : List JOp) : Prop := 0 < l.length → ∃ b off, A = some ⟨b, off, none⟩ ∧ b < w.heap.size ∧
  ∀ i (h : i < l.length), ∃ AK ck, (AK = none → ck = 0) ∧ JRow w AK l[i].kl ∧ ∀ j u, (opVals l[i] AK ck)[j]? = some u → w.cell? ⟨b, off + i * 4 + j, none⟩ = some u
theorem Ops.below {w w' : World} {A : Option Addr} {l : List JOp} (h : Ops w A l) (hb : Below w.heap.size w w') : Ops w' A l := fun h0 => by
  obtain ⟨b, off, rfl, hl, hc⟩ := h h0
  refine ⟨b, off, rfl, Nat.lt_of_lt_of_le hl hb.size, fun i hi => ?_⟩
  obtain ⟨AK, ck, hz, hr, hcc⟩ := hc i hi
  exact ⟨AK, ck, hz, hr.below hb, fun j u hj => (hb.cell (p := ⟨b, off + i * 4 + j, none⟩) hl).trans (hcc j u hj)⟩
def JFew (l : List JOp) : Prop := l.length ≤ 25 ∧ ∀ x ∈ l, x.s.size ≤ 200 ∧ x.kl.length ≤ 50
def JFewPost (l : List JOp) (w : World) (e : Ending) (w' : World) : Prop := ∃ b : Bool, e = .returned (.bool b) ∧ (b = true → JFew l) ∧ Below w.heap.size w w'
theorem no_jfew {l : List JOp} {w : World} (n : Nat) : JFewPost l w (.returned (.bool false)) (w.drewN n) := ⟨false, rfl, (fun h => nomatch h), below_drew w n⟩

/-- strings that came in. -/
def SRow (w : World) (A : Option Addr) (l : List ByteArray) : Prop :=
  0 < l.length → ∃ b off, A = some ⟨b, off, none⟩ ∧ b < w.heap.size ∧ ∀ j (h : j < l.length), w.cell? ⟨b, off + j, none⟩ = some (.string l[j])
theorem SRow.below {w w' : World} {A : Option Addr} {l : List ByteArray} (h : SRow w A l) (hb : Below w.heap.size w w') : SRow w' A l := fun h0 => by
  obtain ⟨b, off, rfl, hl, hc⟩ := h h0
  exact ⟨b, off, rfl, Nat.lt_of_lt_of_le hl hb.size, fun j hj => (hb.cell (p := ⟨b, off + j, none⟩) hl).trans (hc j hj)⟩
def JTexts (l : List ByteArray) : Prop := l.length ≤ 8 ∧ ∀ x ∈ l, x.size ≤ 200
def JTextsPost (l : List ByteArray) (w : World) (e : Ending) (w' : World) : Prop := ∃ b : Bool, e = .returned (.bool b) ∧ (b = true → JTexts l) ∧ Below w.heap.size w w'

set_option maxHeartbeats 4000000 in
theorem jtexts_any (A : Option Addr) (cap : Nat) (l : List ByteArray) (w : World) (hl : l.length ≤ 9223372036854775807) (hok : ∀ x ∈ l, x.size ≤ 9223372036854775807) (hA : SRow w A l) :
    Calls Tryd.prog 5 #[.slice A l.length cap] w (JTextsPost l w) := by
  have HO := Lib.hid hok; clear hok
  have HA := Lib.hid hA; clear hA
  go_enter Tryd.func5, Tryd.ntmps5
  go_wp2
  go_loopw [3] (fun i wr => ∃ (k m : Nat), k ≤ l.length ∧ i = .int .i64 k ∧ Hid (∀ j (h : j < l.length), j < k → l[j].size ≤ 200) ∧ wr = w.drewN m) (fun i _ => l.length - (intOf i).toNat)
  case atStart => exact ⟨0, 0, Nat.zero_le _, rfl, Lib.hid (fun j _ h => absurd h (by omega)), rfl⟩
  case round =>
    obtain ⟨k, m, hk, rfl, hP, rfl⟩ := hrel
    by_cases hlt : k < l.length
    · obtain ⟨b, off, rfl, hb, hv⟩ := HA.out (by omega)
      have v1 := hv k hlt
      have hz := HO.out l[k] (List.getElem_mem hlt)
      have hnext : Hid (l[k].size ≤ 200 → ∀ j (h : j < l.length), j < k + 1 → l[j].size ≤ 200) := Lib.hid (fun h1 j h hj => by
        by_cases e : j < k
        · exact hP.out j h e
        · obtain rfl : j = k := by omega
          exact h1)
      clear hv hP
      generalize l[k] = v at *
      have hi0 : (0 : Int) ≤ (k : Int) := by omega
      have hi1 : (k : Int) < (l.length : Int) := by omega
      by_cases h1 : v.size ≤ 200
      · have h1' : (v.size : Int) ≤ 200 := by omega
        have HNN := Lib.hid (hnext.out h1)
        clear hnext
        go_wp2
        go_roundw
        case rel => exact ⟨k + 1, m, by omega, by go_num, HNN, rfl⟩
        case measure => simp [intOf]; omega
      · have h1' : (200 : Int) < (v.size : Int) := by omega
        go_wp2
        go_ret
        exact ⟨false, rfl, (fun h => nomatch h), below_drew w m⟩
    · obtain rfl : k = l.length := by omega
      have hfull : Hid (∀ x ∈ l, x.size ≤ 200) := Lib.hid (fun x hx => by
        obtain ⟨j, hj, rfl⟩ := List.getElem_of_mem hx
        exact hP.out j hj hj)
      go_wp2
      go_ret
      exact ⟨decide ((l.length : Int) ≤ 8), rfl, fun h => ⟨by have := of_decide_eq_true h; omega, hfull.out⟩, below_drew w m⟩

end Go.Proofs.YtncadnmoiiiahaaDoor
