/-
  From what is handed in to what the walks ask: operations, strings, lists of ints, the library's table.
-/
import Derived.Test.YtbpkcgkcamkggaaGreatDoorT938
import Derived.Test.YtbpkcgkcamkggaaGreatDoorRows
import Derived.Test.YtbpkcgkcamkggaaGreatDoorTie
import Derived.ProofKit
import Derived.LaidMore
import Derived.OpenShut
import Derived.Stop.Joined
import Derived.Stop.LaidErr
import Derived.Carry
import Derived.SliceStrings
import Derived.Lib.SmallJoins
import Derived.Lib.LaidTab
import Derived.ShutString
import Derived.ChangeOld
import Derived.SevenTiedAt
set_option linter.unusedVariables false
set_option maxRecDepth 100000
namespace Go.Proofs.YtbpkcgkcamkggaaGreatDoor
open Go.RowKit Go.ChangeShapes Go.WideShapes Go.ChangeAt Go.Joins Go.Deep

theorem own : ownKnob Tryz.prog.godebug = none := by kernel_rfl
theorem laidOut : laidOutB Tryz.prog = true := by kernel_rfl

theorem list_of {α : Type} {P : Nat → α → Prop} : ∀ (n : Nat), (∀ i, i < n → ∃ x, P i x) → ∃ l : List α, l.length = n ∧ ∀ i (h : i < l.length), P i l[i]
  | 0, _ => ⟨[], rfl, fun i h => absurd h (by simp)⟩
  | n + 1, h => by
    obtain ⟨l, hl, hp⟩ := list_of n (fun i hi => h i (by omega))
    obtain ⟨x, hx⟩ := h n (by omega)
    refine ⟨l ++ [x], by simp [hl], fun i hi => ?_⟩
    by_cases e : i < l.length
    · rw [List.getElem_append_left e]; exact hp i e
    · simp only [List.length_append, List.length_cons, List.length_nil] at hi
      obtain rfl : i = n := by omega
      have : (l ++ [x])[i]'(by simp; omega) = x := by rw [List.getElem_append_right (by omega)]; simp [hl]
      rw [this]; exact hx

section
variable {H : Type} {enc : TypeId × Value → H} {w : World} {held : Bool}

theorem add_at (b o i : Nat) : (⟨b, o, none⟩ : Addr).add i = ⟨b, o + i, none⟩ := by unfold Addr.add; split <;> simp_all

theorem jrow_of_cells {a : Addr} (xs : List Int) (hx : ∀ i (h : i < xs.length), w.cell? (a.add i) = some (.int .i64 xs[i])) : JRow w (some a) xs := fun hn => by
  obtain ⟨b, off, spot⟩ := a
  have h0 := hx 0 hn
  have hspot : spot = none := by simpa [Addr.add] using World.cell?_spot h0
  subst hspot
  refine ⟨b, off, rfl, ?_, fun j hj => ?_⟩
  · have := World.block_lt_of_cell? w _ h0
    rw [add_at] at this
    exact this
  · have := hx j hj
    rw [add_at] at this
    exact this

theorem open_jrow0 {n : Nat} {v : Value} {y : DataW H × List MemPlace} (h : DataW.trod enc Tryz.prog w 0 (fun _ => true) held n 36 [v] = some y) :
    ∃ (A : Option Addr) (c : Nat) (l : List Int), v = .slice A l.length c ∧ (A = none → c = 0) ∧ JRow w A l ∧ (∀ x ∈ l, In64 x) ∧ l.length ≤ 9223372036854775807 := by
  rcases open_ints Tryz.underlying36 Tryz.underlying3 (by kernel_rfl) h with ⟨hcs, _⟩ | ⟨a, len, cap, zs, hcs, _, hl, hm, hz, _, hcell, hwz⟩
  · obtain rfl : v = .slice none 0 0 := by simpa using hcs
    exact ⟨none, 0, [], rfl, (fun _ => rfl), (fun h => absurd h (by simp)), (fun x hx => nomatch hx), by simp⟩
  · obtain rfl : v = .slice (some a) len cap := by simpa using hcs
    simp at hz
    have hlen : (zs.take len).length = len := by simp; omega
    refine ⟨some a, cap, zs.take len, by rw [hlen], (fun h => nomatch h), jrow_of_cells _ (fun i hi => ?_), fun x hx => ?_, by unfold maxLen at hm; omega⟩
    · have hi2 : i < len := by simp at hi; omega
      have h1 := hcell i (by omega)
      rw [h1]
      have h3 : i < zs.length := by omega
      simp [List.getD, h3]
    · have := hwz x (List.mem_of_mem_take hx)
      exact bounds_i64 this

theorem cellsOp : Tryz.prog.cellsOf 38 = 4 := by kernel_rfl
theorem each_op {a : Addr} {n : Nat} {cs : List Value} {y : DataW H × List MemPlace} (hc : w.cells? 0 a 4 = some cs) (ht : DataW.trod enc Tryz.prog w 0 (fun _ => true) held n 38 cs = some y) :
    ∃ (x : JOp) (AK : Option Addr) (ck : Nat), JOpOk x ∧ (AK = none → ck = 0) ∧ JRow w AK x.kl ∧ ∀ j u, (opVals x AK ck)[j]? = some u → w.cell? (a.add j) = some u := by
  obtain ⟨ys, n', _, _, hlen, hyl, hf⟩ := DataW.trod_struct Tryz.underlying38 ht
  obtain ⟨_, hcl, hat⟩ := World.cells?_some hc
  match cs, hcl, hat with
  | [c0, c1, c2, c3], _, hat =>
    have e3 : Tryz.prog.cellsOf 3 = 1 := by kernel_rfl
    have e9 : Tryz.prog.cellsOf 9 = 1 := by kernel_rfl
    have e22 : Tryz.prog.cellsOf 36 = 1 := by kernel_rfl
    match ys, hyl, hf with
    | [y0, y1, y2, y3], _, hf =>
      have h0 : DataW.trod enc Tryz.prog w 0 (fun _ => true) held n' 3 [c0] = some y0 := by have := hf 0 _ rfl; simpa [e3] using this
      have h1 : DataW.trod enc Tryz.prog w 0 (fun _ => true) held n' 9 [c1] = some y1 := by have := hf 1 _ rfl; simpa [e3, e9] using this
      have h2 : DataW.trod enc Tryz.prog w 0 (fun _ => true) held n' 3 [c2] = some y2 := by have := hf 2 _ rfl; simpa [e3, e9] using this
      have h3 : DataW.trod enc Tryz.prog w 0 (fun _ => true) held n' 36 [c3] = some y3 := by have := hf 3 _ rfl; simpa [e3, e9, e22] using this
      obtain ⟨K, hK, _, wK⟩ := DataW.trod_int Tryz.underlying3 h0
      obtain ⟨S, hS, _, wS⟩ := DataW.trod_string Tryz.underlying9 h1
      obtain ⟨N, hN, _, wN⟩ := DataW.trod_int Tryz.underlying3 h2
      obtain ⟨AL, cL, L, rfl, zL, rL, iL, lL⟩ := open_jrow0 h3
      obtain rfl : c0 = .int .i64 K := by simpa using hK
      obtain rfl : c1 = .string S := by simpa using hS
      obtain rfl : c2 = .int .i64 N := by simpa using hN
      refine ⟨⟨K, S, N, L⟩, AL, cL, ⟨bounds_i64 wK, bounds_i64 wN, by unfold maxLen at wS; exact wS, lL⟩, zL, rL, fun j u hu => ?_⟩
      have hj : j < 4 := by have := (List.getElem?_eq_some_iff.1 hu).1; simpa [opVals] using this
      rw [hat j hj]; exact hu

/-- a list of operations that came in. -/
theorem open_ops {v : Value} {d : DataW H} {p : List MemPlace} {r : Reach} {b0 : Nat} (hv : Value.okWide Tryz.prog w r b0 22 v) (h : DataW.Trod enc Tryz.prog w 0 (fun _ => true) held 22 v d p) :
    ∃ (A : Option Addr) (c : Nat) (l : List JOp), v = .slice A l.length c ∧ Ops w A l ∧ (∀ x ∈ l, JOpOk x) ∧ l.length ≤ 9223372036854775807 := by
  obtain ⟨a0, len0, cap0, rfl⟩ := okWide_slice Tryz.underlying22 hv
  obtain ⟨fuel, hf⟩ := h
  rcases open_slice Tryz.underlying22 hf with ⟨hcs, _⟩ | ⟨a, len, cap, m, n, D, Pl, hcs, _, hl, hm, hmm, _, hi⟩
  · simp [Value.cells] at hcs
    obtain ⟨rfl, rfl, rfl⟩ := hcs
    exact ⟨none, 0, [], rfl, (fun h => absurd h (by simp)), (fun x hx => nomatch hx), by simp⟩
  · simp [Value.cells] at hcs
    obtain ⟨rfl, rfl, rfl⟩ := hcs
    simp at hmm
    subst hmm
    rw [cellsOp] at hi
    obtain ⟨l, hll, hp⟩ := list_of (P := fun i (x : JOp) => ∃ (AK : Option Addr) (ck : Nat), JOpOk x ∧ (AK = none → ck = 0) ∧ JRow w AK x.kl ∧ ∀ j u, (opVals x AK ck)[j]? = some u → w.cell? ((a.add (i * 4)).add j) = some u) len0 (fun i hlt => by
        obtain ⟨cs', hc, ht⟩ := hi i (by omega)
        exact each_op hc ht)
    refine ⟨some a, m, l, by rw [hll], fun hn => ?_, fun x hx => ?_, by unfold maxLen at hm; omega⟩
    · obtain ⟨b, off, spot⟩ := a
      obtain ⟨_, _, _, _, _, hc0⟩ := hp 0 hn
      have h0 := hc0 0 _ rfl
      have hspot : spot = none := by simpa [Addr.add] using World.cell?_spot h0
      subst hspot
      refine ⟨b, off, rfl, ?_, fun j hj => ?_⟩
      · have := World.block_lt_of_cell? w _ h0
        rw [add_at, add_at] at this
        exact this
      · obtain ⟨AK, ck, _, zK, rK, hc⟩ := hp j hj
        refine ⟨AK, ck, zK, rK, fun q u hu => ?_⟩
        have := hc q u hu
        rw [add_at, add_at] at this
        exact this
    · obtain ⟨j, hj, rfl⟩ := List.getElem_of_mem hx
      obtain ⟨_, _, hok, _⟩ := hp j hj
      exact hok
end

/-! ### the listed tables -/
def laid3 : List (String × DataW Unit) := [("math/bits.deBruijn32tab", Rows.laid_math_bits_deBruijn32tab), ("math/bits.deBruijn64tab", Rows.laid_math_bits_deBruijn64tab), ("internal/strconv.uint64pow10", Rows.laid_internal_strconv_uint64pow10)]
theorem door_met (os : Os) (args : Array Value) : laidMetH Tryz.prog laid3 ((World.doorLaid Tryz.prog 400 os).forCall (fun _ _ => 0) ⟨#[], args, []⟩).memory :=
  laidMetH_of_parts3 (fuel := 8) (laidMet_of_run' 8 (by kernel_rfl) (by kernel_rfl)) (by kernel_rfl) (by kernel_rfl)
theorem tab_of_laid {w : World} (h : laidMetH Tryz.prog laid3 w) : W.Tab w := by
  rw [MakeChecks.laidMetH_plain _ _ _ (by kernel_rfl)] at h
  have h1 := laidMet.tail (laidMet.tail h)
  have hd : (Rows.laid_internal_strconv_uint64pow10 : DataW Unit) = Lib.tabData .u64 Lib.pow10Tab := rfl
  rw [hd] at h1
  exact Lib.tabIs_of_head (g := 0) (t := 125) (e := 110) (n := 20) (by kernel_rfl) (by kernel_rfl) Tryz.underlying125 Tryz.underlying110 (by kernel_rfl) (by kernel_rfl) h1

end Go.Proofs.YtbpkcgkcamkggaaGreatDoor
