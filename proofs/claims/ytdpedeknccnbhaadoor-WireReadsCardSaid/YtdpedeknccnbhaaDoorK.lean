/-
  From what is handed in to what the walks ask: slices of ints and of strings, a Value by value, the library's table; the start that meets the row's condition.
-/
import Derived.Test.YtdpedeknccnbhaaDoorI
import Derived.Test.YtdpedeknccnbhaaDoorRows
import Derived.Test.YtdpedeknccnbhaaDoorTie
import Derived.ProofKit
import Derived.LaidMore
import Derived.OpenShut
import Derived.Stop.Joined
import Derived.Stop.LaidErr
import Derived.Carry
import Derived.SliceStrings
import Derived.Lib.SmallJoins
import Derived.Lib.LaidTab
import Derived.ShutString
import Derived.ChangeOld
import Derived.SevenTiedAt
set_option linter.unusedVariables false
namespace Go.Proofs.YtdpedeknccnbhaaDoor
open Go.RowKit Go.ChangeShapes Go.WideShapes Go.ChangeAt Go.Joins Go.Deep

theorem own : ownKnob Tryd.prog.godebug = none := by kernel_rfl
theorem laidOut : laidOutB Tryd.prog = true := by kernel_rfl

section
variable {H : Type} {enc : TypeId × Value → H} {w : World} {held : Bool}

theorem add_at (b o i : Nat) : (⟨b, o, none⟩ : Addr).add i = ⟨b, o + i, none⟩ := by unfold Addr.add; split <;> simp_all

theorem row_of_cells {a : Addr} {len : Nat} {f : Nat → Value} (xs : List Value) (hl : xs.length = len) (hx : ∀ i (h : i < xs.length), w.cell? (a.add i) = some xs[i]) : Row w (some a) xs := fun hn => by
  obtain ⟨b, off, spot⟩ := a
  have h0 := hx 0 hn
  have hspot : spot = none := by simpa [Addr.add] using World.cell?_spot h0
  subst hspot
  refine ⟨b, off, rfl, ?_, fun j u hu => ?_⟩
  · have := World.block_lt_of_cell? w _ h0
    rw [add_at] at this
    exact this
  · obtain ⟨hj, rfl⟩ := List.getElem?_eq_some_iff.1 hu
    have := hx j hj
    rw [add_at] at this
    exact this

theorem open_introw {n : Nat} {v : Value} {y : DataW H × List MemPlace} (h : DataW.trod enc Tryd.prog w 0 (fun _ => true) held n 22 [v] = some y) :
    ∃ (A : Option Addr) (c : Nat) (l : List Int), v = .slice A l.length c ∧ Row w A (l.map (Value.int .i64)) ∧ (∀ x ∈ l, In64 x) ∧ l.length ≤ 9223372036854775807 := by
  rcases open_ints Tryd.underlying22 Tryd.underlying3 (by kernel_rfl) h with ⟨hcs, _⟩ | ⟨a, len, cap, zs, hcs, _, hl, hm, hz, _, hcell, hwz⟩
  · obtain rfl : v = .slice none 0 0 := by simpa using hcs
    exact ⟨none, 0, [], rfl, Row.nil, (fun x hx => nomatch hx), by simp⟩
  · obtain rfl : v = .slice (some a) len cap := by simpa using hcs
    simp at hz
    have hlen : (zs.take len).length = len := by simp; omega
    refine ⟨some a, cap, zs.take len, by rw [hlen], row_of_cells (f := fun _ => default) _ rfl (fun i hi => ?_), fun x hx => ?_, by unfold maxLen at hm; omega⟩
    · have hi2 : i < len := by simp at hi; omega
      have h1 := hcell i (by omega)
      rw [h1]
      have h3 : i < zs.length := by omega
      simp [List.getD, h3]
    · have := hwz x (List.mem_of_mem_take hx)
      exact bounds_i64 this
theorem open_strrow {n : Nat} {v : Value} {y : DataW H × List MemPlace} (h : DataW.trod enc Tryd.prog w 0 (fun _ => true) held n 23 [v] = some y) :
    ∃ (A : Option Addr) (c : Nat) (l : List ByteArray), v = .slice A l.length c ∧ Row w A (l.map Value.string) ∧ (∀ x ∈ l, x.size ≤ 9223372036854775807) ∧ l.length ≤ 9223372036854775807 := by
  rcases open_strings Tryd.underlying23 Tryd.underlying9 (by kernel_rfl) h with ⟨hcs, _⟩ | ⟨a, len, cap, ss, hcs, _, hl, hm, hz, _, hcell, hws⟩
  · obtain rfl : v = .slice none 0 0 := by simpa using hcs
    exact ⟨none, 0, [], rfl, Row.nil, (fun x hx => nomatch hx), by simp⟩
  · obtain rfl : v = .slice (some a) len cap := by simpa using hcs
    simp at hz
    have hlen : (ss.take len).length = len := by simp; omega
    refine ⟨some a, cap, ss.take len, by rw [hlen], row_of_cells (f := fun _ => default) _ rfl (fun i hi => ?_), fun x hx => ?_, by unfold maxLen at hm; omega⟩
    · have hi2 : i < len := by simp at hi; omega
      have h1 := hcell i (by omega)
      rw [h1]
      have h3 : i < ss.length := by omega
      simp [List.getD, h3]
    · have := hws x (List.mem_of_mem_take hx)
      unfold maxLen at this
      exact this

theorem open_agg5 {P : Program} {base : Nat} {spare : Nat → Bool} {r : Reach} {b0 : Nat} {t : TypeId} {f0 f1 f2 f3 f4 : Field} {v : Value} {d : DataW H} {p : List MemPlace} (hs : P.underlying t = some (.struct #[f0, f1, f2, f3, f4])) (hone : oneCellFields P #[f0, f1, f2, f3, f4] = true) (hC : P.cellsOf t = 5)
    (hv : Value.okWide P w r b0 t v) (h : DataW.Trod enc P w base spare held t v d p) :
    ∃ (v0 v1 v2 v3 v4 : Value) (y0 y1 y2 y3 y4 : DataW H × List MemPlace) (n : Nat), v = .agg #[v0, v1, v2, v3, v4] ∧
      DataW.trod enc P w base spare held n f0.type [v0] = some y0 ∧ DataW.trod enc P w base spare held n f1.type [v1] = some y1 ∧ DataW.trod enc P w base spare held n f2.type [v2] = some y2 ∧ DataW.trod enc P w base spare held n f3.type [v3] = some y3 ∧ DataW.trod enc P w base spare held n f4.type [v4] = some y4 := by
  obtain ⟨cs, rfl, hsz⟩ := okWide_struct hs hv
  obtain ⟨l⟩ := cs
  match l, hsz.trans hC with
  | [c0, c1, c2, c3, c4], _ =>
    obtain ⟨fuel, hf⟩ := h
    obtain ⟨xs, n, _, hx, _, hlen, hg⟩ := DataW.trod_struct hs hf
    obtain ⟨o0, k0⟩ := hone_of hone 0 f0 rfl
    obtain ⟨o1, k1⟩ := hone_of hone 1 f1 rfl
    obtain ⟨o2, k2⟩ := hone_of hone 2 f2 rfl
    obtain ⟨o3, k3⟩ := hone_of hone 3 f3 rfl
    obtain ⟨o4, k4⟩ := hone_of hone 4 f4 rfl
    match xs, hlen with
    | [y0, y1, y2, y3, y4], _ =>
      exact ⟨c0, c1, c2, c3, c4, y0, y1, y2, y3, y4, n, rfl, by simpa [Value.cells, o0, k0] using hg 0 f0 rfl, by simpa [Value.cells, o1, k1] using hg 1 f1 rfl, by simpa [Value.cells, o2, k2] using hg 2 f2 rfl, by simpa [Value.cells, o3, k3] using hg 3 f3 rfl, by simpa [Value.cells, o4, k4] using hg 4 f4 rfl⟩

/-- A Value by value. -/
theorem open_val {r : Reach} {b0 : Nat} {v : Value} {d : DataW H} {p : List MemPlace} (hv : Value.okWide Tryd.prog w r b0 25 v) (h : DataW.Trod enc Tryd.prog w 0 (fun _ => true) held 25 v d p) :
    ∃ (x : Val) (AL : Option Addr) (cL : Nat) (AT : Option Addr) (cT : Nat), v = .agg #[.int .i64 x.K, .int .i64 x.N, .string x.S, .slice AL x.L.length cL, .slice AT x.T.length cT] ∧
      VOk x ∧ Row w AL (x.L.map (Value.int .i64)) ∧ Row w AT (x.T.map Value.string) := by
  obtain ⟨v0, v1, v2, v3, v4, y0, y1, y2, y3, y4, n, rfl, h0, h1, h2, h3, h4⟩ := open_agg5 Tryd.underlying25 (by kernel_rfl) (by kernel_rfl) hv h
  obtain ⟨K, hK, _, wK⟩ := DataW.trod_int Tryd.underlying3 h0
  obtain ⟨N, hN, _, wN⟩ := DataW.trod_int Tryd.underlying3 h1
  obtain ⟨S, hS, _, wS⟩ := DataW.trod_string Tryd.underlying9 h2
  obtain ⟨AL, cL, L, rfl, rL, iL, lL⟩ := open_introw h3
  obtain ⟨AT, cT, T, rfl, rT, iT, lT⟩ := open_strrow h4
  obtain rfl : v0 = .int .i64 K := by simpa using hK
  obtain rfl : v1 = .int .i64 N := by simpa using hN
  obtain rfl : v2 = .string S := by simpa using hS
  exact ⟨⟨K, N, S, L, T⟩, AL, cL, AT, cT, rfl, ⟨bounds_i64 wK, bounds_i64 wN, by unfold maxLen at wS; exact wS, lL, lT, iL, iT⟩, rL, rT⟩
end

/-! ### the listed tables -/
def laid3 : List (String × DataW Unit) := [("math/bits.deBruijn32tab", Rows.laid_math_bits_deBruijn32tab), ("math/bits.deBruijn64tab", Rows.laid_math_bits_deBruijn64tab), ("internal/strconv.uint64pow10", Rows.laid_internal_strconv_uint64pow10)]
theorem door_met (os : Os) (args : Array Value) : laidMetH Tryd.prog laid3 ((World.doorLaid Tryd.prog 400 os).forCall (fun _ _ => 0) ⟨#[], args, []⟩).memory :=
  laidMetH_of_parts3 (fuel := 8) (laidMet_of_run' 8 (by kernel_rfl) (by kernel_rfl)) (by kernel_rfl) (by kernel_rfl)
theorem tab_of_laid {W : World} (h : laidMetH Tryd.prog laid3 W) : Tab W := by
  rw [MakeChecks.laidMetH_plain _ _ _ (by kernel_rfl)] at h
  have h1 := laidMet.tail (laidMet.tail h)
  have hd : (Rows.laid_internal_strconv_uint64pow10 : DataW Unit) = Lib.tabData .u64 Lib.pow10Tab := rfl
  rw [hd] at h1
  exact Lib.tabIs_of_head (g := 0) (t := 86) (e := 57) (n := 20) (by kernel_rfl) (by kernel_rfl) Tryd.underlying86 Tryd.underlying57 (by kernel_rfl) (by kernel_rfl) h1

end Go.Proofs.YtdpedeknccnbhaaDoor
