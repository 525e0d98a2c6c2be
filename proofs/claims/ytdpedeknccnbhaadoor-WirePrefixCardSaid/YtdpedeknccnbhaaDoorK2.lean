/-
  From what is handed in to what the walks ask (2): a slice of Values.
-/
import Derived.Test.YtdpedeknccnbhaaDoorK
set_option linter.unusedVariables false
namespace Go.Proofs.YtdpedeknccnbhaaDoor
open Go.RowKit Go.ChangeShapes Go.WideShapes Go.ChangeAt Go.Joins Go.Deep

theorem list_of {α : Type} {P : Nat → α → Prop} : ∀ (n : Nat), (∀ i, i < n → ∃ x, P i x) → ∃ l : List α, l.length = n ∧ ∀ i (h : i < l.length), P i l[i]
  | 0, _ => ⟨[], rfl, fun i h => absurd h (by simp)⟩
  | n + 1, h => by
    obtain ⟨l, hl, hp⟩ := list_of n (fun i hi => h i (by omega))
    obtain ⟨x, hx⟩ := h n (by omega)
    refine ⟨l ++ [x], by simp [hl], fun i hi => ?_⟩
    by_cases e : i < l.length
    · rw [List.getElem_append_left e]; exact hp i e
    · simp only [List.length_append, List.length_cons, List.length_nil] at hi
      obtain rfl : i = n := by omega
      have : (l ++ [x])[i]'(by simp; omega) = x := by rw [List.getElem_append_right (by omega)]; simp [hl]
      rw [this]; exact hx

section
variable {H : Type} {enc : TypeId × Value → H} {w : World} {held : Bool}

theorem cells25 : Tryd.prog.cellsOf 25 = 5 := by kernel_rfl

theorem each_val {a : Addr} {n : Nat} {cs : List Value} {y : DataW H × List MemPlace} (hc : w.cells? 0 a 5 = some cs) (ht : DataW.trod enc Tryd.prog w 0 (fun _ => true) held n 25 cs = some y) :
    ∃ (x : Val) (AL : Option Addr) (cL : Nat) (AT : Option Addr) (cT : Nat), VOk x ∧ Row w AL (x.L.map (Value.int .i64)) ∧ Row w AT (x.T.map Value.string) ∧
      ∀ j u, [Value.int .i64 x.K, .int .i64 x.N, .string x.S, .slice AL x.L.length cL, .slice AT x.T.length cT][j]? = some u → w.cell? (a.add j) = some u := by
  obtain ⟨ys, n', _, _, hlen, hyl, hf⟩ := DataW.trod_struct Tryd.underlying25 ht
  obtain ⟨_, hcl, hat⟩ := World.cells?_some hc
  match cs, hcl, hat with
  | [c0, c1, c2, c3, c4], _, hat =>
    have e3 : Tryd.prog.cellsOf 3 = 1 := by kernel_rfl
    have e9 : Tryd.prog.cellsOf 9 = 1 := by kernel_rfl
    have e22 : Tryd.prog.cellsOf 22 = 1 := by kernel_rfl
    have e23 : Tryd.prog.cellsOf 23 = 1 := by kernel_rfl
    match ys, hyl, hf with
    | [y0, y1, y2, y3, y4], _, hf =>
      have h0 : DataW.trod enc Tryd.prog w 0 (fun _ => true) held n' 3 [c0] = some y0 := by have := hf 0 _ rfl; simpa [e3] using this
      have h1 : DataW.trod enc Tryd.prog w 0 (fun _ => true) held n' 3 [c1] = some y1 := by have := hf 1 _ rfl; simpa [e3] using this
      have h2 : DataW.trod enc Tryd.prog w 0 (fun _ => true) held n' 9 [c2] = some y2 := by have := hf 2 _ rfl; simpa [e9] using this
      have h3 : DataW.trod enc Tryd.prog w 0 (fun _ => true) held n' 22 [c3] = some y3 := by have := hf 3 _ rfl; simpa [e22] using this
      have h4 : DataW.trod enc Tryd.prog w 0 (fun _ => true) held n' 23 [c4] = some y4 := by have := hf 4 _ rfl; simpa [e23] using this
      obtain ⟨K, hK, _, wK⟩ := DataW.trod_int Tryd.underlying3 h0
      obtain ⟨N, hN, _, wN⟩ := DataW.trod_int Tryd.underlying3 h1
      obtain ⟨S, hS, _, wS⟩ := DataW.trod_string Tryd.underlying9 h2
      obtain ⟨AL, cL, L, rfl, rL, iL, lL⟩ := open_introw h3
      obtain ⟨AT, cT, T, rfl, rT, iT, lT⟩ := open_strrow h4
      obtain rfl : c0 = .int .i64 K := by simpa using hK
      obtain rfl : c1 = .int .i64 N := by simpa using hN
      obtain rfl : c2 = .string S := by simpa using hS
      refine ⟨⟨K, N, S, L, T⟩, AL, cL, AT, cT, ⟨bounds_i64 wK, bounds_i64 wN, by unfold maxLen at wS; exact wS, lL, lT, iL, iT⟩, rL, rT, fun j u hu => ?_⟩
      have hj : j < 5 := by have := (List.getElem?_eq_some_iff.1 hu).1; simpa using this
      rw [hat j hj]; exact hu

/-- A slice of Values that came in. -/
theorem open_vals {v : Value} {d : DataW H} {p : List MemPlace} {r : Reach} {b0 : Nat} (hv : Value.okWide Tryd.prog w r b0 28 v) (h : DataW.Trod enc Tryd.prog w 0 (fun _ => true) held 28 v d p) :
    ∃ (A : Option Addr) (c : Nat) (l : List Val), v = .slice A l.length c ∧ Vals w A l ∧ (∀ x ∈ l, VOk x) ∧ l.length ≤ 9223372036854775807 := by
  obtain ⟨a0, len0, cap0, rfl⟩ := okWide_slice Tryd.underlying28 hv
  obtain ⟨fuel, hf⟩ := h
  rcases open_slice Tryd.underlying28 hf with ⟨hcs, _⟩ | ⟨a, len, cap, m, n, D, Pl, hcs, _, hl, hm, hmm, _, hi⟩
  · simp [Value.cells] at hcs
    obtain ⟨rfl, rfl, rfl⟩ := hcs
    exact ⟨none, 0, [], rfl, (fun h => absurd h (by simp)), (fun x hx => nomatch hx), by simp⟩
  · simp [Value.cells] at hcs
    obtain ⟨rfl, rfl, rfl⟩ := hcs
    simp at hmm
    subst hmm
    rw [cells25] at hi
    obtain ⟨l, hll, hp⟩ := list_of (P := fun i (x : Val) => ∃ (AL : Option Addr) (cL : Nat) (AT : Option Addr) (cT : Nat), VOk x ∧ Row w AL (x.L.map (Value.int .i64)) ∧ Row w AT (x.T.map Value.string) ∧
      ∀ j u, [Value.int .i64 x.K, .int .i64 x.N, .string x.S, .slice AL x.L.length cL, .slice AT x.T.length cT][j]? = some u → w.cell? ((a.add (i * 5)).add j) = some u) len0 (fun i hlt => by
        obtain ⟨cs', hc, ht⟩ := hi i (by omega)
        exact each_val hc ht)
    refine ⟨some a, m, l, by rw [hll], fun hn => ?_, fun x hx => ?_, by unfold maxLen at hm; omega⟩
    · obtain ⟨b, off, spot⟩ := a
      obtain ⟨_, _, _, _, _, _, _, hc0⟩ := hp 0 hn
      have h0 := hc0 0 _ rfl
      have hspot : spot = none := by simpa [Addr.add] using World.cell?_spot h0
      subst hspot
      refine ⟨b, off, rfl, ?_, fun j hj => ?_⟩
      · have := World.block_lt_of_cell? w _ h0
        rw [add_at, add_at] at this
        exact this
      · obtain ⟨AL, cL, AT, cT, _, rL, rT, hc⟩ := hp j hj
        have hcc : ∀ q u, [Value.int .i64 l[j].K, .int .i64 l[j].N, .string l[j].S, .slice AL l[j].L.length cL, .slice AT l[j].T.length cT][q]? = some u → w.cell? ⟨b, off + j * 5 + q, none⟩ = some u := fun q u hu => by
          have := hc q u hu
          rw [add_at, add_at] at this
          exact this
        exact ⟨hcc 0 _ rfl, hcc 1 _ rfl, hcc 2 _ rfl, ⟨AL, cL, hcc 3 _ rfl, rL⟩, ⟨AT, cT, hcc 4 _ rfl, rT⟩⟩
    · obtain ⟨i, hi2, rfl⟩ := List.getElem_of_mem hx
      obtain ⟨_, _, _, _, hok, _⟩ := hp i hi2
      exact hok
end

end Go.Proofs.YtdpedeknccnbhaaDoor
