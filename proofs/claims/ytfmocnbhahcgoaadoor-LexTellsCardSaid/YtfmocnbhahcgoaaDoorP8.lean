/-
  Layer 14: a list of tokens that was handed in; the contract of the reference's Text.
-/
import Derived.Test.YtfmocnbhahcgoaaDoorN2
import Derived.Test.YtfmocnbhahcgoaaDoorP7
import Derived.Test.YtfmocnbhahcgoaaDoorN6
set_option linter.unusedVariables false
set_option maxRecDepth 100000
namespace Go.Proofs.YtfmocnbhahcgoaaDoor
open Go.RowKit Go.ChangeShapes Go.WideShapes Go.ChangeAt Go.Joins Go.Deep

theorem cellsToken : Tryd.prog.cellsOf 25 = 4 := by kernel_rfl
theorem list_of {α : Type} {P : Nat → α → Prop} : ∀ (n : Nat), (∀ i, i < n → ∃ x, P i x) → ∃ l : List α, l.length = n ∧ ∀ i (h : i < l.length), P i l[i]
  | 0, _ => ⟨[], rfl, fun i h => absurd h (by simp)⟩
  | n + 1, h => by
    obtain ⟨l, hl, hp⟩ := list_of n (fun i hi => h i (by omega))
    obtain ⟨x, hx⟩ := h n (by omega)
    refine ⟨l ++ [x], by simp [hl], fun i hi => ?_⟩
    by_cases e : i < l.length
    · rw [List.getElem_append_left e]; exact hp i e
    · simp only [List.length_append, List.length_cons, List.length_nil] at hi
      obtain rfl : i = n := by omega
      have : (l ++ [x])[i]'(by simp; omega) = x := by rw [List.getElem_append_right (by omega)]; simp [hl]
      rw [this]; exact hx
section
variable {H : Type} {enc : TypeId × Value → H} {w : World} {held : Bool}
theorem each_token {a : Addr} {n : Nat} {cs : List Value} {y : DataW H × List MemPlace} (hc : w.cells? 0 a 4 = some cs) (ht : DataW.trod enc Tryd.prog w 0 (fun _ => true) held n 25 cs = some y) :
    ∃ x : Tk, ∀ j u, (tkc x)[j]? = some u → w.cell? (a.add j) = some u := by
  obtain ⟨ys, n', _, _, hlen, hyl, hf⟩ := DataW.trod_struct Tryd.underlying25 ht
  obtain ⟨_, hcl, hat⟩ := World.cells?_some hc
  match cs, hcl, hat with
  | [c0, c1, c2, c3], _, hat =>
    have e3 : Tryd.prog.cellsOf 3 = 1 := by kernel_rfl
    have e9 : Tryd.prog.cellsOf 9 = 1 := by kernel_rfl
    match ys, hyl, hf with
    | [y0, y1, y2, y3], _, hf =>
      have h0 : DataW.trod enc Tryd.prog w 0 (fun _ => true) held n' 3 [c0] = some y0 := by have := hf 0 _ rfl; simpa [e3] using this
      have h1 : DataW.trod enc Tryd.prog w 0 (fun _ => true) held n' 9 [c1] = some y1 := by have := hf 1 _ rfl; simpa [e3, e9] using this
      have h2 : DataW.trod enc Tryd.prog w 0 (fun _ => true) held n' 3 [c2] = some y2 := by have := hf 2 _ rfl; simpa [e3, e9] using this
      have h3 : DataW.trod enc Tryd.prog w 0 (fun _ => true) held n' 3 [c3] = some y3 := by have := hf 3 _ rfl; simpa [e3, e9] using this
      obtain ⟨K, hK, _, wK⟩ := DataW.trod_int Tryd.underlying3 h0
      obtain ⟨S, hS, _, wS⟩ := DataW.trod_string Tryd.underlying9 h1
      obtain ⟨N, hN, _, wN⟩ := DataW.trod_int Tryd.underlying3 h2
      obtain ⟨Q, hQ, _, wQ⟩ := DataW.trod_int Tryd.underlying3 h3
      obtain rfl : c0 = .int .i64 K := by simpa using hK
      obtain rfl : c1 = .string S := by simpa using hS
      obtain rfl : c2 = .int .i64 N := by simpa using hN
      obtain rfl : c3 = .int .i64 Q := by simpa using hQ
      refine ⟨⟨K, S.data.toList, N, Q⟩, fun j u hu => ?_⟩
      have hj : j < 4 := by have := (List.getElem?_eq_some_iff.1 hu).1; simpa [tkc] using this
      rw [hat j hj]
      have e : tkc ⟨K, S.data.toList, N, Q⟩ = [.int .i64 K, .string S, .int .i64 N, .int .i64 Q] := by
        unfold tkc; rw [Lib.mk_data]
      rw [e] at hu; exact hu
theorem open_tokens {v : Value} {d : DataW H} {p : List MemPlace} {r : Reach} {b0 : Nat} (hv : Value.okWide Tryd.prog w r b0 22 v) (h : DataW.Trod enc Tryd.prog w 0 (fun _ => true) held 22 v d p) :
    ∃ (A : Option Addr) (c : Nat) (l : List Tk), v = .slice A l.length c ∧ TkRow w A l ∧ l.length ≤ 9223372036854775807 := by
  obtain ⟨a0, len0, cap0, rfl⟩ := okWide_slice Tryd.underlying22 hv
  obtain ⟨fuel, hf⟩ := h
  rcases open_slice Tryd.underlying22 hf with ⟨hcs, _⟩ | ⟨a, len, cap, m, n, D, Pl, hcs, _, hl, hm, hmm, _, hi⟩
  · simp [Value.cells] at hcs
    obtain ⟨rfl, rfl, rfl⟩ := hcs
    exact ⟨none, 0, [], rfl, TkRow.nil _ _, by simp⟩
  · simp [Value.cells] at hcs
    obtain ⟨rfl, rfl, rfl⟩ := hcs
    simp at hmm
    subst hmm
    rw [cellsToken] at hi
    obtain ⟨l, hll, hp⟩ := list_of (P := fun i (x : Tk) => ∀ j u, (tkc x)[j]? = some u → w.cell? ((a.add (i * 4)).add j) = some u) len0 (fun i hlt => by
        obtain ⟨cs', hc, ht⟩ := hi i (by omega)
        exact each_token hc ht)
    refine ⟨some a, m, l, by rw [hll], fun hn => ?_, by unfold maxLen at hm; omega⟩
    obtain ⟨b, off, spot⟩ := a
    have hc0 := hp 0 hn
    have h0 := hc0 0 _ rfl
    have hspot : spot = none := by simpa [Addr.add] using World.cell?_spot h0
    subst hspot
    have hadd : ∀ o i : Nat, (⟨b, o, none⟩ : Addr).add i = ⟨b, o + i, none⟩ := fun o i => by unfold Addr.add; split <;> simp_all
    refine ⟨b, off, rfl, ?_, fun j hj => ?_⟩
    · have := World.block_lt_of_cell? w _ h0
      rw [hadd, hadd] at this
      exact this
    · have hj := hp j hj
      have q0 := hj 0 _ rfl; have q1 := hj 1 _ rfl; have q2 := hj 2 _ rfl; have q3 := hj 3 _ rfl
      rw [hadd, hadd] at q0 q1 q2 q3
      exact ⟨q0, q1, q2, q3⟩
end
/-! ### Text -/
theorem tail_app (sep : List UInt8) (r : List (List UInt8)) (x : List UInt8) : Lib.joinTail sep (r ++ [x]) = Lib.joinTail sep r ++ sep ++ x := by simp [Lib.joinTail]
theorem join_snoc (l : List (List UInt8)) (x : List UInt8) : Lib.join (l ++ [x]) [32] = if l.isEmpty = true then x else Lib.join l [32] ++ [32] ++ x := by
  cases l with
  | nil => simp [Lib.join_one]
  | cons a r =>
    rw [List.cons_append, Lib.join_cons, Lib.join_cons, tail_app, List.isEmpty_cons, if_neg (by decide)]
    simp
theorem join_bound (L : List Tk) (h : ∀ x ∈ L, x.t.length ≤ 100) (hL : L.length ≤ 100) (k : Nat) : (Lib.join (txs (L.take k)) [32]).length ≤ 10100 := by
  have h1 := join_le (txs (L.take k))
  have h2 := txs_len (L.take k)
  have h3 := txs_lens (L.take k) 100 (fun x hx => h x (List.mem_of_mem_take hx))
  have h4 : (L.take k).length ≤ 100 := by rw [List.length_take]; omega
  omega
set_option maxHeartbeats 16000000 in
theorem rtext_any (A : Option Addr) (c : Nat) (L : List Tk) (w : World) (h : TkRow w A L) (hL : L.length ≤ 100) (ht : ∀ x ∈ L, x.t.length ≤ 100) :
    Calls Tryd.prog 19 #[.slice A L.length c] w (StrIs (textM L) w) := by
  have HR := Lib.hid h; clear h
  have HBD := Lib.hid (join_bound L ht hL)
  have HT := Lib.hid ht; clear ht
  go_enter Tryd.func19, Tryd.ntmps19
  go_wp2_with fail
  go_loopw [3, 4, 5] (fun sv bv i wr => ∃ (k : Nat) (u : ByteArray) (fb : Bool) (q : Nat), k ≤ L.length ∧ i = .int .i64 k ∧ .string u = sv ∧ .bool fb = bv ∧ Hid (u.data.toList = Lib.join (txs (L.take k)) [32] ∧ fb = (txs (L.take k)).isEmpty) ∧ wr = w.drewN q) (fun _ _ i _ => L.length - (intOf i).toNat)
  case atStart => exact ⟨0, _, _, 0, Nat.zero_le _, rfl, rfl, rfl, Lib.hid ⟨rfl, rfl⟩, rfl⟩
  case round =>
    obtain ⟨k, u, fb, q, hk, rfl, rfl, rfl, HU, rfl⟩ := hrel
    have hus : u.size ≤ 10100 := by rw [size_of HU.out.1]; exact HBD.out k
    by_cases hlt : k < L.length
    · obtain ⟨b, o, rfl, hb, hc⟩ := HR.out (by omega)
      obtain ⟨x0, x1, x2, x3⟩ := hc k hlt
      have n0 : (0 : Int) ≤ (k : Int) := by omega
      have n1 : (k : Int) < (L.length : Int) := by omega
      have HN := Lib.hid (txs_next L k hlt)
      have hxt := HT.out L[k] (List.getElem_mem hlt)
      have hxs : (⟨L[k].t.toArray⟩ : ByteArray).size ≤ 100 := by rw [size_of (mk_list _)]; exact hxt
      clear hc x2 x3
      generalize L[k] = x at *
      by_cases he : x.k = 3
      · have hee : (x.k == 3) = true := by rw [beq_iff_eq]; exact he
        have HX : Hid (u.data.toList = Lib.join (txs (L.take (k + 1))) [32] ∧ fb = (txs (L.take (k + 1))).isEmpty) := Lib.hid (by rw [HN.out, if_pos he, List.append_nil]; exact HU.out)
        clear HN HU hxt
        go_wp2_with fail
        go_roundw
        case rel => exact ⟨k + 1, _, _, _, by omega, by go_num, rfl, rfl, HX, rfl⟩
        case measure => simp [intOf]; omega
      · have hne : (x.k == 3) = false := by rw [beq_eq_false_iff_ne]; exact he
        have HJ : Hid (Lib.join (txs (L.take (k + 1))) [32] = (if fb = true then x.t else u.data.toList ++ [32] ++ x.t) ∧ false = (txs (L.take (k + 1))).isEmpty) := Lib.hid (by
          rw [HN.out, if_neg he, HU.out.1, HU.out.2]
          exact ⟨join_snoc _ _, by simp⟩)
        have HE0 : Hid (fb = true → u.data.toList = []) := Lib.hid (fun h => by
          have h2 := HU.out.2
          rw [h] at h2
          have h3 : txs (L.take k) = [] := List.isEmpty_iff.1 h2.symm
          rw [HU.out.1, h3]; rfl)
        have hxl : (⟨x.t.toArray⟩ : ByteArray).data.toList = x.t := rfl
        have HXL := Lib.hid hxl
        clear HN HU hxt hxl
        generalize (⟨x.t.toArray⟩ : ByteArray) = xt at *
        cases fb with
        | true =>
          have HX : Hid ((u ++ xt).data.toList = Lib.join (txs (L.take (k + 1))) [32] ∧ false = (txs (L.take (k + 1))).isEmpty) := Lib.hid (by
            refine ⟨?_, HJ.out.2⟩
            rw [HJ.out.1, if_pos rfl, app_list, HE0.out rfl, HXL.out]; rfl)
          have z1 : u.size + xt.size ≤ 1099511627776 := by omega
          clear HJ HXL HE0
          go_wp2_with fail
          go_roundw
          case rel => exact ⟨k + 1, _, _, _, by omega, by go_num, rfl, rfl, HX, rfl⟩
          case measure => simp [intOf]; omega
        | false =>
          have HX : Hid (((u ++ ⟨#[32]⟩) ++ xt).data.toList = Lib.join (txs (L.take (k + 1))) [32] ∧ false = (txs (L.take (k + 1))).isEmpty) := Lib.hid (by
            refine ⟨?_, HJ.out.2⟩
            rw [HJ.out.1, if_neg (by decide), app_list, app_list, HXL.out])
          have z1 : u.size + (⟨#[32]⟩ : ByteArray).size ≤ 1099511627776 := by show u.size + 1 ≤ _; omega
          have z2 : (u ++ ⟨#[32]⟩).size + xt.size ≤ 1099511627776 := by rw [app_size]; show u.size + 1 + _ ≤ _; omega
          clear HJ HXL HE0
          go_wp2_with fail
          go_roundw
          case rel => exact ⟨k + 1, _, _, _, by omega, by go_num, rfl, rfl, HX, rfl⟩
          case measure => simp [intOf]; omega
    · obtain rfl : k = L.length := by omega
      have HX : Hid (u.data.toList = textM L) := Lib.hid (by have := HU.out.1; rw [List.take_length] at this; exact this)
      clear HU
      go_wp2_with fail
      go_ret
      exact ⟨_, rfl, HX.out, below_drewN (Below.refl _ _) _⟩
end Go.Proofs.YtfmocnbhahcgoaaDoor
