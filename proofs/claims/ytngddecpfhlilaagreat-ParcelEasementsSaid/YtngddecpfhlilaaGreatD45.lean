/-
  PROVED HERE: ParcelEasements: for every list of at most eight easements, lot, and two points: Respect says of the cube at the first point whether each easement of the lot that reaches over it is above the cube, of both cubes whether it says so of each, and the empty solid respects all; the law returns true and its arguments read as before.
  CONDITIONS: none: for every input that can be read.
-/
import Derived.Test.YtngddecpfhlilaaGreatD44
import Derived.Test.YtngddecpfhlilaaGreatD26
set_option linter.unusedVariables false
set_option maxRecDepth 100000
namespace Go.Proofs.YtngddecpfhlilaaGreat
open Go.RowKit Go.ChangeShapes Go.WideShapes Go.ChangeAt Go.Joins Go.Deep
theorem cellsP13 : Tryz.prog.cellsOf 61 = 3 := by kernel_rfl
theorem cellsEase : Tryz.prog.cellsOf 63 = 3 := by kernel_rfl
structure EsV where
 e : Es
 A : Option Addr
 c : Nat
def evc (x : EsV) : List Value := [.int .i64 x.e.lot, .slice x.A x.e.ar.length x.c, .int .i64 x.e.top]
def evS (L : List EsV) : List Es := L.map (·.e)
theorem evS_len (L : List EsV) : (evS L).length = L.length := by simp [evS]
section
variable {H : Type} {enc : TypeId × Value → H} {w : World} {held : Bool}
theorem open_p13 {v : Value} {d : DataW H} {p : List MemPlace} {r : Reach} {b0 : Nat} (hv : Value.okWide Tryz.prog w r b0 61 v) (h : DataW.Trod enc Tryz.prog w 0 (fun _ => true) held 61 v d p) :
  ∃ x y z : Int, v = .agg #[.int .i64 x, .int .i64 y, .int .i64 z] := by
 obtain ⟨v0, v1, v2, y0, y1, y2, n, rfl, _, _, h0, h1, h2⟩ := open_agg3 Tryz.underlying61 (by kernel_rfl) cellsP13 hv h
 obtain ⟨A, hA, _, wA⟩ := DataW.trod_int Tryz.underlying3 h0
 obtain ⟨B, hB, _, wB⟩ := DataW.trod_int Tryz.underlying3 h1
 obtain ⟨C, hC, _, wC⟩ := DataW.trod_int Tryz.underlying3 h2
 obtain rfl : v0 = .int .i64 A := by simpa using hA
 obtain rfl : v1 = .int .i64 B := by simpa using hB
 obtain rfl : v2 = .int .i64 C := by simpa using hC
 exact ⟨A, B, C, rfl⟩
theorem each_ease {a : Addr} {n : Nat} {cs : List Value} {y : DataW H × List MemPlace} (hc : w.cells? 0 a 3 = some cs) (ht : DataW.trod enc Tryz.prog w 0 (fun _ => true) held n 63 cs = some y) :
  ∃ x : EsV, (∀ j u, (evc x)[j]? = some u → w.cell? (a.add j) = some u) ∧ RRow w x.A x.e.ar ∧ x.e.ar.length ≤ x.c ∧ x.c ≤ 9223372036854775807 := by
 obtain ⟨ys, n', _, _, hlen, hyl, hf⟩ := DataW.trod_struct Tryz.underlying63 ht
 obtain ⟨_, hcl, hat⟩ := World.cells?_some hc
 match cs, hcl, hat with
 | [c0, c1, c2], _, hat =>
  have e3 : Tryz.prog.cellsOf 3 = 1 := by kernel_rfl
  match ys, hyl, hf with
  | [y0, y1, y2], _, hf =>
   have h0 : DataW.trod enc Tryz.prog w 0 (fun _ => true) held n' 3 [c0] = some y0 := by have := hf 0 _ rfl; simpa [e3, cellsRects9] using this
   have h1 : DataW.trod enc Tryz.prog w 0 (fun _ => true) held n' 30 [c1] = some y1 := by have := hf 1 _ rfl; simpa [e3, cellsRects9] using this
   have h2 : DataW.trod enc Tryz.prog w 0 (fun _ => true) held n' 3 [c2] = some y2 := by have := hf 2 _ rfl; simpa [e3, cellsRects9] using this
   obtain ⟨A, hA, _, _⟩ := DataW.trod_int Tryz.underlying3 h0
   obtain ⟨B, hB, _, _⟩ := DataW.trod_int Tryz.underlying3 h2
   obtain ⟨R, c, l, hR, hr1, hr2, hr3⟩ := open_row9 h1
   obtain rfl : c0 = .int .i64 A := by simpa using hA
   obtain rfl : c2 = .int .i64 B := by simpa using hB
   obtain rfl : c1 = .slice R l.length c := by simpa using hR
   refine ⟨⟨⟨A, l, B⟩, R, c⟩, fun j u hu => ?_, hr1, hr2, hr3⟩
   have hj : j < 3 := by have := (List.getElem?_eq_some_iff.1 hu).1; simpa [evc] using this
   rw [hat j hj]; exact hu
theorem open_eases {v : Value} {d : DataW H} {p : List MemPlace} {r : Reach} {b0 : Nat} (hv : Value.okWide Tryz.prog w r b0 59 v) (h : DataW.Trod enc Tryz.prog w 0 (fun _ => true) held 59 v d p) :
    ∃ (A : Option Addr) (c : Nat) (S : List Es), v = .slice A S.length c ∧ EsO w A c S := by
  obtain ⟨a0, len0, cap0, rfl⟩ := okWide_slice Tryz.underlying59 hv
  obtain ⟨fuel, hf⟩ := h
  rcases open_slice Tryz.underlying59 hf with ⟨hcs, _⟩ | ⟨a, len, cap, m, n, D, Pl, hcs, _, hl, hm, hmm, _, hi⟩
  · simp [Value.cells] at hcs
    obtain ⟨rfl, rfl, rfl⟩ := hcs
    exact ⟨none, 0, [], rfl, (fun h => absurd h (by simp)), by simp, by omega⟩
  · simp [Value.cells] at hcs
    obtain ⟨rfl, rfl, rfl⟩ := hcs
    simp at hmm
    subst hmm
    rw [cellsEase] at hi
    obtain ⟨l, hll, hp⟩ := list_of (P := fun i (x : EsV) => (∀ j u, (evc x)[j]? = some u → w.cell? ((a.add (i * 3)).add j) = some u) ∧ RRow w x.A x.e.ar ∧ x.e.ar.length ≤ x.c ∧ x.c ≤ 9223372036854775807) len0 (fun i hlt => by
        obtain ⟨cs', hc, ht⟩ := hi i (by omega)
        exact each_ease hc ht)
    refine ⟨some a, m, evS l, by rw [evS_len, hll], fun hn => ?_, by rw [evS_len]; omega, by unfold maxLen at hm; omega⟩
    rw [evS_len] at hn
    obtain ⟨b, off, spot⟩ := a
    have hc0 := (hp 0 hn).1
    have h0 := hc0 0 _ rfl
    have hspot : spot = none := by simpa [Addr.add] using World.cell?_spot h0
    subst hspot
    refine ⟨b, off, rfl, ?_, fun j hj => ?_⟩
    · have := World.block_lt_of_cell? w _ h0
      rw [add_at, add_at] at this
      exact this
    · rw [evS_len] at hj
      obtain ⟨hc, h1, h2, h3⟩ := hp j hj
      have hcc : ∀ q u, (evc l[j])[q]? = some u → w.cell? ⟨b, off + j * 3 + q, none⟩ = some u := fun q u hu => by
        have := hc q u hu
        rw [add_at, add_at] at this
        exact this
      have e : (evS l)[j]'(by rw [evS_len]; exact hj) = l[j].e := by simp [evS]
      rw [e]
      exact ⟨hcc 0 _ rfl, hcc 2 _ rfl, _, _, hcc 1 _ rfl, h1, h2, h3⟩
end
set_option maxRecDepth 100000 in
theorem parcelEasements_lifted (os : Os) (started : os.Started) (H : Type) (enc : TypeId × Value → H) :
  ReturnsInHanded {} Tryz.checked os 8 .any (Rows.parcelEasementsSpec.pre6 enc Tryz.prog Tryz.f8 Rows.parcelEasementsRow.domain false) (Rows.parcelEasementsSpec.post enc Tryz.prog Tryz.f8 false true false false) := by
 refine returnsInHanded_of_change (C := Tryz.checked) own started (by kernel_rfl) Tryz.func8
  (ChangeSpec.witness6 (enc := enc) (C := Tryz.checked) false ⟨#[], #[.slice none 0 0, .int .i64 0, .agg #[.int .i64 0, .int .i64 0, .int .i64 0], .agg #[.int .i64 0, .int .i64 0, .int .i64 0]], []⟩ 8 (by kernel_rfl) (by kernel_rfl) (by kernel_rfl) (by kernel_rfl)) ?_
 intro W base args ds gs before hval0 hW hcnd _
 have hval : ∀ (j : Nat) t v, Tryz.f8.params[j]? = some t → args[j]? = some v → Value.okWide Tryz.prog W .any base t v := hval0
 have hW' := hW
 obtain ⟨p, q, hA0, hV, rfl, hfz, hnd⟩ := hW
 have hA : DataW.TrodAll enc Tryz.prog W 0 (fun _ => true) true Tryz.f8.params.toList args.toList ds p := hA0
 rw [Tryz.params8] at hA hval
 obtain ⟨v0, vs0, d0, ds0, p0, q0, hargs, rfl, rfl, h0, r0⟩ := trodAll_cons hA
 obtain ⟨v1, vs1, d1, ds1, p1, q1, rfl, rfl, rfl, h1, r1⟩ := trodAll_cons r0
 obtain ⟨v2, vs2, d2, ds2, p2, q2, rfl, rfl, rfl, h2, r2⟩ := trodAll_cons r1
 obtain ⟨v3, vs3, d3, ds3, p3, q3, rfl, rfl, rfl, h3, r3⟩ := trodAll_cons r2
 obtain ⟨rfl, rfl, rfl⟩ := trodAll_nil r3
 obtain rfl : args = #[v0, v1, v2, v3] := by cases args; simp_all
 obtain ⟨rfl, rfl⟩ := trodVars_none hV
 have k0 := h0
 have lt0 : ∀ x ∈ p0, x.block < W.heap.size := by obtain ⟨m, hm⟩ := k0; exact DataW.trod_lt m _ _ _ hm
 have k1 := h1
 have lt1 : ∀ x ∈ p1, x.block < W.heap.size := by obtain ⟨m, hm⟩ := k1; exact DataW.trod_lt m _ _ _ hm
 have k2 := h2
 have lt2 : ∀ x ∈ p2, x.block < W.heap.size := by obtain ⟨m, hm⟩ := k2; exact DataW.trod_lt m _ _ _ hm
 have k3 := h3
 have lt3 : ∀ x ∈ p3, x.block < W.heap.size := by obtain ⟨m, hm⟩ := k3; exact DataW.trod_lt m _ _ _ hm
 obtain ⟨A0, c0, l0, rfl, hR0⟩ := open_eases (hval 0 59 v0 rfl rfl) h0
 obtain ⟨n1, rfl, _, _, w1⟩ := open_int Tryz.underlying3 (hval 1 3 v1 rfl rfl) h1
 obtain ⟨x2, y2, z2, rfl⟩ := open_p13 (hval 2 61 v2 rfl rfl) h2
 obtain ⟨x3, y3, z3, rfl⟩ := open_p13 (hval 3 61 v3 rfl rfl) h3
 clear hA0 hval0
 refine (easements_any A0 c0 l0 n1 x2 y2 z2 x3 y3 z3 W hR0).mono fun e W' ⟨he, bel⟩ => ?_
 subst he
 exact ⟨_, rfl, _, _, _, [], _, [], hW', trodAll_mk1 (shut_bool Tryz.underlying4 _), (trodAll_cons_mk (Below.trod laidOut (by kernel_rfl) (of_decide_eq_true (by kernel_rfl)) k0 bel lt0) (trodAll_cons_mk (Below.trod laidOut (by kernel_rfl) (of_decide_eq_true (by kernel_rfl)) k1 bel lt1) (trodAll_cons_mk (Below.trod laidOut (by kernel_rfl) (of_decide_eq_true (by kernel_rfl)) k2 bel lt2) (trodAll_cons_mk (Below.trod laidOut (by kernel_rfl) (of_decide_eq_true (by kernel_rfl)) k3 bel lt3) trodAll_mk0)))), rfl, bel.frame _, fun h => by cases h⟩
theorem parcelEasements_holds : Rows.ParcelEasementsSaid :=
 OpenClaim.holds_of_wide 8 Tryz.f8 rfl rfl rfl rfl rfl rfl rfl ⟨rfl, rfl, rfl, rfl, rfl⟩ rfl rfl rfl rfl rfl (by kernel_rfl) Tryz.func8 (by kernel_rfl)
  (of_decide_eq_true (by kernel_rfl)) (by unfold Func.isWrapper; first | (rw [if_pos (by decide +kernel)]; kernel_rfl) | (rw [if_neg (by decide +kernel)]; exact ⟨rfl, rfl⟩))
  (fun os started H enc _ => parcelEasements_lifted os started H enc)
#print axioms parcelEasements_holds
end Go.Proofs.YtngddecpfhlilaaGreat
