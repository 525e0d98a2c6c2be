/-
  The laws of layer 12: openings (a table, a point), few, the examples (small).
-/
import Derived.Test.YtdnoadngfkiabaaP941
import Derived.Test.YtdnoadngfkiabaaP921
set_option linter.unusedVariables false
set_option maxRecDepth 100000
namespace Go.Proofs.Ytdnoadngfkiabaa
open Go.RowKit Go.ChangeShapes Go.WideShapes Go.ChangeAt Go.Joins Go.Deep


theorem cellsP3 : Try.prog.cellsOf 25 = 3 := by kernel_rfl
section
variable {H : Type} {enc : TypeId × Value → H} {w : World} {held : Bool}
theorem open_p3 {v : Value} {d : DataW H} {p : List MemPlace} {r : Reach} {b0 : Nat} (hv : Value.okWide Try.prog w r b0 25 v) (h : DataW.Trod enc Try.prog w 0 (fun _ => true) held 25 v d p) :
    ∃ x : V3, v = .agg #[.int .i64 x.x, .int .i64 x.y, .int .i64 x.z] ∧ In64 x.x ∧ In64 x.y ∧ In64 x.z := by
  obtain ⟨v0, v1, v2, y0, y1, y2, n, rfl, _, _, h0, h1, h2⟩ := open_agg3 Try.underlying25 (by kernel_rfl) cellsP3 hv h
  obtain ⟨A, hA, _, wA⟩ := DataW.trod_int Try.underlying3 h0
  obtain ⟨B, hB, _, wB⟩ := DataW.trod_int Try.underlying3 h1
  obtain ⟨C, hC, _, wC⟩ := DataW.trod_int Try.underlying3 h2
  obtain rfl : v0 = .int .i64 A := by simpa using hA
  obtain rfl : v1 = .int .i64 B := by simpa using hB
  obtain rfl : v2 = .int .i64 C := by simpa using hC
  exact ⟨⟨A, B, C⟩, rfl, bounds_i64 wA, bounds_i64 wB, bounds_i64 wC⟩
def v3c (p : V3) : List Value := [.int .i64 p.x, .int .i64 p.y, .int .i64 p.z]
theorem each_p3 {a : Addr} {n : Nat} {cs : List Value} {y : DataW H × List MemPlace} (hc : w.cells? 0 a 3 = some cs) (ht : DataW.trod enc Try.prog w 0 (fun _ => true) held n 25 cs = some y) :
    ∃ x : V3, (In64 x.x ∧ In64 x.y ∧ In64 x.z) ∧ ∀ j u, (v3c x)[j]? = some u → w.cell? (a.add j) = some u := by
  obtain ⟨ys, n', _, _, hlen, hyl, hf⟩ := DataW.trod_struct Try.underlying25 ht
  obtain ⟨_, hcl, hat⟩ := World.cells?_some hc
  match cs, hcl, hat with
  | [c0, c1, c2], _, hat =>
    have e3 : Try.prog.cellsOf 3 = 1 := by kernel_rfl
    match ys, hyl, hf with
    | [y0, y1, y2], _, hf =>
      have h0 : DataW.trod enc Try.prog w 0 (fun _ => true) held n' 3 [c0] = some y0 := by have := hf 0 _ rfl; simpa [e3] using this
      have h1 : DataW.trod enc Try.prog w 0 (fun _ => true) held n' 3 [c1] = some y1 := by have := hf 1 _ rfl; simpa [e3] using this
      have h2 : DataW.trod enc Try.prog w 0 (fun _ => true) held n' 3 [c2] = some y2 := by have := hf 2 _ rfl; simpa [e3] using this
      obtain ⟨A, hA, _, wA⟩ := DataW.trod_int Try.underlying3 h0
      obtain ⟨B, hB, _, wB⟩ := DataW.trod_int Try.underlying3 h1
      obtain ⟨C, hC, _, wC⟩ := DataW.trod_int Try.underlying3 h2
      obtain rfl : c0 = .int .i64 A := by simpa using hA
      obtain rfl : c1 = .int .i64 B := by simpa using hB
      obtain rfl : c2 = .int .i64 C := by simpa using hC
      refine ⟨⟨A, B, C⟩, ⟨bounds_i64 wA, bounds_i64 wB, bounds_i64 wC⟩, fun j u hu => ?_⟩
      have hj : j < 3 := by have := (List.getElem?_eq_some_iff.1 hu).1; simpa [v3c] using this
      rw [hat j hj]; exact hu
/-- a table that was handed in. -/
structure TbIn (w : World) (A : Option Addr) (cap : Nat) (T : List V3) : Prop where
  row : TbRow w A T
  len : T.length ≤ 9223372036854775807
  room : T.length ≤ cap
  room2 : cap ≤ 9223372036854775807
  nums : ∀ d ∈ T, In64 d.x ∧ In64 d.y ∧ In64 d.z
theorem open_table {v : Value} {d : DataW H} {p : List MemPlace} {r : Reach} {b0 : Nat} (hv : Value.okWide Try.prog w r b0 22 v) (h : DataW.Trod enc Try.prog w 0 (fun _ => true) held 22 v d p) :
    ∃ (A : Option Addr) (c : Nat) (T : List V3), v = .slice A T.length c ∧ TbIn w A c T := by
  obtain ⟨a0, len0, cap0, rfl⟩ := okWide_slice Try.underlying22 hv
  obtain ⟨fuel, hf⟩ := h
  rcases open_slice Try.underlying22 hf with ⟨hcs, _⟩ | ⟨a, len, cap, m, n, D, Pl, hcs, _, hl, hm, hmm, _, hi⟩
  · simp [Value.cells] at hcs
    obtain ⟨rfl, rfl, rfl⟩ := hcs
    exact ⟨none, 0, [], rfl, TbRow.nil _ _, by simp, by simp, by omega, fun d hd => by cases hd⟩
  · simp [Value.cells] at hcs
    obtain ⟨rfl, rfl, rfl⟩ := hcs
    simp at hmm
    subst hmm
    rw [cellsP3] at hi
    obtain ⟨l, hll, hp⟩ := list_of (P := fun i (x : V3) => (In64 x.x ∧ In64 x.y ∧ In64 x.z) ∧ ∀ j u, (v3c x)[j]? = some u → w.cell? ((a.add (i * 3)).add j) = some u) len0 (fun i hlt => by
        obtain ⟨cs', hc, ht⟩ := hi i (by omega)
        exact each_p3 hc ht)
    refine ⟨some a, m, l, by rw [hll], ⟨fun hn => ?_, by unfold maxLen at hm; omega, by omega, by unfold maxLen at hm; omega, fun d hd => ?_⟩⟩
    · obtain ⟨b, off, spot⟩ := a
      have hc0 := (hp 0 hn).2
      have h0 := hc0 0 _ rfl
      have hspot : spot = none := by simpa [Addr.add] using World.cell?_spot h0
      subst hspot
      refine ⟨b, off, rfl, ?_, fun j hj => ?_⟩
      · have := World.block_lt_of_cell? w _ h0
        rw [add_at, add_at] at this
        exact this
      · obtain ⟨_, hc⟩ := hp j hj
        have hcc : ∀ q u, (v3c l[j])[q]? = some u → w.cell? ⟨b, off + j * 3 + q, none⟩ = some u := fun q u hu => by
          have := hc q u hu
          rw [add_at, add_at] at this
          exact this
        exact ⟨hcc 0 _ rfl, hcc 1 _ rfl, hcc 2 _ rfl⟩
    · obtain ⟨i, hi2, rfl⟩ := List.getElem_of_mem hd
      exact (hp i hi2).1
end

/-! ### few -/
/-! ### the examples -/
def T12 : List V3 := [⟨1, 0, 1⟩, ⟨0, 0, 1⟩, ⟨-1, 0, 1⟩]
def B12 : List Bx := [⟨⟨2, 0, 3, 1⟩, 0, 3⟩]
def S12 : List Sl := [⟨0, 3, [⟨2, 0, 3, 1⟩]⟩]
def decSl12 : DecidableEq Sl := fun a b => decidable_of_iff (a.z0 = b.z0 ∧ a.z1 = b.z1 ∧ a.ar = b.ar) ⟨fun h => Sl.eq h.1 h.2.1 h.2.2, fun h => by subst h; exact ⟨rfl, rfl, rfl⟩⟩
theorem sol12 : solB B12 = S12 := by
  have := @of_decide_eq_true (solB B12 = S12) (@List.hasDecEq _ decSl12 _ _) (by decide +kernel)
  exact this
theorem solP12 : SolP S12 := by rw [← sol12]; exact solB_small (by decide) (by decide)
theorem tab12 : TabOk T12 := by decide
theorem ry12 (p d : V3) : ryB S12 p d = (decide (PtOk p) && (decide (DiOk d) && meetB iRay p d (boxesS S12))) := by unfold ryB; rw [solPB_yes solP12, Bool.true_and]
theorem fr12 (p : V3) : frB S12 p T12 = T12.map (fun d => !(decide (PtOk p) && (decide (DiOk d) && meetB iRay p d (boxesS S12)))) := by
  unfold frB
  exact List.map_congr_left (fun d _ => by rw [ry12])
theorem msk12 (p : V3) (hp : PtOk p) (n : Nat) (h : mskN (T12.map (fun d => !(decide (PtOk p) && (decide (DiOk d) && meetB iRay p d (boxesS S12))))) = n) : mskI T12 S12 p = n := by
  rw [mskI_yes tab12 hp solP12, fr12, h]
theorem ex12_0 : mskI T12 S12 ⟨0, 0, 0⟩ = 6 := msk12 _ (by decide) 6 (by decide +kernel)
theorem ex12_1 : mskI T12 S12 ⟨4, 0, 0⟩ = 3 := msk12 _ (by decide) 3 (by decide +kernel)
theorem ex12_2 : mskI T12 S12 ⟨2, 0, 1⟩ = 4 := msk12 _ (by decide) 4 (by decide +kernel)
theorem ex12_3 : mskI T12 S12 ⟨2, 0, 3⟩ = 7 := msk12 _ (by decide) 7 (by decide +kernel)
theorem ex12_h : cntI (mskI T12 S12 ⟨0, 0, 0⟩) = 2 := by rw [ex12_0]; decide +kernel
theorem ex12_5 : cntI 5 = 2 := by decide +kernel
theorem ex12_m : mofI T12 [S12, []] ⟨0, 0, 0⟩ = 6 := by
  have h : frL [S12, []] ⟨0, 0, 0⟩ T12 = frB S12 ⟨0, 0, 0⟩ T12 := by
    rw [frL_all]
    unfold frB
    refine List.map_congr_left (fun d _ => ?_)
    simp only [List.all_cons, List.all_nil, ry_nil, Bool.not_false, Bool.and_true]
  have e := ex12_0
  rw [mskI_yes tab12 (by decide) solP12] at e
  have k : mofI T12 [S12, []] ⟨0, 0, 0⟩ = ((mskN (frL [S12, []] ⟨0, 0, 0⟩ T12) : Nat) : Int) := if_pos ⟨tab12, by decide, fun S hS => by
    rcases List.mem_cons.1 hS with rfl | hS
    · exact solP12
    · rw [List.mem_singleton] at hS; subst hS; exact solP_nil⟩
  rw [k, h, e]
theorem ex12_n : mofI T12 [] ⟨0, 0, 0⟩ = 7 := by
  have k : mofI T12 [] ⟨0, 0, 0⟩ = ((mskN (frL [] ⟨0, 0, 0⟩ T12) : Nat) : Int) := if_pos ⟨tab12, by decide, fun S hS => by cases hS⟩
  rw [k]
  unfold frL
  rw [List.foldl_nil, sfr_nil]
  decide
theorem ex12_l : lostI T12 [] S12 ⟨0, 0, 0⟩ = 1 := by
  have k : lostI T12 [] S12 ⟨0, 0, 0⟩ = ((mskN (minus2 (frB [] ⟨0, 0, 0⟩ T12) (frB S12 ⟨0, 0, 0⟩ T12)) : Nat) : Int) := if_pos ⟨tab12, by decide, solP_nil, solP12⟩
  rw [k, sfr_nil, fr12]
  decide +kernel
theorem ex12_r : decide (TabOk [⟨1, 0, 0⟩]) = false := by decide
theorem ex12_z : mskI [⟨1, 0, 0⟩] [] ⟨0, 0, 0⟩ = 0 := mskI_nt (by decide)
theorem ex12_y : mskI T12 [] ⟨-1, 0, 0⟩ = 0 := mskI_np (by decide)
/-- the example's memory: table, rectangle, solid, point. -/
def M12 (w : World) : World := (((w.alloc (.cells #[.int .i64 1, .int .i64 0, .int .i64 1, .int .i64 0, .int .i64 0, .int .i64 1, .int .i64 (-1), .int .i64 0, .int .i64 1] 25)).alloc (.cells #[.int .i64 2, .int .i64 0, .int .i64 3, .int .i64 1] 43)).alloc (.cells #[.int .i64 0, .int .i64 3, .slice (some ⟨w.heap.size + 1, 0, none⟩) 1 1] 50)).alloc (.cells #[.int .i64 0, .int .i64 0, .int .i64 0] 25)
structure K12 (gt gs gz : Nat) (w0 w : World) : Prop where
  tab : TbRow w (some ⟨gt, 0, none⟩) T12
  sol : SIn w (some ⟨gs, 0, none⟩) 1 S12
  pt : P3At w gz ⟨0, 0, 0⟩
  bel : Below w0.heap.size w0 w
theorem K12.go {gt gs gz : Nat} {w0 w w' : World} (h : K12 gt gs gz w0 w) (hb : Below w.heap.size w w') : K12 gt gs gz w0 w' := ⟨h.tab.below hb, h.sol.below hb, h.pt.go hb, h.bel.trans (hb.mono h.bel.size)⟩
theorem heap4 (w : World) (a b c d : Obj) : ((((w.alloc a).alloc b).alloc c).alloc d).heap[w.heap.size]? = some a ∧ ((((w.alloc a).alloc b).alloc c).alloc d).heap[w.heap.size + 1]? = some b ∧ ((((w.alloc a).alloc b).alloc c).alloc d).heap[w.heap.size + 1 + 1]? = some c ∧ ((((w.alloc a).alloc b).alloc c).alloc d).heap[w.heap.size + 1 + 1 + 1]? = some d := by
  obtain ⟨h0, h1, h2⟩ := heap3 w a b c
  have s3 : (((w.alloc a).alloc b).alloc c).heap.size = w.heap.size + 1 + 1 + 1 := by simp
  have k3 : Below (((w.alloc a).alloc b).alloc c).heap.size (((w.alloc a).alloc b).alloc c) ((((w.alloc a).alloc b).alloc c).alloc d) := (Below.refl _ _).alloc (Nat.le_refl _) _
  have h3 := heap_alloc_new (((w.alloc a).alloc b).alloc c) d
  rw [s3] at h3
  exact ⟨(k3.block _ (by rw [s3]; omega)).trans h0, (k3.block _ (by rw [s3]; omega)).trans h1, (k3.block _ (by rw [s3]; omega)).trans h2, h3⟩
theorem tab_of {w : World} {g : Nat} (h : w.heap[g]? = some (.cells #[.int .i64 1, .int .i64 0, .int .i64 1, .int .i64 0, .int .i64 0, .int .i64 1, .int .i64 (-1), .int .i64 0, .int .i64 1] 25 (0, 0))) : TbRow w (some ⟨g, 0, none⟩) T12 := fun _ => by
  refine ⟨g, 0, rfl, (Array.getElem?_eq_some_iff.1 h).1, fun j hj => ?_⟩
  have : j = 0 ∨ j = 1 ∨ j = 2 := by simp [T12] at hj; omega
  rcases this with rfl | rfl | rfl <;> refine ⟨?_, ?_, ?_⟩ <;> (rw [Lib.cell_of_heap h]; rfl)
theorem K12.new (w : World) : K12 w.heap.size (w.heap.size + 1 + 1) (w.heap.size + 1 + 1 + 1) w (M12 w) := by
  obtain ⟨h0, h1, h2, h3⟩ := heap4 w (.cells #[.int .i64 1, .int .i64 0, .int .i64 1, .int .i64 0, .int .i64 0, .int .i64 1, .int .i64 (-1), .int .i64 0, .int .i64 1] 25) (.cells #[.int .i64 2, .int .i64 0, .int .i64 3, .int .i64 1] 43) (.cells #[.int .i64 0, .int .i64 3, .slice (some ⟨w.heap.size + 1, 0, none⟩) 1 1] 50) (.cells #[.int .i64 0, .int .i64 0, .int .i64 0] 25)
  refine ⟨tab_of h0, ?_, h3, ?_⟩
  · refine ⟨fun _ => ⟨_, 0, rfl, (Array.getElem?_eq_some_iff.1 h2).1, fun j hj => ?_⟩, by decide, by decide, by decide⟩
    obtain rfl : j = 0 := by simp [S12] at hj; omega
    refine ⟨by unfold M12; rw [Lib.cell_of_heap h2]; rfl, by unfold M12; rw [Lib.cell_of_heap h2]; rfl, some ⟨w.heap.size + 1, 0, none⟩, 1, by unfold M12; rw [Lib.cell_of_heap h2]; rfl, ?_⟩
    refine ⟨fun _ => ⟨_, 0, rfl, (Array.getElem?_eq_some_iff.1 h1).1, fun i hi => ?_⟩, by simp [S12], by simp [S12], by decide⟩
    obtain rfl : i = 0 := by simp [S12] at hi; omega
    refine ⟨?_, ?_, ?_, ?_⟩ <;> (unfold M12; rw [Lib.cell_of_heap h1]; rfl)
  · unfold M12
    exact ((((Below.refl _ _).alloc (Nat.le_refl _) _).alloc (by simp) _).alloc (by simp; omega) _).alloc (by simp; omega) _
theorem ssrow_ex {w : World} {b gs : Nat} (h : w.heap[b]? = some (.cells #[.slice (some ⟨gs, 0, none⟩) 1 1, .slice none 0 0] 23 (0, 0))) (hs : SIn w (some ⟨gs, 0, none⟩) 1 S12) : SsRow w (some ⟨b, 0, none⟩) [S12, []] := fun _ => by
  refine ⟨b, 0, rfl, (Array.getElem?_eq_some_iff.1 h).1, fun j hj => ?_⟩
  have : j = 0 ∨ j = 1 := by simp at hj; omega
  rcases this with rfl | rfl
  · exact ⟨_, 1, by rw [Lib.cell_of_heap h]; rfl, hs⟩
  · exact ⟨none, 0, by rw [Lib.cell_of_heap h]; rfl, SIn.nil w⟩
theorem tab_one {w : World} {g : Nat} (h : w.heap[g]? = some (.cells #[.int .i64 1, .int .i64 0, .int .i64 0] 25 (0, 0))) : TbRow w (some ⟨g, 0, none⟩) [⟨1, 0, 0⟩] := fun _ => by
  refine ⟨g, 0, rfl, (Array.getElem?_eq_some_iff.1 h).1, fun j hj => ?_⟩
  obtain rfl : j = 0 := by simp at hj; omega
  refine ⟨?_, ?_, ?_⟩ <;> (rw [Lib.cell_of_heap h]; rfl)

set_option maxHeartbeats 16000000 in
theorem ismall_any (w : World) : Calls Try.prog 7 #[] w (BlIs true w) := by
  have E0 := Lib.hid (K12.new w)
  obtain ⟨w0, hw0⟩ : ∃ w0, w0 = M12 w := ⟨_, rfl⟩
  rw [← hw0] at E0
  unfold M12 at hw0
  go_enter Try.func7, Try.ntmps7
  go_upto_region 4 with fail
  rw [← hw0]
  clear hw0
  generalize w.heap.size + 1 + 1 + 1 = gz at *
  generalize w.heap.size + 1 + 1 = gs at *
  generalize w.heap.size + 1 = gr at *
  obtain ⟨gt, hgt⟩ : ∃ gt, gt = w.heap.size := ⟨_, rfl⟩
  have E0 : Hid (K12 gt gs gz w w0) := by rw [hgt]; exact E0
  simp only [← hgt]
  clear hgt
  have C0 : Hid (∀ w', K12 gt gs gz w w' → Calls Try.prog 11 #[(.slice (some ⟨gt, 0, none⟩) 3 3), (.slice (some ⟨gs, 0, none⟩) 1 1), .agg #[.int .i64 0, .int .i64 0, .int .i64 0]] w' (InIs 6 w')) := Lib.hid (fun w' h => by rw [← ex12_0]; exact g2mask_any _ 3 T12 _ 1 S12 ⟨0, 0, 0⟩ w' h.tab (by decide) h.sol)
  have C1 : Hid (∀ w', K12 gt gs gz w w' → Calls Try.prog 13 #[(.slice (some ⟨gt, 0, none⟩) 3 3), (.slice (some ⟨gs, 0, none⟩) 1 1), .agg #[.int .i64 0, .int .i64 0, .int .i64 0]] w' (InIs 2 w')) := Lib.hid (fun w' h => by rw [← ex12_h]; exact g2hours_any _ 3 T12 _ 1 S12 ⟨0, 0, 0⟩ w' h.tab (by decide) h.sol)
  have C2 : Hid (∀ w', K12 gt gs gz w w' → Calls Try.prog 11 #[(.slice (some ⟨gt, 0, none⟩) 3 3), (.slice (some ⟨gs, 0, none⟩) 1 1), .agg #[.int .i64 4, .int .i64 0, .int .i64 0]] w' (InIs 3 w')) := Lib.hid (fun w' h => by rw [← ex12_1]; exact g2mask_any _ 3 T12 _ 1 S12 ⟨4, 0, 0⟩ w' h.tab (by decide) h.sol)
  have C3 : Hid (∀ w', K12 gt gs gz w w' → Calls Try.prog 11 #[(.slice (some ⟨gt, 0, none⟩) 3 3), (.slice (some ⟨gs, 0, none⟩) 1 1), .agg #[.int .i64 2, .int .i64 0, .int .i64 1]] w' (InIs 4 w')) := Lib.hid (fun w' h => by rw [← ex12_2]; exact g2mask_any _ 3 T12 _ 1 S12 ⟨2, 0, 1⟩ w' h.tab (by decide) h.sol)
  have C4 : Hid (∀ w', K12 gt gs gz w w' → Calls Try.prog 11 #[(.slice (some ⟨gt, 0, none⟩) 3 3), (.slice (some ⟨gs, 0, none⟩) 1 1), .agg #[.int .i64 2, .int .i64 0, .int .i64 3]] w' (InIs 7 w')) := Lib.hid (fun w' h => by rw [← ex12_3]; exact g2mask_any _ 3 T12 _ 1 S12 ⟨2, 0, 3⟩ w' h.tab (by decide) h.sol)
  have C5 : Hid (∀ w', K12 gt gs gz w w' → ∀ b, w'.heap[b]? = some (.cells #[.slice (some ⟨gs, 0, none⟩) 1 1, .slice none 0 0] 23 (0, 0)) → Calls Try.prog 15 #[(.slice (some ⟨gt, 0, none⟩) 3 3), .slice (some ⟨b, 0, none⟩) 2 2, .agg #[.int .i64 0, .int .i64 0, .int .i64 0]] w' (InIs 6 w')) := Lib.hid (fun w' h b hg => by rw [← ex12_m]; exact g2maskOf_any _ 3 T12 _ 2 [S12, []] ⟨0, 0, 0⟩ w' h.tab (by decide) (ssrow_ex hg h.sol) (by decide))
  have C6 : Hid (∀ w', K12 gt gs gz w w' → Calls Try.prog 15 #[(.slice (some ⟨gt, 0, none⟩) 3 3), .slice none 0 0, .agg #[.int .i64 0, .int .i64 0, .int .i64 0]] w' (InIs 7 w')) := Lib.hid (fun w' h => by rw [← ex12_n]; exact g2maskOf_any _ 3 T12 none 0 [] ⟨0, 0, 0⟩ w' h.tab (by decide) (SsRow.nil _ _) (by decide))
  have C7 : Hid (∀ w', K12 gt gs gz w w' → Calls Try.prog 17 #[(.slice (some ⟨gt, 0, none⟩) 3 3), .slice none 0 0, (.slice (some ⟨gs, 0, none⟩) 1 1), .agg #[.int .i64 0, .int .i64 0, .int .i64 0]] w' (InIs 1 w')) := Lib.hid (fun w' h => by rw [← ex12_l]; exact g2lost_any _ 3 T12 none 0 [] _ 1 S12 ⟨0, 0, 0⟩ w' h.tab (by decide) (SIn.nil w') h.sol)
  have C8 : Hid (∀ w', K12 gt gs gz w w' → Calls Try.prog 9 #[(.slice (some ⟨gt, 0, none⟩) 3 3)] w' (BlIs true w')) := Lib.hid (fun w' h => by rw [← decide_eq_true tab12]; exact g2right_any _ 3 T12 w' h.tab (by decide))
  have C9 : Hid (∀ w', K12 gt gs gz w w' → ∀ b, w'.heap[b]? = some (.cells #[.int .i64 1, .int .i64 0, .int .i64 0] 25 (0, 0)) → Calls Try.prog 9 #[.slice (some ⟨b, 0, none⟩) 1 1] w' (BlIs false w')) := Lib.hid (fun w' h b hg => by rw [← ex12_r]; exact g2right_any _ 1 [⟨1, 0, 0⟩] w' (tab_one hg) (by decide))
  have CA : Hid (∀ w', K12 gt gs gz w w' → Calls Try.prog 19 #[.int .i64 5] w' (InIs 2 w')) := Lib.hid (fun w' h => by rw [← ex12_5]; exact g2count_any 5 w')
  have CB : Hid (∀ w', K12 gt gs gz w w' → ∀ b, w'.heap[b]? = some (.cells #[.int .i64 1, .int .i64 0, .int .i64 0] 25 (0, 0)) → Calls Try.prog 11 #[.slice (some ⟨b, 0, none⟩) 1 1, .slice none 0 0, .agg #[.int .i64 0, .int .i64 0, .int .i64 0]] w' (InIs 0 w')) := Lib.hid (fun w' h b hg => by rw [← ex12_z]; exact g2mask_any _ 1 [⟨1, 0, 0⟩] none 0 [] ⟨0, 0, 0⟩ w' (tab_one hg) (by decide) (SIn.nil w'))
  have CC : Hid (∀ w', K12 gt gs gz w w' → Calls Try.prog 11 #[(.slice (some ⟨gt, 0, none⟩) 3 3), .slice none 0 0, .agg #[.int .i64 (-1), .int .i64 0, .int .i64 0]] w' (InIs 0 w')) := Lib.hid (fun w' h => by rw [← ex12_y]; exact g2mask_any _ 3 T12 none 0 [] ⟨-1, 0, 0⟩ w' h.tab (by decide) (SIn.nil w'))
  have z0 := E0.out.pt.c0; have z1 := E0.out.pt.c1; have z2 := E0.out.pt.c2; have zl := E0.out.pt.lt
  simp only at z0 z1 z2
  go_wp2_with fail
  with_reducible refine Calls.mono (C0.out _ E0.out) ?_
  rintro e w1 ⟨rfl, hb⟩
  have E1 := Lib.hid (E0.out.go hb)
  clear hb E0 C0 z0 z1 z2 zl
  have z0 := E1.out.pt.c0; have z1 := E1.out.pt.c1; have z2 := E1.out.pt.c2; have zl := E1.out.pt.lt
  simp only at z0 z1 z2
  go_wp2_with fail
  with_reducible refine Calls.mono (C1.out _ E1.out) ?_
  rintro e w2 ⟨rfl, hb⟩
  have E2 := Lib.hid (E1.out.go hb)
  clear hb E1 C1 z0 z1 z2 zl
  have z0 := E2.out.pt.c0; have z1 := E2.out.pt.c1; have z2 := E2.out.pt.c2; have zl := E2.out.pt.lt
  simp only at z0 z1 z2
  go_wp2_with fail
  with_reducible refine Calls.mono (C2.out _ E2.out) ?_
  rintro e w3 ⟨rfl, hb⟩
  have E3 := Lib.hid (E2.out.go hb)
  clear hb E2 C2 z0 z1 z2 zl
  have z0 := E3.out.pt.c0; have z1 := E3.out.pt.c1; have z2 := E3.out.pt.c2; have zl := E3.out.pt.lt
  simp only at z0 z1 z2
  go_wp2_with fail
  with_reducible refine Calls.mono (C3.out _ E3.out) ?_
  rintro e w4 ⟨rfl, hb⟩
  have E4 := Lib.hid (E3.out.go hb)
  clear hb E3 C3 z0 z1 z2 zl
  have z0 := E4.out.pt.c0; have z1 := E4.out.pt.c1; have z2 := E4.out.pt.c2; have zl := E4.out.pt.lt
  simp only at z0 z1 z2
  go_wp2_with fail
  with_reducible refine Calls.mono (C4.out _ E4.out) ?_
  rintro e w5 ⟨rfl, hb⟩
  have E5 := Lib.hid (E4.out.go hb)
  clear hb E4 C4 z0 z1 z2 zl
  go_upto_region 5 with fail
  obtain ⟨v5, hv5⟩ : ∃ v5, v5 = w5.alloc (.cells #[.slice (some ⟨gs, 0, none⟩) 1 1, .slice none 0 0] 23) := ⟨_, rfl⟩
  have hb : Below w5.heap.size w5 v5 := by rw [hv5]; exact (Below.refl _ _).alloc (Nat.le_refl _) _
  have hg : v5.heap[w5.heap.size]? = some (.cells #[.slice (some ⟨gs, 0, none⟩) 1 1, .slice none 0 0] 23 (0, 0)) := by rw [hv5]; exact heap_alloc_new w5 _
  have EV := Lib.hid (E5.out.go hb)
  have HCC := Lib.hid (C5.out _ EV.out _ hg)
  have z0 := EV.out.pt.c0; have z1 := EV.out.pt.c1; have z2 := EV.out.pt.c2; have zl := EV.out.pt.lt
  simp only at z0 z1 z2
  have y0 := E5.out.pt.c0; have y1 := E5.out.pt.c1; have y2 := E5.out.pt.c2; have yl := E5.out.pt.lt
  simp only at y0 y1 y2
  rw [hv5] at z0 z1 z2 zl
  have HV := Lib.hid hv5
  clear hv5 hb hg E5 C5
  go_wp2_with fail
  rw [← HV.out]
  with_reducible refine Calls.mono HCC.out ?_
  rintro e w6 ⟨rfl, hb⟩
  have E6 := Lib.hid (EV.out.go hb)
  clear hb EV HCC HV z0 z1 z2 zl y0 y1 y2 yl
  have z0 := E6.out.pt.c0; have z1 := E6.out.pt.c1; have z2 := E6.out.pt.c2; have zl := E6.out.pt.lt
  simp only at z0 z1 z2
  go_wp2_with fail
  with_reducible refine Calls.mono (C6.out _ E6.out) ?_
  rintro e w7 ⟨rfl, hb⟩
  have E7 := Lib.hid (E6.out.go hb)
  clear hb E6 C6 z0 z1 z2 zl
  have z0 := E7.out.pt.c0; have z1 := E7.out.pt.c1; have z2 := E7.out.pt.c2; have zl := E7.out.pt.lt
  simp only at z0 z1 z2
  go_wp2_with fail
  with_reducible refine Calls.mono (C7.out _ E7.out) ?_
  rintro e w8 ⟨rfl, hb⟩
  have E8 := Lib.hid (E7.out.go hb)
  clear hb E7 C7 z0 z1 z2 zl
  have z0 := E8.out.pt.c0; have z1 := E8.out.pt.c1; have z2 := E8.out.pt.c2; have zl := E8.out.pt.lt
  simp only at z0 z1 z2
  go_wp2_with fail
  with_reducible refine Calls.mono (C8.out _ E8.out) ?_
  rintro e w9 ⟨rfl, hb⟩
  have E9 := Lib.hid (E8.out.go hb)
  clear hb E8 C8 z0 z1 z2 zl
  obtain ⟨v9, hv9⟩ : ∃ v9, v9 = w9.alloc (.cells #[.int .i64 1, .int .i64 0, .int .i64 0] 25) := ⟨_, rfl⟩
  have hb : Below w9.heap.size w9 v9 := by rw [hv9]; exact (Below.refl _ _).alloc (Nat.le_refl _) _
  have hg : v9.heap[w9.heap.size]? = some (.cells #[.int .i64 1, .int .i64 0, .int .i64 0] 25 (0, 0)) := by rw [hv9]; exact heap_alloc_new w9 _
  have EV := Lib.hid (E9.out.go hb)
  have HCC := Lib.hid (C9.out _ EV.out _ hg)
  have z0 := EV.out.pt.c0; have z1 := EV.out.pt.c1; have z2 := EV.out.pt.c2; have zl := EV.out.pt.lt
  simp only at z0 z1 z2
  have y0 := E9.out.pt.c0; have y1 := E9.out.pt.c1; have y2 := E9.out.pt.c2; have yl := E9.out.pt.lt
  simp only at y0 y1 y2
  rw [hv9] at z0 z1 z2 zl
  have HV := Lib.hid hv9
  clear hv9 hb hg E9 C9
  go_wp2_with fail
  rw [← HV.out]
  with_reducible refine Calls.mono HCC.out ?_
  rintro e w10 ⟨rfl, hb⟩
  have E10 := Lib.hid (EV.out.go hb)
  clear hb EV HCC HV z0 z1 z2 zl y0 y1 y2 yl
  have z0 := E10.out.pt.c0; have z1 := E10.out.pt.c1; have z2 := E10.out.pt.c2; have zl := E10.out.pt.lt
  simp only at z0 z1 z2
  go_wp2_with fail
  with_reducible refine Calls.mono (CA.out _ E10.out) ?_
  rintro e w11 ⟨rfl, hb⟩
  have E11 := Lib.hid (E10.out.go hb)
  clear hb E10 CA z0 z1 z2 zl
  go_upto_region 6 with fail
  obtain ⟨v11, hv11⟩ : ∃ v11, v11 = w11.alloc (.cells #[.int .i64 1, .int .i64 0, .int .i64 0] 25) := ⟨_, rfl⟩
  have hb : Below w11.heap.size w11 v11 := by rw [hv11]; exact (Below.refl _ _).alloc (Nat.le_refl _) _
  have hg : v11.heap[w11.heap.size]? = some (.cells #[.int .i64 1, .int .i64 0, .int .i64 0] 25 (0, 0)) := by rw [hv11]; exact heap_alloc_new w11 _
  have EV := Lib.hid (E11.out.go hb)
  have HCC := Lib.hid (CB.out _ EV.out _ hg)
  have z0 := EV.out.pt.c0; have z1 := EV.out.pt.c1; have z2 := EV.out.pt.c2; have zl := EV.out.pt.lt
  simp only at z0 z1 z2
  have y0 := E11.out.pt.c0; have y1 := E11.out.pt.c1; have y2 := E11.out.pt.c2; have yl := E11.out.pt.lt
  simp only at y0 y1 y2
  rw [hv11] at z0 z1 z2 zl
  have HV := Lib.hid hv11
  clear hv11 hb hg E11 CB
  go_wp2_with fail
  rw [← HV.out]
  with_reducible refine Calls.mono HCC.out ?_
  rintro e w12 ⟨rfl, hb⟩
  have E12 := Lib.hid (EV.out.go hb)
  clear hb EV HCC HV z0 z1 z2 zl y0 y1 y2 yl
  have z0 := E12.out.pt.c0; have z1 := E12.out.pt.c1; have z2 := E12.out.pt.c2; have zl := E12.out.pt.lt
  simp only at z0 z1 z2
  go_wp2_with fail
  with_reducible refine Calls.mono (CC.out _ E12.out) ?_
  rintro e w13 ⟨rfl, hb⟩
  have E13 := Lib.hid (E12.out.go hb)
  clear hb E12 CC z0 z1 z2 zl
  go_wp2_with fail
  go_ret
  exact ⟨rfl, E13.out.bel⟩

end Go.Proofs.Ytdnoadngfkiabaa
