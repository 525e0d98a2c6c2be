/-
  SunMoves: the walk of the law.
-/
import Derived.Test.YtdnoadngfkiabaaP942
import Derived.Test.YtdnoadngfkiabaaP943
import Derived.Test.YtdnoadngfkiabaaP905
import Derived.Test.YtdnoadngfkiabaaP947
import Derived.Test.YtdnoadngfkiabaaP948
import Derived.Test.YtdnoadngfkiabaaP949
import Derived.Test.YtdnoadngfkiabaaP950
set_option linter.unusedVariables false
set_option maxRecDepth 100000
namespace Go.Proofs.Ytdnoadngfkiabaa
open Go.RowKit


/-- a box at a block. -/
def B6At (w : World) (g : Nat) (u : Bx) : Prop := w.heap[g]? = some (.cells #[.int .i64 u.r.X0, .int .i64 u.r.Y0, .int .i64 u.r.X1, .int .i64 u.r.Y1, .int .i64 u.z0, .int .i64 u.z1] 45 (0, 0))
section
variable {w w' : World} {g : Nat} {u : Bx}
theorem B6At.lt (h : B6At w g u) : g < w.heap.size := (Array.getElem?_eq_some_iff.1 h).1
theorem B6At.c0 (h : B6At w g u) : w.cell? ⟨g, 0, none⟩ = some (.int .i64 u.r.X0) := by rw [Lib.cell_of_heap h]; rfl
theorem B6At.c1 (h : B6At w g u) : w.cell? ⟨g, 1, none⟩ = some (.int .i64 u.r.Y0) := by rw [Lib.cell_of_heap h]; rfl
theorem B6At.c2 (h : B6At w g u) : w.cell? ⟨g, 2, none⟩ = some (.int .i64 u.r.X1) := by rw [Lib.cell_of_heap h]; rfl
theorem B6At.c3 (h : B6At w g u) : w.cell? ⟨g, 3, none⟩ = some (.int .i64 u.r.Y1) := by rw [Lib.cell_of_heap h]; rfl
theorem B6At.c4 (h : B6At w g u) : w.cell? ⟨g, 4, none⟩ = some (.int .i64 u.z0) := by rw [Lib.cell_of_heap h]; rfl
theorem B6At.c5 (h : B6At w g u) : w.cell? ⟨g, 5, none⟩ = some (.int .i64 u.z1) := by rw [Lib.cell_of_heap h]; rfl
theorem B6At.go (h : B6At w g u) (hb : Below w.heap.size w w') : B6At w' g u := (hb.block _ h.lt).trans h
end
theorem qw_go {v : Value} {F : List Bx} {w wr w' : World} (h : QW v F w wr) (hb : Below wr.heap.size wr w') : QW v F w w' := ⟨own_go h.own hb, h.bel.trans (hb.mono h.bel.size)⟩


/-! ### moved -/
def Bd12 (k : Bx) : Prop := BOk k ∧ k.r.X1 ≤ 1000 ∧ k.r.Y1 ≤ 1000 ∧ k.z1 ≤ 1000
def Mv12 (b : V3) : Prop := (0 ≤ b.x ∧ b.x ≤ 1000) ∧ (0 ≤ b.y ∧ b.y ≤ 1000) ∧ 0 ≤ b.z ∧ b.z ≤ 1000
theorem bd_mv {b : V3} {k : Bx} (h : Bd12 k) (hb : Mv12 b) : BOk (mvX b k) := by
  obtain ⟨⟨⟨⟨u0, u1, u2⟩, u3, u4, u5⟩, u6, u7, u8⟩, v1, v2, v3⟩ := h
  obtain ⟨⟨b0, b1⟩, ⟨b2, b3⟩, b4, b5⟩ := hb
  refine ⟨⟨⟨?_, ?_, ?_⟩, ?_, ?_, ?_⟩, ?_, ?_, ?_⟩ <;> (simp only [mvX, mvR]; omega)
set_option maxHeartbeats 16000000 in
theorem imoved_any (A : Option Addr) (cap : Nat) (l : List Bx) (b : V3) (w : World) (h : BxRow w A l) (hl : l.length ≤ 5) (hbd : ∀ k ∈ l, Bd12 k) (hmv : Mv12 b) :
    Calls Try.prog 23 #[.slice A l.length cap, .int .i64 b.x, .int .i64 b.y, .int .i64 b.z] w (BxRes (l.map (mvX b)) w) := by
  have HROW := Lib.hid h; clear h
  have HBD := Lib.hid hbd; clear hbd
  obtain ⟨⟨m0, m1⟩, ⟨m2, m3⟩, m4, m5⟩ := hmv
  obtain ⟨i0, hi9, hz0, hz1, hz2⟩ := info_parts infoBox
  have I0 : Hid (QW (.slice none 0 0) ((l.take 0).map (mvX b)) w w) := Lib.hid ⟨World.ownsRow_nil _ _ _ _, Below.refl _ _⟩
  go_enter Try.func23, Try.ntmps23
  go_wp2_with fail
  go_loopw [9, 10] (fun v i wr => ∃ (k : Nat) (v0 : Value), k ≤ l.length ∧ i = .int .i64 k ∧ v0 = v ∧ Hid (QW v0 ((l.take k).map (mvX b)) w wr)) (fun _ i _ => l.length - (intOf i).toNat)
  case atStart => exact ⟨0, _, Nat.zero_le _, rfl, rfl, I0⟩
  case round =>
    clear I0
    obtain ⟨k, v, hk, rfl, rfl, HI⟩ := hrel
    by_cases hlt : k < l.length
    · obtain ⟨b1, o1, rfl, hb1, hv1⟩ := HROW.out (by omega)
      obtain ⟨q0, q1, q2, q3, q4, q5⟩ := hv1 k hlt
      have wc := fun o => HI.out.bel.cell (p := ⟨b1, o, none⟩) hb1
      have q0 := (wc _).trans q0; have q1 := (wc _).trans q1; have q2 := (wc _).trans q2; have q3 := (wc _).trans q3; have q4 := (wc _).trans q4; have q5 := (wc _).trans q5
      have hbw : b1 < wr.heap.size := Nat.lt_of_lt_of_le hb1 HI.out.bel.size
      have n0 : (0 : Int) ≤ (k : Int) := by omega
      have n1 : (k : Int) < (l.length : Int) := by omega
      have HN2 : Hid ((l.take (k + 1)).map (mvX b) = (l.take k).map (mvX b) ++ [mvX b l[k]]) := Lib.hid (by rw [List.take_succ_eq_append_getElem hlt, List.map_append]; rfl)
      have hFl : ((l.take k).map (mvX b)).length ≤ 20 := by rw [List.length_map, List.length_take]; omega
      have HU0 := Lib.hid (HBD.out _ (List.getElem_mem hlt))
      obtain ⟨u, hu⟩ : ∃ u, u = l[k] := ⟨_, rfl⟩
      rw [← hu] at q0 q1 q2 q3 q4 q5 HN2 HU0
      obtain ⟨F, hF⟩ : ∃ F, F = (l.take k).map (mvX b) := ⟨_, rfl⟩
      rw [← hF] at HI HN2 hFl
      clear hu hF hv1 wc hb1
      obtain ⟨y3, hy3⟩ : ∃ y3, y3 = wr.alloc (.cells #[.int .i64 u.r.X0, .int .i64 u.r.Y0, .int .i64 u.r.X1, .int .i64 u.r.Y1, .int .i64 u.z0, .int .i64 u.z1] 45) := ⟨_, rfl⟩
      have hb2 : Below wr.heap.size wr y3 := by rw [hy3]; exact (Below.refl _ _).alloc (Nat.le_refl _) _
      have HU3 : Hid (B6At y3 wr.heap.size u) := Lib.hid (by rw [hy3]; exact heap_alloc_new wr _)
      have HI3 := Lib.hid (qw_go HI.out hb2)
      have HY2 := Lib.hid hy3
      clear hy3 hb2 HI
      go_upto_region 6 with fail
      rw [← HY2.out]
      clear HY2 q0 q1 q2 q3 q4 q5 hbw
      generalize wr.heap.size = gu at *
      obtain ⟨⟨⟨⟨u0, u1, u2⟩, u3, u4, u5⟩, u6, u7, u8⟩, u9, u10, u11⟩ := HU0.out
      obtain ⟨X0, hX0⟩ : ∃ X0, u.r.X0 + b.x = X0 := ⟨_, rfl⟩
      obtain ⟨Y0, hY0⟩ : ∃ Y0, u.r.Y0 + b.y = Y0 := ⟨_, rfl⟩
      obtain ⟨X1, hX1⟩ : ∃ X1, u.r.X1 + b.x = X1 := ⟨_, rfl⟩
      obtain ⟨Y1, hY1⟩ : ∃ Y1, u.r.Y1 + b.y = Y1 := ⟨_, rfl⟩
      obtain ⟨Z0, hZ0⟩ : ∃ Z0, u.z0 + b.z = Z0 := ⟨_, rfl⟩
      obtain ⟨Z1, hZ1⟩ : ∃ Z1, u.z1 + b.z = Z1 := ⟨_, rfl⟩
      have r0 : IntKind.i64.wrap (u.r.X0 + b.x) = X0 := (IntWalk.i64_in _ (by omega)).trans hX0
      have r1 : IntKind.i64.wrap (u.r.Y0 + b.y) = Y0 := (IntWalk.i64_in _ (by omega)).trans hY0
      have r2 : IntKind.i64.wrap (u.r.X1 + b.x) = X1 := (IntWalk.i64_in _ (by omega)).trans hX1
      have r3 : IntKind.i64.wrap (u.r.Y1 + b.y) = Y1 := (IntWalk.i64_in _ (by omega)).trans hY1
      have r4 : IntKind.i64.wrap (u.z0 + b.z) = Z0 := (IntWalk.i64_in _ (by omega)).trans hZ0
      have r5 : IntKind.i64.wrap (u.z1 + b.z) = Z1 := (IntWalk.i64_in _ (by omega)).trans hZ1
      have emv : mvX b u = ⟨⟨X0, Y0, X1, Y1⟩, Z0, Z1⟩ := by unfold mvX mvR; rw [hX0, hY0, hX1, hY1, hZ0, hZ1]
      rw [emv] at HN2
      clear hX0 hY0 hX1 hY1 hZ0 hZ1 emv u0 u1 u2 u3 u4 u5 u6 u7 u8 u9 u10 u11 HU0
      have k0 := HU3.out.c0; have k1 := HU3.out.c1; have k2 := HU3.out.c2; have k3 := HU3.out.c3; have kl := HU3.out.lt
      obtain ⟨y4, hy4⟩ : ∃ y4, y4 = y3.alloc (.cells #[.int .i64 X0, .int .i64 Y0, .int .i64 X1, .int .i64 Y1] 43) := ⟨_, rfl⟩
      have hb4 : Below y3.heap.size y3 y4 := by rw [hy4]; exact (Below.refl _ _).alloc (Nat.le_refl _) _
      have m0 : y4.cell? ⟨y3.heap.size, 0, none⟩ = some (.int .i64 X0) := by rw [hy4, Lib.cell_of_heap (heap_alloc_new y3 _)]; rfl
      have m1 : y4.cell? ⟨y3.heap.size, 1, none⟩ = some (.int .i64 Y0) := by rw [hy4, Lib.cell_of_heap (heap_alloc_new y3 _)]; rfl
      have m2 : y4.cell? ⟨y3.heap.size, 2, none⟩ = some (.int .i64 X1) := by rw [hy4, Lib.cell_of_heap (heap_alloc_new y3 _)]; rfl
      have m3 : y4.cell? ⟨y3.heap.size, 3, none⟩ = some (.int .i64 Y1) := by rw [hy4, Lib.cell_of_heap (heap_alloc_new y3 _)]; rfl
      have ml : y3.heap.size < y4.heap.size := by rw [hy4]; simp
      have HM0 := Lib.hid m0; have HM1 := Lib.hid m1; have HM2 := Lib.hid m2; have HM3 := Lib.hid m3; have HML := Lib.hid ml
      clear m0 m1 m2 m3 ml
      have HU4 := Lib.hid (HU3.out.go hb4)
      have HI4 := Lib.hid (qw_go HI3.out hb4)
      have HY4 := Lib.hid hy4
      clear hy4 hb4 HI3 HU3
      go_upto_region 7 with fail
      rw [← HY4.out]
      clear HY4 k0 k1 k2 k3 kl
      generalize y3.heap.size = gr at *
      have m0 := HM0.out; have m1 := HM1.out; have m2 := HM2.out; have m3 := HM3.out; have ml := HML.out
      have k4 := HU4.out.c4; have k5 := HU4.out.c5; have kl := HU4.out.lt
      have HO := Lib.hid HI4.out.own
      have hsz := HI4.out.bel.size
      go_wp2_with (at_builtin; refine wpList_append_own _ rfl _ _ 35 rfl w.heap.size 45 i0 (.agg #[.int .i64 0, .int .i64 0, .int .i64 0, .int .i64 0, .int .i64 0, .int .i64 0]) 6 48 Try.underlying35 hi9 hz0 hz1 hz2 rfl (by decide) _ _ _ rfl (HO.out.alloc _) ⟨y4.heap.size, 0, none⟩ 1 1 [.int .i64 X0, .int .i64 Y0, .int .i64 X1, .int .i64 Y1, .int .i64 Z0, .int .i64 Z1] rfl rfl ?c1 ?c2 ?c3 ?c4 ?c5 ?_)
      case c1 =>
        intro t u ht
        match t, ht with
        | 0, ht => simp at ht; subst ht; simp [Addr.add]
        | 1, ht => simp at ht; subst ht; simp [Addr.add]
        | 2, ht => simp at ht; subst ht; simp [Addr.add]
        | 3, ht => simp at ht; subst ht; simp [Addr.add]
        | 4, ht => simp at ht; subst ht; simp [Addr.add]
        | 5, ht => simp at ht; subst ht; simp [Addr.add]
      case c2 => intro u hu; simp only [List.mem_cons, List.not_mem_nil, or_false] at hu; rcases hu with rfl | rfl | rfl | rfl | rfl | rfl <;> rfl
      case c3 => unfold maxLen; omega
      case c4 => omega
      case c5 => simp; omega
      intro v' y7 hown' hgr _
      have HX : Hid (QW v' ((l.take (k + 1)).map (mvX b)) w y7) := Lib.hid ⟨by rw [HN2.out, bxcells_append, List.length_append]; exact hown', Below.grown (HI4.out.bel.alloc hsz _) hgr (by simp; omega) (fun k hk => (HO.out.lt k hk).1)⟩
      clear hown' hgr HO HI4 HU4 m0 m1 m2 m3 ml k4 k5 kl HN2 HM0 HM1 HM2 HM3 HML
      go_wp2_with fail
      go_roundw
      case rel => exact ⟨k + 1, _, by omega, by go_num, rfl, HX⟩
      case measure => simp [intOf]; omega
    · obtain rfl : k = l.length := by omega
      rw [List.take_length] at HI
      have HF := Lib.hid HI.out.own
      have HL := Lib.hid HI.out.bel
      clear HI
      go_wp2_with fail
      go_ret
      exact ⟨_, rfl, HF.out, HL.out⟩
/-! ### two rows of points of one's own -/
theorem infoP3 : (Try.prog.info? 25).map (fun i => (i.zero, i.size, i.bytes)) = some (some (.agg #[.int .i64 0, .int .i64 0, .int .i64 0]), 3, 24) := by kernel_rfl
def v3cells (l : List V3) : List Value := l.flatMap v3c
theorem v3cells_append (l m : List V3) : v3cells (l ++ m) = v3cells l ++ v3cells m := by simp [v3cells]
theorem v3cells_at : ∀ (l : List V3) (j : Nat) (h : j < l.length), (v3cells l)[j * 3]? = some (.int .i64 l[j].x) ∧ (v3cells l)[j * 3 + 1]? = some (.int .i64 l[j].y) ∧ (v3cells l)[j * 3 + 2]? = some (.int .i64 l[j].z) := by
  intro l
  induction l with
  | nil => intro j h; exact absurd h (by simp)
  | cons b l ih =>
    intro j h
    have e : v3cells (b :: l) = .int .i64 b.x :: .int .i64 b.y :: .int .i64 b.z :: v3cells l := rfl
    rw [e]
    cases j with
    | zero => exact ⟨rfl, rfl, rfl⟩
    | succ j =>
      obtain ⟨h0, h1, h2⟩ := ih j (by simp at h; omega)
      rw [show (j + 1) * 3 = j * 3 + 1 + 1 + 1 by omega]
      simp only [List.getElem?_cons_succ, List.getElem_cons_succ]
      exact ⟨h0, h1, h2⟩
theorem own_points3 {w : World} {B : Nat} {v : Value} {l : List V3} (h : w.ownsRow B 25 3 v l.length (v3cells l)) : ∃ A cap, v = .slice A l.length cap ∧ TbRow w A l := by
  have hh := h
  have hlt := h.lt
  obtain ⟨h1, h2⟩ := h
  rcases h2 with ⟨rfl, h3⟩ | ⟨g, cap, cur, rfl, hB, hg, h4⟩
  · exact ⟨none, 0, by rw [h3], fun h => by omega⟩
  · refine ⟨_, cap, rfl, fun h0 => ⟨g, 0, rfl, (hlt g rfl).2, fun j hj => ?_⟩⟩
    have c := fun i (hi : i < l.length * 3) => World.ownsRow.cellAt hh i hi
    obtain ⟨e0, e1, e2⟩ := v3cells_at l j hj
    rw [Nat.zero_add]
    exact ⟨(c _ (by omega)).trans e0, (c _ (by omega)).trans e1, (c _ (by omega)).trans e2⟩
structure PtW (v1 v2 : Value) (F1 F2 : List V3) (w wr : World) : Prop where
  o1 : wr.ownsRow w.heap.size 25 3 v1 F1.length (v3cells F1)
  o2 : wr.ownsRow w.heap.size 25 3 v2 F2.length (v3cells F2)
  ap : ∀ g, v1.ownBlock = some g → v2.ownBlock ≠ some g
  bel : Below w.heap.size w wr
theorem PtW.nil (w : World) : PtW (.slice none 0 0) (.slice none 0 0) [] [] w w := ⟨World.ownsRow_nil _ _ _ _, World.ownsRow_nil _ _ _ _, (fun g h => by cases h), Below.refl _ _⟩
theorem PtW.go {v1 v2 : Value} {F1 F2 : List V3} {w wr w' : World} (h : PtW v1 v2 F1 F2 w wr) (hb : Below wr.heap.size wr w') : PtW v1 v2 F1 F2 w w' := ⟨own_go h.o1 hb, own_go h.o2 hb, h.ap, h.bel.trans (hb.mono h.bel.size)⟩
theorem PtW.app1 {v1 v2 v' : Value} {F1 F2 : List V3} {d : V3} {w wr w' : World} (h : PtW v1 v2 F1 F2 w wr) (ho : w'.ownsRow w.heap.size 25 3 v' (F1.length + 1) (v3cells F1 ++ [.int .i64 d.x, .int .i64 d.y, .int .i64 d.z])) (hg : wr.grownBy w' v1.ownBlock) (hl : ∀ k, v'.ownBlock = some k → v1.ownBlock = some k ∨ wr.heap.size ≤ k) : PtW v' v2 (F1 ++ [d]) F2 w w' :=
  ⟨by rw [v3cells_append, List.length_append]; exact ho, own_stays h.o2 (fun g hgb => hg.block g (h.o2.lt g hgb).2 (fun e => h.ap g e.symm hgb)), (fun g hgb hgb2 => by
    rcases hl g hgb with k | k
    · exact h.ap g k hgb2
    · exact absurd (h.o2.lt g hgb2).2 (by omega)), Below.grown h.bel hg h.bel.size (fun k hk => (h.o1.lt k hk).1)⟩
theorem PtW.swap {v1 v2 : Value} {F1 F2 : List V3} {w wr : World} (h : PtW v1 v2 F1 F2 w wr) : PtW v2 v1 F2 F1 w wr := ⟨h.o2, h.o1, fun g a b => h.ap g b a, h.bel⟩
/-! ### the mathematics -/
def Tb12 (T : List V3) : Prop := T.length ≤ 24 ∧ ∀ d ∈ T, (-1000 ≤ d.x ∧ d.x ≤ 1000) ∧ (-1000 ≤ d.y ∧ d.y ≤ 1000) ∧ (1 ≤ d.z ∧ d.z ≤ 1000)
theorem tb_ok {T : List V3} (h : Tb12 T) : TabOk T := ⟨fun d hd => by
  obtain ⟨⟨a0, a1⟩, ⟨a2, a3⟩, a4, a5⟩ := h.2 d hd
  exact ⟨⟨by omega, by omega⟩, ⟨by omega, by omega⟩, by omega, by omega⟩, h.1⟩
theorem mul_in {k x : Int} (h1 : 1 ≤ k) (h2 : k ≤ 4) (hx : -1000 ≤ x ∧ x ≤ 1000) : x * k = k * x ∧ -4000 ≤ k * x ∧ k * x ≤ 4000 ∧ (1 ≤ x → 1 ≤ k * x) := by
  have : k = 1 ∨ k = 2 ∨ k = 3 ∨ k = 4 := by omega
  rcases this with rfl | rfl | rfl | rfl <;> omega
theorem mul_ok {T : List V3} (h : Tb12 T) {k : Int} (h1 : 1 ≤ k) (h2 : k ≤ 4) : TabOk (T.map fun d => d.mul k) := ⟨fun d hd => by
  obtain ⟨e, he, rfl⟩ := List.mem_map.1 hd
  obtain ⟨a0, a1, a2⟩ := h.2 e he
  have x := mul_in h1 h2 a0
  have y := mul_in h1 h2 a1
  have z := mul_in h1 h2 ⟨by omega, a2.2⟩
  have z1 := z.2.2.2 a2.1
  exact ⟨⟨by show -4096 ≤ k * e.x; omega, by show k * e.x ≤ 4096; omega⟩, ⟨by show -4096 ≤ k * e.y; omega, by show k * e.y ≤ 4096; omega⟩, by show 1 ≤ k * e.z; omega, by show k * e.z ≤ 4096; omega⟩, by rw [List.length_map]; exact h.1⟩
theorem moves12 {T : List V3} (hT : Tb12 T) {S U : List Sl} (hS : SolP S) (hU : SolP U) {b p : V3} {k : Int} (h : ∀ x y z, cubS U (x + b.x) (y + b.y) (z + b.z) ↔ cubS S x y z) (hp : PtOk p) (hp2 : PtOk (p.add b)) (h1 : 1 ≤ k) (h2 : k ≤ 4) :
    mskI T S p = ((mskN (frB S p T) : Nat) : Int) ∧ mskI T U (p.add b) = ((mskN (frB S p T) : Nat) : Int) ∧ mskI (T.map fun d => d.mul k) S p = ((mskN (frB S p T) : Nat) : Int) ∧ mskI T.reverse S p = ((mskN (frB S p T).reverse : Nat) : Int) := by
  have ht := tb_ok hT
  refine ⟨mskI_yes ht hp hS, ?_, ?_, ?_⟩
  · rw [mskI_yes ht hp2 hU, sfr_move hS hU h hp hp2]
  · rw [mskI_yes (mul_ok hT h1 h2) hp hS, sfr_mul hS hp h1 (by omega) T (fun d hd => by
      obtain ⟨a0, a1, a2⟩ := hT.2 d hd
      exact ⟨a0, a1, by omega, by omega⟩)]
  · have hr : TabOk T.reverse := ⟨fun d hd => ht.1 d (List.mem_reverse.1 hd), by rw [List.length_reverse]; exact ht.2⟩
    rw [mskI_yes hr hp hS, sfr_rev]
/-- bit k of a mask and the bit from the end of the reversed one. -/
theorem rev_bits {lb : List Bool} {k j : Nat} (hk : k < lb.length) (hj : j + k + 1 = lb.length) : ∃ q : Int, bits .and .i64 (((mskN lb : Nat) : Int) / 2 ^ k) 1 = q ∧ bits .and .i64 (((mskN lb.reverse : Nat) : Int) / 2 ^ j) 1 = q := by
  refine ⟨if lb.getD k false = true then 1 else 0, ?_, ?_⟩
  · rw [i64_and_one]; exact mskN_shift lb k
  · rw [i64_and_one, mskN_shift]
    have e : lb.reverse.getD j false = lb.getD k false := by
      rw [List.getD_eq_getElem?_getD, List.getD_eq_getElem?_getD, List.getElem?_reverse (by omega)]
      congr 2; omega
    rw [e]

set_option maxHeartbeats 80000000 in
theorem moves12_in (A : Option Addr) (cap : Nat) (T : List V3) (B : Option Addr) (cb : Nat) (l : List Bx) (p b : V3) (tm : Int) (w : World) (hT : TbIn w A cap T) (hl : BIn w B cb l) (hin : (¬ 24 < (T.length : Int) ∧ ¬ 5 < (l.length : Int)) ∧ (¬ p.x < 0 ∧ ¬ 1000 < p.x) ∧ (¬ p.y < 0 ∧ ¬ 1000 < p.y) ∧ (¬ p.z < 0 ∧ ¬ 1000 < p.z) ∧ (¬ b.x < 0 ∧ ¬ 1000 < b.x) ∧ (¬ b.y < 0 ∧ ¬ 1000 < b.y) ∧ (¬ b.z < 0 ∧ ¬ 1000 < b.z) ∧ (¬ tm < 1 ∧ ¬ 4 < tm)) :
    Calls Try.prog 6 #[.slice A T.length cap, .slice B l.length cb, .agg #[.int .i64 p.x, .int .i64 p.y, .int .i64 p.z], .agg #[.int .i64 b.x, .int .i64 b.y, .int .i64 b.z], .int .i64 tm] w (BlIs true w) := by
  obtain ⟨⟨c0, c1⟩, ⟨c2, c3⟩, ⟨c4, c5⟩, ⟨c6, c7⟩, ⟨c8, c9⟩, ⟨c10, c11⟩, ⟨c12, c13⟩, c14, c15⟩ := hin
  have HSM := Lib.hid (fun w' => ismall_any w')
  have HTR := Lib.hid hT.row
  have HROW := Lib.hid hl.row
  have t1 := hT.len
  have t2 := hl.len
  clear hT hl
  obtain ⟨w0, hw0⟩ : ∃ w0, w0 = (w.alloc (.cells #[.int .i64 p.x, .int .i64 p.y, .int .i64 p.z] 25)).alloc (.cells #[.int .i64 b.x, .int .i64 b.y, .int .i64 b.z] 25) := ⟨_, rfl⟩
  have HB : Hid (Below w.heap.size w w0) := Lib.hid (by rw [hw0]; exact ((Below.refl _ _).alloc (Nat.le_refl _) _).alloc (by simp) _)
  have Hp : Hid (P3At w0 w.heap.size p) := Lib.hid (by rw [hw0]; exact (heap2 w _ _).1)
  have Hb : Hid (P3At w0 (w.heap.size + 1) b) := Lib.hid (by rw [hw0]; exact (heap2 w _ _).2)
  have HW0 := Lib.hid hw0
  clear hw0
  go_enter Try.func6, Try.ntmps6
  go_upto_region 1 with fail
  rw [← HW0.out]; clear HW0
  generalize w.heap.size + 1 = gb at *
  obtain ⟨gp, hgp⟩ : ∃ gp, gp = w.heap.size := ⟨_, rfl⟩
  rw [← hgp] at Hp
  simp only [← hgp]
  clear hgp
  go_wp2_with fail
  with_reducible refine Calls.mono (HSM.out _) ?_
  rintro e w1 ⟨rfl, hb⟩
  replace Hp := Lib.hid (Hp.out.go hb)
  replace Hb := Lib.hid (Hb.out.go hb)
  replace HB := Lib.hid (HB.out.trans (hb.mono HB.out.size))
  clear hb HSM
  have p0 := Hp.out.c0; have p1 := Hp.out.c1; have p2 := Hp.out.c2; have pl := Hp.out.lt
  have b0 := Hb.out.c0; have b1 := Hb.out.c1; have b2 := Hb.out.c2; have bl := Hb.out.lt
  have HPT : Hid (PtOk p) := Lib.hid ⟨⟨by omega, by omega⟩, ⟨by omega, by omega⟩, by omega, by omega⟩
  have HPB : Hid (PtOk (p.add b)) := Lib.hid ⟨⟨by show 0 ≤ p.x + b.x; omega, by show p.x + b.x ≤ 1048576; omega⟩, ⟨by show 0 ≤ p.y + b.y; omega, by show p.y + b.y ≤ 1048576; omega⟩, by show 0 ≤ p.z + b.z; omega, by show p.z + b.z ≤ 4096; omega⟩
  have HMV : Hid (Mv12 b) := Lib.hid ⟨⟨by omega, by omega⟩, ⟨by omega, by omega⟩, by omega, by omega⟩
  have HK1 : Hid (1 ≤ tm ∧ tm ≤ 4) := Lib.hid ⟨by omega, by omega⟩
  have hl5 : l.length ≤ 5 := by omega
  have hT24 : T.length ≤ 24 := by omega
  go_upto_region 4 with fail
  rename (_ ∧ tm ≤ 4) => hcc
  clear p0 p1 p2 pl b0 b1 b2 bl hcc c0 c1 c2 c3 c4 c5 c6 c7 c8 c9 c10 c11 c12 c13 c14 c15
  go_wp2_with fail
  go_loopw [12] (fun i wr => ∃ (k : Nat), k ≤ l.length ∧ i = .int .i64 k ∧ wr = w1 ∧ Hid (∀ j (h : j < l.length), j < k → l[j].r.X1 ≤ 1000 ∧ l[j].r.Y1 ≤ 1000 ∧ l[j].z1 ≤ 1000)) (fun i _ => l.length - (intOf i).toNat)
  case atStart => exact ⟨0, Nat.zero_le _, rfl, rfl, Lib.hid (fun j _ h => by omega)⟩
  case round =>
    obtain ⟨k, hk, rfl, rfl, HJ⟩ := hrel
    by_cases hlt : k < l.length
    · obtain ⟨b1, o1, rfl, hb1, hv1⟩ := HROW.out (by omega)
      obtain ⟨q0, q1, q2, q3, q4, q5⟩ := hv1 k hlt
      have wc := fun o => HB.out.cell (p := ⟨b1, o, none⟩) hb1
      have q2 := (wc _).trans q2; have q3 := (wc _).trans q3; have q5 := (wc _).trans q5
      have hbw : b1 < wr.heap.size := Nat.lt_of_lt_of_le hb1 HB.out.size
      have n0 : (0 : Int) ≤ (k : Int) := by omega
      have n1 : (k : Int) < (l.length : Int) := by omega
      have NX : Hid (l[k].r.X1 ≤ 1000 ∧ l[k].r.Y1 ≤ 1000 ∧ l[k].z1 ≤ 1000 → ∀ j (h : j < l.length), j < k + 1 → l[j].r.X1 ≤ 1000 ∧ l[j].r.Y1 ≤ 1000 ∧ l[j].z1 ≤ 1000) := Lib.hid (fun hg j h hj => by
        by_cases e : j < k
        · exact HJ.out j h e
        · obtain rfl : j = k := by omega
          exact hg)
      obtain ⟨u, hu⟩ : ∃ u, u = l[k] := ⟨_, rfl⟩
      rw [← hu] at q2 q3 q5 NX
      clear hu hv1 wc hb1 q0 q1 q4 HJ
      by_cases d0 : 1000 < u.r.X1
      · go_wp2_with fail
        go_ret
        exact ⟨rfl, HB.out⟩
      · by_cases d1 : 1000 < u.r.Y1
        · go_wp2_with fail
          go_ret
          exact ⟨rfl, HB.out⟩
        · by_cases d2 : 1000 < u.z1
          · go_wp2_with fail
            go_ret
            exact ⟨rfl, HB.out⟩
          · have HN := Lib.hid (NX.out ⟨by omega, by omega, by omega⟩)
            clear NX
            go_wp2_with fail
            go_roundw
            case rel => exact ⟨k + 1, by omega, by go_num, trivial, HN⟩
            case measure => simp [intOf]; omega
    · obtain rfl : k = l.length := by omega
      have HJJ : Hid (∀ x ∈ l, x.r.X1 ≤ 1000 ∧ x.r.Y1 ≤ 1000 ∧ x.z1 ≤ 1000) := Lib.hid (fun x hx => by
        obtain ⟨j, hj, rfl⟩ := List.mem_iff_getElem.1 hx
        exact HJ.out j hj hj)
      clear HJ
      go_wp2_with fail
      obtain ⟨w1, hw1⟩ : ∃ w1, w1 = wr := ⟨_, rfl⟩
      rw [← hw1] at Hp Hb HB ⊢
      clear hw1
      go_loopw [13] (fun i wr => ∃ (k : Nat), k ≤ T.length ∧ i = .int .i64 k ∧ wr = w1 ∧ Hid (∀ j (h : j < T.length), j < k → (-1000 ≤ T[j].x ∧ T[j].x ≤ 1000) ∧ (-1000 ≤ T[j].y ∧ T[j].y ≤ 1000) ∧ (1 ≤ T[j].z ∧ T[j].z ≤ 1000))) (fun i _ => T.length - (intOf i).toNat)
      case atStart => exact ⟨0, Nat.zero_le _, rfl, rfl, Lib.hid (fun j _ h => by omega)⟩
      case round =>
        obtain ⟨k, hk, rfl, rfl, HJ⟩ := hrel
        by_cases hlt : k < T.length
        · obtain ⟨b1, o1, rfl, hb1, hv1⟩ := HTR.out (by omega)
          obtain ⟨q0, q1, q2⟩ := hv1 k hlt
          have wc := fun o => HB.out.cell (p := ⟨b1, o, none⟩) hb1
          have q0 := (wc _).trans q0; have q1 := (wc _).trans q1; have q2 := (wc _).trans q2
          have hbw : b1 < wr.heap.size := Nat.lt_of_lt_of_le hb1 HB.out.size
          have n0 : (0 : Int) ≤ (k : Int) := by omega
          have n1 : (k : Int) < (T.length : Int) := by omega
          have NX : Hid ((-1000 ≤ T[k].x ∧ T[k].x ≤ 1000) ∧ (-1000 ≤ T[k].y ∧ T[k].y ≤ 1000) ∧ (1 ≤ T[k].z ∧ T[k].z ≤ 1000) → ∀ j (h : j < T.length), j < k + 1 → (-1000 ≤ T[j].x ∧ T[j].x ≤ 1000) ∧ (-1000 ≤ T[j].y ∧ T[j].y ≤ 1000) ∧ (1 ≤ T[j].z ∧ T[j].z ≤ 1000)) := Lib.hid (fun hg j h hj => by
            by_cases e : j < k
            · exact HJ.out j h e
            · obtain rfl : j = k := by omega
              exact hg)
          obtain ⟨u, hu⟩ : ∃ u, u = T[k] := ⟨_, rfl⟩
          rw [← hu] at q0 q1 q2 NX
          clear hu hv1 wc hb1 HJ
          by_cases d0 : u.x < -1000
          case pos =>
            go_wp2_with fail
            go_ret
            exact ⟨rfl, HB.out⟩
          case neg =>
          by_cases d1 : 1000 < u.x
          case pos =>
            go_wp2_with fail
            go_ret
            exact ⟨rfl, HB.out⟩
          case neg =>
          by_cases d2 : u.y < -1000
          case pos =>
            go_wp2_with fail
            go_ret
            exact ⟨rfl, HB.out⟩
          case neg =>
          by_cases d3 : 1000 < u.y
          case pos =>
            go_wp2_with fail
            go_ret
            exact ⟨rfl, HB.out⟩
          case neg =>
          by_cases d4 : u.z < 1
          case pos =>
            go_wp2_with fail
            go_ret
            exact ⟨rfl, HB.out⟩
          case neg =>
          by_cases d5 : 1000 < u.z
          case pos =>
            go_wp2_with fail
            go_ret
            exact ⟨rfl, HB.out⟩
          case neg =>
          have HN := Lib.hid (NX.out ⟨⟨by omega, by omega⟩, ⟨by omega, by omega⟩, by omega, by omega⟩)
          clear NX
          go_wp2_with fail
          go_roundw
          case rel => exact ⟨k + 1, by omega, by go_num, trivial, HN⟩
          case measure => simp [intOf]; omega
        · obtain rfl : k = T.length := by omega
          have HT12 : Hid (Tb12 T) := Lib.hid ⟨hT24, fun x hx => by
            obtain ⟨j, hj, rfl⟩ := List.mem_iff_getElem.1 hx
            exact HJ.out j hj hj⟩
          clear HJ
          have hbz := Lib.hid (Below.refl wr.heap.size wr)
          by_cases hok : ∀ x ∈ l, BOk x
          case neg =>
            obtain ⟨n, hn⟩ : ∃ n, n = ([] : List Sl).length := ⟨_, rfl⟩
            have HOF := Lib.hid (fun w' (hb : Below w.heap.size w w') => of_n12 (cap := cb) (n := n) (HROW.out.below hb) (by omega) (ofS_bad hok) hn)
            clear hn hok HROW HPT HPB HMV HK1 HJJ HT12 HTR
            go_wp2_with fail
            with_reducible refine Calls.mono (HOF.out _ HB.out) ?_
            rintro e w2 ⟨A1, q1, rfl, _, hb⟩
            replace HB := Lib.hid (HB.out.trans (hb.mono HB.out.size))
            clear hb HOF
            go_wp2_with fail
            go_ret
            exact ⟨rfl, HB.out⟩
          case pos =>
            obtain ⟨n1, hn1⟩ : ∃ n1, n1 = (solB l).length := ⟨_, rfl⟩
            obtain ⟨n2, hn2⟩ : ∃ n2, n2 = (solB (l.map (mvX b))).length := ⟨_, rfl⟩
            have HBDL : Hid (∀ x ∈ l, Bd12 x) := Lib.hid (fun x hx => ⟨hok x hx, HJJ.out x hx⟩)
            have hok2 : ∀ x ∈ l, BOk (mvX b x) := fun x hx => bd_mv (HBDL.out x hx) HMV.out
            have hok3 : ∀ x ∈ l.map (mvX b), BOk x := fun x hx => by
              obtain ⟨y, hy, rfl⟩ := List.mem_map.1 hx
              exact hok2 y hy
            have hl2 : (l.map (mvX b)).length ≤ 5 := by rw [List.length_map]; exact hl5
            have HOF := Lib.hid (fun w' (hb : Below w.heap.size w w') => of_n12 (cap := cb) (n := n1) (HROW.out.below hb) (by omega) (ofS_small hok (by omega)) hn1)
            have HMD := Lib.hid (fun w' (hb : Below w.heap.size w w') => imoved_any B cb l b w' (HROW.out.below hb) hl5 HBDL.out HMV.out)
            have HOG : Hid (∀ w' A' c', BxRow w' A' (l.map (mvX b)) → Calls Try.prog 21 #[.slice A' (l.map (mvX b)).length c'] w' (OfN12 n2 (solB (l.map (mvX b))) 0 w')) := Lib.hid (fun w' A' c' hr => of_n12 hr (by omega) (ofS_small hok3 (by omega)) hn2)
            have HMM := Lib.hid (moves12 HT12.out (solB_small hok (by omega)) (solB_small hok3 (by omega)) (move_cub hok hok2) HPT.out HPB.out HK1.out.1 HK1.out.2)
            obtain ⟨ml, hml⟩ : ∃ ml, ml = (l.map (mvX b)).length := ⟨_, rfl⟩
            rw [← hml] at HOG
            have HML := Lib.hid hml
            have HN1 := Lib.hid hn1; have HN2 := Lib.hid hn2
            obtain ⟨lm, hlm⟩ : ∃ lm, lm = l.map (mvX b) := ⟨_, rfl⟩
            rw [← hlm] at HOG HMD HMM HML HN2 hl2
            clear hml hn1 hn2 hok hok2 hok3 HROW HMV HJJ HBDL hlm
            generalize solB l = S at *
            generalize solB lm = U at *
            go_wp2_with fail
            with_reducible refine Calls.mono (HOF.out _ HB.out) ?_
            rintro e w2 ⟨A1, q1, rfl, hs, hb⟩
            replace Hp := Lib.hid (Hp.out.go hb)
            replace Hb := Lib.hid (Hb.out.go hb)
            replace HB := Lib.hid (HB.out.trans (hb.mono HB.out.size))
            have HS := Lib.hid hs
            clear hb hs HOF hbz
            have b0 := Hb.out.c0; have b1 := Hb.out.c1; have b2 := Hb.out.c2; have bl := Hb.out.lt
            go_wp2_with fail
            with_reducible refine Calls.mono (HMD.out _ HB.out) ?_
            rintro e w3 ⟨v3, rfl, own3, hb⟩
            obtain ⟨A3, c3, e3, hr3, _⟩ := own_boxes own3
            rw [← HML.out] at e3
            subst e3
            have HR3 := Lib.hid hr3
            replace Hp := Lib.hid (Hp.out.go hb)
            replace Hb := Lib.hid (Hb.out.go hb)
            replace HB := Lib.hid (HB.out.trans (hb.mono HB.out.size))
            replace HS := Lib.hid (HS.out.below hb)
            clear hb own3 hr3 HMD HML b0 b1 b2 bl
            go_wp2_with fail
            with_reducible refine Calls.mono (HOG.out _ _ _ HR3.out) ?_
            rintro e w4 ⟨A2, q2, rfl, hs, hb⟩
            replace Hp := Lib.hid (Hp.out.go hb)
            replace Hb := Lib.hid (Hb.out.go hb)
            replace HB := Lib.hid (HB.out.trans (hb.mono HB.out.size))
            replace HS := Lib.hid (HS.out.below hb)
            have HU := Lib.hid hs
            clear hb hs HOG HR3
            obtain ⟨MF, hMF⟩ : ∃ MF, MF = frB S p T := ⟨_, rfl⟩
            have hMFl : MF.length = T.length := by rw [hMF, frB_len]
            rw [← hMF] at HMM
            have HFL := Lib.hid hMFl
            clear hMF hMFl
            have HM1 : Hid (∀ w', Below w4.heap.size w4 w' → Calls Try.prog 11 #[.slice A T.length cap, .slice A1 n1 q1, .agg #[.int .i64 p.x, .int .i64 p.y, .int .i64 p.z]] w' (InIs ((mskN MF : Nat) : Int) w')) := Lib.hid (fun w' hb => by
              rw [← HMM.out.1, HN1.out]
              exact g2mask_any A cap T A1 q1 S p w' (HTR.out.below (HB.out.trans (hb.mono HB.out.size))) t1 (HS.out.below hb))
            have HM2 : Hid (∀ w', Below w4.heap.size w4 w' → Calls Try.prog 11 #[.slice A T.length cap, .slice A2 n2 q2, .agg #[.int .i64 (p.x + b.x), .int .i64 (p.y + b.y), .int .i64 (p.z + b.z)]] w' (InIs ((mskN MF : Nat) : Int) w')) := Lib.hid (fun w' hb => by
              rw [← HMM.out.2.1, HN2.out]
              exact g2mask_any A cap T A2 q2 U (p.add b) w' (HTR.out.below (HB.out.trans (hb.mono HB.out.size))) t1 (HU.out.below hb))
            have HM3 : Hid (∀ w', Below w4.heap.size w4 w' → ∀ A' c', TbRow w' A' (T.map fun d => d.mul tm) → Calls Try.prog 11 #[.slice A' T.length c', .slice A1 n1 q1, .agg #[.int .i64 p.x, .int .i64 p.y, .int .i64 p.z]] w' (InIs ((mskN MF : Nat) : Int) w')) := Lib.hid (fun w' hb A' c' hr => by
              rw [← HMM.out.2.2.1, HN1.out]
              have e : T.length = (T.map fun d => d.mul tm).length := by rw [List.length_map]
              rw [e]
              exact g2mask_any A' c' (T.map fun d => d.mul tm) A1 q1 S p w' hr (by rw [List.length_map]; exact t1) (HS.out.below hb))
            have HM4 : Hid (∀ w', Below w4.heap.size w4 w' → ∀ A' c', TbRow w' A' T.reverse → Calls Try.prog 11 #[.slice A' T.length c', .slice A1 n1 q1, .agg #[.int .i64 p.x, .int .i64 p.y, .int .i64 p.z]] w' (InIs ((mskN MF.reverse : Nat) : Int) w')) := Lib.hid (fun w' hb A' c' hr => by
              rw [← HMM.out.2.2.2, HN1.out]
              have e : T.length = T.reverse.length := by rw [List.length_reverse]
              rw [e]
              exact g2mask_any A' c' T.reverse A1 q1 S p w' hr (by rw [List.length_reverse]; exact t1) (HS.out.below hb))
            have HRB : Hid (∀ k j, k < MF.length → j + k + 1 = MF.length → ∃ q : Int, bits .and .i64 (((mskN MF : Nat) : Int) / 2 ^ k) 1 = q ∧ bits .and .i64 (((mskN MF.reverse : Nat) : Int) / 2 ^ j) 1 = q) := Lib.hid (fun k j => rev_bits)
            obtain ⟨M, hM⟩ : ∃ M, M = mskN MF := ⟨_, rfl⟩
            obtain ⟨R, hR⟩ : ∃ R, R = mskN MF.reverse := ⟨_, rfl⟩
            rw [← hM] at HM1 HM2 HM3 HRB
            rw [← hR] at HM4 HRB
            clear hM hR HMM HN1 HN2
            have hbz := Lib.hid (Below.refl w4.heap.size w4)
            have p0 := Hp.out.c0; have p1 := Hp.out.c1; have p2 := Hp.out.c2; have pl := Hp.out.lt
            go_wp2_with fail
            with_reducible refine Calls.mono (HM1.out _ hbz.out) ?_
            rintro e w5 ⟨rfl, hb⟩
            replace Hp := Lib.hid (Hp.out.go hb)
            replace Hb := Lib.hid (Hb.out.go hb)
            replace HB := Lib.hid (HB.out.trans (hb.mono HB.out.size))
            replace hbz := Lib.hid (hbz.out.trans (hb.mono hbz.out.size))
            clear hb HM1 p0 p1 p2 pl
            clear HS HU
            obtain ⟨i0, hi9, hz0, hz1, hz2⟩ := info_parts infoP3
            have I0 : Hid (PtW (.slice none 0 0) (.slice none 0 0) ((T.take 0).map fun d => d.mul tm) (T.reverse.take 0) w5 w5) := Lib.hid (PtW.nil w5)
            go_upto_region 21 with fail
            go_wp2_with fail
            go_loopw [19, 20, 21] (fun v1 v2 i wr => ∃ (k : Nat) (x1 x2 : Value), k ≤ T.length ∧ i = .int .i64 k ∧ x1 = v1 ∧ x2 = v2 ∧ Hid (PtW x1 x2 ((T.take k).map fun d => d.mul tm) (T.reverse.take k) w5 wr)) (fun _ _ i _ => T.length - (intOf i).toNat)
            case atStart => exact ⟨0, _, _, Nat.zero_le _, rfl, rfl, rfl, I0⟩
            case round =>
              clear I0
              obtain ⟨k, v1, v2, hk, rfl, rfl, rfl, HI⟩ := hrel
              by_cases hlt : k < T.length
              · obtain ⟨b1, o1, rfl, hb1, hv1⟩ := HTR.out (by omega)
                obtain ⟨q0, q1, q2⟩ := hv1 k hlt
                have hjl : T.length - 1 - k < T.length := by omega
                obtain ⟨s0, s1, s2⟩ := hv1 (T.length - 1 - k) hjl
                have HBW := Lib.hid (HB.out.trans (HI.out.bel.mono HB.out.size))
                have HBT : Hid (b1 < w5.heap.size) := Lib.hid (Nat.lt_of_lt_of_le hb1 HB.out.size)
                have wc := fun o => HBW.out.cell (p := ⟨b1, o, none⟩) hb1
                have q0 := (wc _).trans q0; have q1 := (wc _).trans q1; have q2 := (wc _).trans q2
                have s0 := (wc _).trans s0; have s1 := (wc _).trans s1; have s2 := (wc _).trans s2
                have hbw : b1 < wr.heap.size := Nat.lt_of_lt_of_le hb1 HBW.out.size
                have n0 : (0 : Int) ≤ (k : Int) := by omega
                have n1 : (k : Int) < (T.length : Int) := by omega
                have HN1 : Hid (((T.take (k + 1)).map fun d => d.mul tm) = ((T.take k).map fun d => d.mul tm) ++ [T[k].mul tm]) := Lib.hid (by rw [List.take_succ_eq_append_getElem hlt, List.map_append]; rfl)
                have HN2 : Hid (T.reverse.take (k + 1) = T.reverse.take k ++ [T[T.length - 1 - k]]) := Lib.hid (by
                  rw [List.take_succ_eq_append_getElem (by rw [List.length_reverse]; exact hlt), List.getElem_reverse])
                have hF1 : ((T.take k).map fun d => d.mul tm).length ≤ 24 := by rw [List.length_map, List.length_take]; omega
                have hF2 : (T.reverse.take k).length ≤ 24 := by rw [List.length_take]; omega
                have HUB := Lib.hid (HT12.out.2 _ (List.getElem_mem hlt))
                obtain ⟨u, hu⟩ : ∃ u, u = T[k] := ⟨_, rfl⟩
                rw [← hu] at q0 q1 q2 HN1 HUB
                obtain ⟨s, hs⟩ : ∃ s, s = T[T.length - 1 - k] := ⟨_, rfl⟩
                rw [← hs] at s0 s1 s2 HN2
                obtain ⟨j, hj⟩ : ∃ j, j = T.length - 1 - k := ⟨_, rfl⟩
                rw [← hj] at s0 s1 s2
                have hj0 : (T.length : Int) - 1 - (k : Int) = (j : Int) := by omega
                have hj1 : (j : Int) < (T.length : Int) := by omega
                have hj2 : (0 : Int) ≤ (j : Int) := by omega
                obtain ⟨F1, hF1e⟩ : ∃ F1, F1 = (T.take k).map fun d => d.mul tm := ⟨_, rfl⟩
                obtain ⟨F2, hF2e⟩ : ∃ F2, F2 = T.reverse.take k := ⟨_, rfl⟩
                rw [← hF1e] at HI HN1 hF1
                rw [← hF2e] at HI HN2 hF2
                clear hu hs hj hF1e hF2e hv1 wc hb1 HBW
                -- the multiplied direction
                obtain ⟨a0, a1, a2⟩ := HUB.out
                have mx := mul_in HK1.out.1 HK1.out.2 a0
                have my := mul_in HK1.out.1 HK1.out.2 a1
                have mz := mul_in HK1.out.1 HK1.out.2 (x := u.z) ⟨by omega, a2.2⟩
                obtain ⟨X, hX⟩ : ∃ X, tm * u.x = X := ⟨_, rfl⟩
                obtain ⟨Y, hY⟩ : ∃ Y, tm * u.y = Y := ⟨_, rfl⟩
                obtain ⟨Z, hZ⟩ : ∃ Z, tm * u.z = Z := ⟨_, rfl⟩
                rw [hX] at mx
                rw [hY] at my
                rw [hZ] at mz
                have rx : IntKind.i64.wrap (u.x * tm) = X := by rw [mx.1]; exact IntWalk.i64_in _ (by omega)
                have ry : IntKind.i64.wrap (u.y * tm) = Y := by rw [my.1]; exact IntWalk.i64_in _ (by omega)
                have rz : IntKind.i64.wrap (u.z * tm) = Z := by rw [mz.1]; exact IntWalk.i64_in _ (by omega)
                have emul : u.mul tm = ⟨X, Y, Z⟩ := by unfold V3.mul; rw [hX, hY, hZ]
                rw [emul] at HN1
                clear emul hX hY hZ mx my mz a0 a1 a2 HUB
                obtain ⟨y2, hy2⟩ : ∃ y2, y2 = wr.alloc (.cells #[.int .i64 u.x, .int .i64 u.y, .int .i64 u.z] 25) := ⟨_, rfl⟩
                have hb2 : Below wr.heap.size wr y2 := by rw [hy2]; exact (Below.refl _ _).alloc (Nat.le_refl _) _
                have HU : Hid (P3At y2 wr.heap.size u) := Lib.hid (by rw [hy2]; exact P3At.new wr u)
                have HI2 := Lib.hid (HI.out.go hb2)
                have wc2 := fun o => hb2.cell (p := ⟨b1, o, none⟩) hbw
                have HS0 := Lib.hid ((wc2 _).trans s0); have HS1 := Lib.hid ((wc2 _).trans s1); have HS2 := Lib.hid ((wc2 _).trans s2)
                have HBL := Lib.hid (Nat.lt_of_lt_of_le hbw hb2.size)
                have HY2 := Lib.hid hy2
                clear hy2 hb2 HI wc2 s0 s1 s2
                go_upto_region 25 with fail
                rw [← HY2.out]
                clear HY2 q0 q1 q2 hbw
                generalize wr.heap.size = gu at *
                have k0 := HU.out.c0; have k1 := HU.out.c1; have k2 := HU.out.c2; have kl := HU.out.lt
                have HO := Lib.hid HI2.out.o1
                have hsz := HI2.out.bel.size
                go_wp2_with (at_builtin; refine wpList_append_lies _ rfl _ _ 22 rfl w5.heap.size 25 i0 (.agg #[.int .i64 0, .int .i64 0, .int .i64 0]) 3 24 Try.underlying22 hi9 hz0 hz1 hz2 rfl (by decide) _ _ _ rfl (HO.out.alloc _) ⟨y2.heap.size, 0, none⟩ 1 1 [.int .i64 X, .int .i64 Y, .int .i64 Z] rfl rfl ?c1 ?c2 ?c3 ?c4 ?c5 ?_)
                case c1 =>
                  intro t u ht
                  match t, ht with
                  | 0, ht => simp at ht; subst ht; simp [Addr.add]
                  | 1, ht => simp at ht; subst ht; simp [Addr.add]
                  | 2, ht => simp at ht; subst ht; simp [Addr.add]
                case c2 => intro u hu; simp only [List.mem_cons, List.not_mem_nil, or_false] at hu; rcases hu with rfl | rfl | rfl <;> rfl
                case c3 => unfold maxLen; omega
                case c4 => omega
                case c5 => simp; omega
                intro v1' y3 hown' hgr hlies
                have hba : Below y2.heap.size y2 (y2.alloc (.cells #[.int .i64 X, .int .i64 Y, .int .i64 Z] 25)) := (Below.refl _ _).alloc (Nat.le_refl _) _
                have HI3 : Hid (PtW v1' v2 (F1 ++ [⟨X, Y, Z⟩]) F2 w5 y3) := Lib.hid ((HI2.out.go hba).app1 hown' hgr (by simpa using hlies))
                have wc3 : ∀ o x, y2.cell? ⟨b1, o, none⟩ = some x → y3.cell? ⟨b1, o, none⟩ = some x := fun o x hx => by
                  have hbw := HBL.out
                  have e1 := (hba.cell (p := ⟨b1, o, none⟩) hbw).trans hx
                  have hne : ∀ g, (Value.ownBlock v1 = some g) → g ≠ b1 := fun g hg hgb => by
                    have := (HO.out.lt g hg).1
                    have hlt0 : b1 < w5.heap.size := HBT.out
                    omega
                  have e2 := hgr.block b1 (Nat.lt_of_lt_of_le hbw hba.size) (fun h => hne b1 h.symm rfl)
                  rw [← e1]
                  simp only [World.cell?, e2]
                have HS0' := Lib.hid (wc3 _ _ HS0.out); have HS1' := Lib.hid (wc3 _ _ HS1.out); have HS2' := Lib.hid (wc3 _ _ HS2.out)
                have HBL3 : Hid (b1 < y3.heap.size) := Lib.hid (Nat.lt_of_lt_of_le HBL.out (Nat.le_trans hba.size hgr.size))
                clear hown' hgr hlies hba HO HI2 HU k0 k1 k2 kl wc3 HS0 HS1 HS2 HBL
                go_upto_region 26 with fail
                have s0 := HS0'.out; have s1 := HS1'.out; have s2 := HS2'.out; have sl := HBL3.out
                have HO := Lib.hid HI3.out.o2
                have hsz := HI3.out.bel.size
                go_wp2_with (at_builtin; refine wpList_append_lies _ rfl _ _ 22 rfl w5.heap.size 25 i0 (.agg #[.int .i64 0, .int .i64 0, .int .i64 0]) 3 24 Try.underlying22 hi9 hz0 hz1 hz2 rfl (by decide) _ _ _ rfl (HO.out.alloc _) ⟨y3.heap.size, 0, none⟩ 1 1 [.int .i64 s.x, .int .i64 s.y, .int .i64 s.z] rfl rfl ?d1 ?d2 ?d3 ?d4 ?d5 ?_)
                case d1 =>
                  intro t u ht
                  match t, ht with
                  | 0, ht => simp at ht; subst ht; simp [Addr.add]
                  | 1, ht => simp at ht; subst ht; simp [Addr.add]
                  | 2, ht => simp at ht; subst ht; simp [Addr.add]
                case d2 => intro u hu; simp only [List.mem_cons, List.not_mem_nil, or_false] at hu; rcases hu with rfl | rfl | rfl <;> rfl
                case d3 => unfold maxLen; omega
                case d4 => omega
                case d5 => simp; omega
                intro v2' y4 hown' hgr hlies
                have hba : Below y3.heap.size y3 (y3.alloc (.cells #[.int .i64 s.x, .int .i64 s.y, .int .i64 s.z] 25)) := (Below.refl _ _).alloc (Nat.le_refl _) _
                have HI4 : Hid (PtW v1' v2' ((T.take (k + 1)).map fun d => d.mul tm) (T.reverse.take (k + 1)) w5 y4) := Lib.hid (by
                  rw [HN1.out, HN2.out]
                  exact ((HI3.out.go hba).swap.app1 hown' hgr (by simpa using hlies)).swap)
                clear hown' hgr hlies hba HO HI3 s0 s1 s2 sl HS0' HS1' HS2' HBL3
                go_wp2_with fail
                go_roundw
                case rel => exact ⟨k + 1, _, _, by omega, by go_num, rfl, rfl, HI4⟩
                case measure => simp [intOf]; omega
              · obtain rfl : k = T.length := by omega
                rw [List.take_length, show T.reverse.take T.length = T.reverse from by rw [← List.length_reverse]; exact List.take_length] at HI
                obtain ⟨AL, cL, eL, rL⟩ := own_points3 HI.out.o1
                obtain ⟨AR, cR, eR, rR⟩ := own_points3 HI.out.o2
                rw [List.length_map] at eL
                rw [List.length_reverse] at eR
                subst eL; subst eR
                have HLR := Lib.hid rL; have HRR := Lib.hid rR
                have hb := HI.out.bel
                obtain ⟨w6, hw6⟩ : ∃ w6, w6 = wr := ⟨_, rfl⟩
                rw [← hw6] at hb HLR HRR ⊢
                replace Hp := Lib.hid (Hp.out.go hb)
                replace Hb := Lib.hid (Hb.out.go hb)
                replace HB := Lib.hid (HB.out.trans (hb.mono HB.out.size))
                replace hbz := Lib.hid (hbz.out.trans (hb.mono hbz.out.size))
                clear hb HI rL rR hw6 i0 hi9 hz0 hz1 hz2
                have p0 := Hp.out.c0; have p1 := Hp.out.c1; have p2 := Hp.out.c2; have pl := Hp.out.lt
                go_wp2_with fail
                with_reducible refine Calls.mono (HM4.out _ hbz.out _ _ HRR.out) ?_
                rintro e w7 ⟨rfl, hb⟩
                replace Hp := Lib.hid (Hp.out.go hb)
                replace Hb := Lib.hid (Hb.out.go hb)
                replace HB := Lib.hid (HB.out.trans (hb.mono HB.out.size))
                replace hbz := Lib.hid (hbz.out.trans (hb.mono hbz.out.size))
                replace HLR := Lib.hid (HLR.out.below hb)
                clear hb HM4 HRR p0 p1 p2 pl
                go_wp2_with fail
                go_loopw [24] (fun i wr => ∃ (k q : Nat), k ≤ T.length ∧ i = .int .i64 k ∧ wr = w7.drewN q) (fun i _ => T.length - (intOf i).toNat)
                case atStart => exact ⟨0, 0, Nat.zero_le _, rfl, rfl⟩
                case round =>
                  obtain ⟨k, q, hk, rfl, rfl⟩ := hrel
                  by_cases hlt : k < T.length
                  · obtain ⟨j, hj⟩ : ∃ j, j = T.length - 1 - k := ⟨_, rfl⟩
                    obtain ⟨x, ex, ey⟩ := HRB.out k j (by rw [HFL.out]; exact hlt) (by rw [HFL.out]; omega)
                    have n0 : (0 : Int) ≤ (k : Int) := by omega
                    have n1 : (k : Int) < (T.length : Int) := by omega
                    have hj0 : (T.length : Int) - 1 - (k : Int) = (j : Int) := by omega
                    have hj1 : (j : Int) < (T.length : Int) := by omega
                    have hj2 : (0 : Int) ≤ (j : Int) := by omega
                    have hx : (x == x) = true := by simp
                    have hd0 : decide ((k : Int) < 0) = false := by rw [decide_eq_false_iff_not]; omega
                    have hd1 : decide ((j : Int) < 0) = false := by rw [decide_eq_false_iff_not]; omega
                    clear hj
                    go_upto_region 31 with fail
                    go_quiet (fail)
                    go_wp2_with fail
                    go_roundw
                    case rel => exact ⟨k + 1, _, by omega, by go_num, rfl⟩
                    case measure => simp [intOf]; omega
                  · obtain rfl : k = T.length := by omega
                    have hb : Below w7.heap.size w7 (w7.drewN q) := below_drewN (Below.refl _ _) q
                    obtain ⟨w8, hw8⟩ : ∃ w8, w8 = w7.drewN q := ⟨_, rfl⟩
                    rw [← hw8] at hb ⊢
                    replace Hp := Lib.hid (Hp.out.go hb)
                    replace Hb := Lib.hid (Hb.out.go hb)
                    replace HB := Lib.hid (HB.out.trans (hb.mono HB.out.size))
                    replace hbz := Lib.hid (hbz.out.trans (hb.mono hbz.out.size))
                    replace HLR := Lib.hid (HLR.out.below hb)
                    clear hb hw8
                    obtain ⟨⟨f0, f1⟩, ⟨f2, f3⟩, f4, f5⟩ := HPB.out
                    simp only [V3.add] at f0 f1 f2 f3 f4 f5
                    have p0 := Hp.out.c0; have p1 := Hp.out.c1; have p2 := Hp.out.c2; have pl := Hp.out.lt
                    have b0 := Hb.out.c0; have b1 := Hb.out.c1; have b2 := Hb.out.c2; have bl := Hb.out.lt
                    go_wp2_with fail
                    with_reducible refine Calls.mono (HM2.out _ hbz.out) ?_
                    rintro e w9 ⟨rfl, hb⟩
                    replace Hp := Lib.hid (Hp.out.go hb)
                    replace HB := Lib.hid (HB.out.trans (hb.mono HB.out.size))
                    replace hbz := Lib.hid (hbz.out.trans (hb.mono hbz.out.size))
                    replace HLR := Lib.hid (HLR.out.below hb)
                    clear hb HM2 p0 p1 p2 pl b0 b1 b2 bl Hb
                    have p0 := Hp.out.c0; have p1 := Hp.out.c1; have p2 := Hp.out.c2; have pl := Hp.out.lt
                    go_wp2_with fail
                    with_reducible refine Calls.mono (HM3.out _ hbz.out _ _ HLR.out) ?_
                    rintro e w10 ⟨rfl, hb⟩
                    replace HB := Lib.hid (HB.out.trans (hb.mono HB.out.size))
                    clear hb HM3 p0 p1 p2 pl Hp hbz HLR
                    go_wp2_with fail
                    go_ret
                    exact ⟨rfl, HB.out⟩

theorem moves12_walk (A : Option Addr) (cap : Nat) (T : List V3) (B : Option Addr) (cb : Nat) (l : List Bx) (p b : V3) (tm : Int) (w : World) (hT : TbIn w A cap T) (hl : BIn w B cb l) :
    Calls Try.prog 6 #[.slice A T.length cap, .slice B l.length cb, .agg #[.int .i64 p.x, .int .i64 p.y, .int .i64 p.z], .agg #[.int .i64 b.x, .int .i64 b.y, .int .i64 b.z], .int .i64 tm] w (BlIs true w) := by
  by_cases h0 : ¬ 24 < (T.length : Int) ∧ ¬ 5 < (l.length : Int) ∧ ¬ p.x < 0 ∧ ¬ 1000 < p.x
  case neg => exact moves12_o0 A cap T B cb l p b tm w hT hl  h0
  case pos =>
  obtain ⟨c0, c1, c2, c3⟩ := h0
  by_cases h1 : ¬ p.y < 0 ∧ ¬ 1000 < p.y ∧ ¬ p.z < 0 ∧ ¬ 1000 < p.z
  case neg => exact moves12_o1 A cap T B cb l p b tm w hT hl c0 c1 c2 c3 h1
  case pos =>
  obtain ⟨c4, c5, c6, c7⟩ := h1
  by_cases h2 : ¬ b.x < 0 ∧ ¬ 1000 < b.x ∧ ¬ b.y < 0 ∧ ¬ 1000 < b.y
  case neg => exact moves12_o2 A cap T B cb l p b tm w hT hl c0 c1 c2 c3 c4 c5 c6 c7 h2
  case pos =>
  obtain ⟨c8, c9, c10, c11⟩ := h2
  by_cases h3 : ¬ b.z < 0 ∧ ¬ 1000 < b.z ∧ ¬ tm < 1 ∧ ¬ 4 < tm
  case neg => exact moves12_o3 A cap T B cb l p b tm w hT hl c0 c1 c2 c3 c4 c5 c6 c7 c8 c9 c10 c11 h3
  case pos =>
  obtain ⟨c12, c13, c14, c15⟩ := h3
  exact moves12_in A cap T B cb l p b tm w hT hl ⟨⟨c0, c1⟩, ⟨c2, c3⟩, ⟨c4, c5⟩, ⟨c6, c7⟩, ⟨c8, c9⟩, ⟨c10, c11⟩, ⟨c12, c13⟩, c14, c15⟩

end Go.Proofs.Ytdnoadngfkiabaa
