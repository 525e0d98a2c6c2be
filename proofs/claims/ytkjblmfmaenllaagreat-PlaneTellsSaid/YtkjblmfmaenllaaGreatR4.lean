/-
  The laws' example of layer 10 (small); rows of planes of one's own.
-/
import Derived.Test.YtkjblmfmaenllaaGreatR3
import Derived.Test.YtkjblmfmaenllaaGreatRy
import Derived.Deep.AppendLies
set_option linter.unusedVariables false
set_option linter.unusedSimpArgs false
set_option maxRecDepth 100000
namespace Go.Proofs.YtkjblmfmaenllaaGreat
open Go.RowKit

/-! ### rows of planes of one's own; literal rows of boxes -/
theorem infoPlane : (Tryz.prog.info? 47).map (fun i => (i.zero, i.size, i.bytes)) = some (some (.agg #[.int .i64 0, .int .i64 0, .int .i64 0, .int .i64 0]), 4, 32) := by kernel_rfl
def plcells (l : List Pl) : List Value := l.flatMap fun p => [.int .i64 p.s, .int .i64 p.b, .int .i64 p.n, .int .i64 p.d]
theorem plcells_at : ∀ (l : List Pl) (j : Nat) (h : j < l.length), (plcells l)[j * 4]? = some (.int .i64 l[j].s) ∧ (plcells l)[j * 4 + 1]? = some (.int .i64 l[j].b) ∧ (plcells l)[j * 4 + 2]? = some (.int .i64 l[j].n) ∧ (plcells l)[j * 4 + 3]? = some (.int .i64 l[j].d) := by
  intro l
  induction l with
  | nil => intro j h; simp at h
  | cons r l ih =>
    intro j h
    cases j with
    | zero => exact ⟨rfl, rfl, rfl, rfl⟩
    | succ j =>
      have := ih j (by simpa using h)
      rw [show (j + 1) * 4 = j * 4 + 1 + 1 + 1 + 1 by omega]
      exact this
theorem own_planes {w : World} {B : Nat} {v : Value} {l : List Pl} (h : w.ownsRow B 47 4 v l.length (plcells l)) (hl : l.length ≤ 1099511627776 := by decide) : ∃ A cap, v = .slice A l.length cap ∧ PlIn w A cap l := by
  have hh := h
  obtain ⟨h1, h2⟩ := h
  rcases h2 with ⟨rfl, h3⟩ | ⟨g, cap, cur, rfl, hB, hg, h4⟩
  · rw [h3]
    exact ⟨none, 0, rfl, fun h => by omega, by omega, by omega, by omega⟩
  · have hlt : g < w.heap.size := by
      rcases Nat.lt_or_ge g w.heap.size with hlt | hge
      · exact hlt
      · rw [Array.getElem?_eq_none hge] at hg; cases hg
    refine ⟨_, cap, rfl, fun h0 => ⟨g, 0, rfl, hlt, fun j hj => ?_⟩, hl, h4.1, ?_⟩
    · have c := fun i (hi : i < l.length * 4) => World.ownsRow.cellAt hh i hi
      obtain ⟨e0, e1, e2, e3⟩ := plcells_at l j hj
      rw [Nat.zero_add]
      exact ⟨(c _ (by omega)).trans e0, (c _ (by omega)).trans e1, (c _ (by omega)).trans e2, (c _ (by omega)).trans e3⟩
    · have := h4.2.1; unfold maxLen at this; omega
theorem lit_box10 (w : World) (b : Bx) (k : Nat) (hk : k = w.heap.size) : BxRow (w.alloc (.cells #[.int .i64 b.r.X0, .int .i64 b.r.Y0, .int .i64 b.r.X1, .int .i64 b.r.Y1, .int .i64 b.z0, .int .i64 b.z1] 52)) (some ⟨k, 0, none⟩) [b] := fun _ => by
  subst hk
  have h0 := heap_alloc_new w (.cells #[.int .i64 b.r.X0, .int .i64 b.r.Y0, .int .i64 b.r.X1, .int .i64 b.r.Y1, .int .i64 b.z0, .int .i64 b.z1] 52)
  refine ⟨_, 0, rfl, (Array.getElem?_eq_some_iff.1 h0).1, fun j hj => ?_⟩
  obtain rfl : j = 0 := by simpa using hj
  have c := fun i v (hv : [Value.int .i64 b.r.X0, .int .i64 b.r.Y0, .int .i64 b.r.X1, .int .i64 b.r.Y1, .int .i64 b.z0, .int .i64 b.z1][i]? = some v) => show (w.alloc (.cells #[.int .i64 b.r.X0, .int .i64 b.r.Y0, .int .i64 b.r.X1, .int .i64 b.r.Y1, .int .i64 b.z0, .int .i64 b.z1] 52)).cell? ⟨w.heap.size, i, none⟩ = some v by
    rw [Lib.cell_of_heap h0]; simpa using hv
  exact ⟨c 0 _ rfl, c 1 _ rfl, c 2 _ rfl, c 3 _ rfl, c 4 _ rfl, c 5 _ rfl⟩
/-! ### what the last region reads -/
def Q7 (gb g5 : Nat) (W w' : World) : Prop := w'.cell? ⟨gb, 0, none⟩ = some (.int .i64 0) ∧ w'.cell? ⟨gb, 1, none⟩ = some (.int .i64 0) ∧ w'.cell? ⟨gb, 2, none⟩ = some (.int .i64 10) ∧ w'.cell? ⟨gb, 3, none⟩ = some (.int .i64 10) ∧ w'.cell? ⟨g5, 0, none⟩ = some (.int .i64 0) ∧ w'.cell? ⟨g5, 1, none⟩ = some (.int .i64 0) ∧ w'.cell? ⟨g5, 2, none⟩ = some (.int .i64 9) ∧ gb < w'.heap.size ∧ g5 < w'.heap.size ∧ Hid (Below W.heap.size W w')
theorem Q7.go {gb g5 : Nat} {W w w' : World} (h : Q7 gb g5 W w) (hb : Below w.heap.size w w') : Q7 gb g5 W w' := by
  obtain ⟨c0, c1, c2, c3, d0, d1, d2, l1, l2, h5⟩ := h
  have wc := fun o => hb.cell (p := ⟨gb, o, none⟩) l1
  have wd := fun o => hb.cell (p := ⟨g5, o, none⟩) l2
  exact ⟨(wc _).trans c0, (wc _).trans c1, (wc _).trans c2, (wc _).trans c3, (wd _).trans d0, (wd _).trans d1, (wd _).trans d2, Nat.lt_of_lt_of_le l1 hb.size, Nat.lt_of_lt_of_le l2 hb.size, Lib.hid (h5.out.trans (hb.mono h5.out.size))⟩
theorem Q7.drewN {gb g5 : Nat} {W w : World} (h : Q7 gb g5 W w) (n : Nat) : Q7 gb g5 W (w.drewN n) := h.go (below_drewN (Below.refl _ _) n)
theorem Q7.bel {gb g5 : Nat} {W w : World} (h : Q7 gb g5 W w) : Below W.heap.size W w := h.2.2.2.2.2.2.2.2.2.out
theorem Q7.grow {gb g5 : Nat} {W w w' : World} {row : Option Nat} (h : Q7 gb g5 W w) (hg : w.grownBy w' row) (hn : ∀ g, row = some g → g ≠ gb ∧ g ≠ g5) (hl : ∀ g, row = some g → W.heap.size ≤ g) : Q7 gb g5 W w' := by
  obtain ⟨c0, c1, c2, c3, d0, d1, d2, l1, l2, h5⟩ := h
  have wc : ∀ o, w'.cell? ⟨gb, o, none⟩ = w.cell? ⟨gb, o, none⟩ := fun o => World.cell?_of_block (hg.block gb l1 (fun e => (hn gb e.symm).1 rfl))
  have wd : ∀ o, w'.cell? ⟨g5, o, none⟩ = w.cell? ⟨g5, o, none⟩ := fun o => World.cell?_of_block (hg.block g5 l2 (fun e => (hn g5 e.symm).2 rfl))
  exact ⟨(wc _).trans c0, (wc _).trans c1, (wc _).trans c2, (wc _).trans c3, (wd _).trans d0, (wd _).trans d1, (wd _).trans d2, Nat.lt_of_lt_of_le l1 hg.size, Nat.lt_of_lt_of_le l2 hg.size, Lib.hid (Below.grown h5.out hg h5.out.size hl)⟩
/-- what small keeps: the rectangle, the own row of one plane. -/
structure SmK (gb g2 : Nat) (w w' : World) : Prop where
  r : RcAt w' gb RX
  o : w'.ownsRow w.heap.size 47 4 (.slice (some ⟨g2, 0, none⟩) 1 1) 1 (plcells [PX])
  b : Below w.heap.size w w'
theorem SmK.go {gb g2 : Nat} {w w1 w' : World} (h : SmK gb g2 w w1) (hb : Below w1.heap.size w1 w') : SmK gb g2 w w' := ⟨h.r.below hb h.r.lt, own_go h.o hb, h.b.trans (hb.mono h.b.size)⟩
theorem SmK.pl {gb g2 : Nat} {w w' : World} (h : SmK gb g2 w w') : PlIn w' (some ⟨g2, 0, none⟩) 1 [PX] := by
  obtain ⟨A, c, e, hp⟩ := own_planes (l := [PX]) h.o
  injection e with e1 _ e2
  subst e1; subst e2
  exact hp
def FsX (w : World) (e : Ending) (w' : World) : Prop := e = .returned (.tuple #[.agg #[.int .i64 0, .int .i64 0, .int .i64 9], .bool true]) ∧ Below w.heap.size w w'
def RmX (q : Rc) (w : World) (e : Ending) (w' : World) : Prop := ∃ A, e = .returned (.tuple #[.slice A 1 1, .int .i64 0]) ∧ RRow w' A [q] ∧ Below w.heap.size w w'
def OfX (w : World) (e : Ending) (w' : World) : Prop := ∃ A c, e = .returned (.tuple #[.slice A 1 c, .int .i64 0]) ∧ SIn w' A c SX ∧ Below w.heap.size w w'
theorem false_is {P : Prop} (hp : ¬ P) {w w' : World} {e : Ending} (h : ∃ b : Bool, (b = true ↔ P) ∧ BlIs b w e w') : BlIs false w e w' := by
  obtain ⟨b, hb, k⟩ := h
  cases b with
  | false => exact k
  | true => exact absurd (hb.1 rfl) hp
set_option maxHeartbeats 40000000 in
theorem msmall_any (w : World) : Calls Tryz.prog 12 #[] w (BlIs true w) := by
  have HO := Lib.hid (fun (w' : World) (A : Option Addr) (c : Nat) (h : BxRow w' A BX) => show Calls Tryz.prog 9 #[.slice A 1 c] w' (OfX w') from by
    have := bof_any A c BX w' h (by decide)
    rw [ex_of10] at this; exact this)
  have HF := Lib.hid (fun (w' : World) (A : Option Addr) (c : Nat) (A2 : Option Addr) (c2 : Nat) (h : PlIn w' A c [PX]) (h2 : SIn w' A2 c2 SX) => show Calls Tryz.prog 14 #[.agg #[.int .i64 0, .int .i64 0, .int .i64 10, .int .i64 10], .slice A 1 c, .slice A2 1 c2] w' (FsX w') from (kFirst_any RX A c [PX] A2 c2 SX w' h h2).mono fun e w2 k => by
    obtain ⟨x, rfl, hx, hb⟩ := k
    obtain rfl := (hx.1 ⟨ex_arg, ex_solP⟩).eq ex_first
    exact ⟨rfl, hb⟩)
  have HR9 := Lib.hid (fun (w' : World) (A : Option Addr) (c : Nat) (h : PlIn w' A c [PX]) => show Calls Tryz.prog 16 #[.agg #[.int .i64 0, .int .i64 0, .int .i64 10, .int .i64 10], .slice A 1 c, .int .i64 9] w' (RmX R9 w') from by
    have := kRoom_any RX A c [PX] 9 w' h
    rw [show RoomIs RX [PX] 9 = ([R9], 0) by unfold RoomIs; rw [if_pos (show ArgOk RX [PX] from ex_arg), if_pos (by decide), ex_room9]] at this; exact this)
  have HR12 := Lib.hid (fun (w' : World) (A : Option Addr) (c : Nat) (h : PlIn w' A c [PX]) => show Calls Tryz.prog 16 #[.agg #[.int .i64 0, .int .i64 0, .int .i64 10, .int .i64 10], .slice A 1 c, .int .i64 12] w' (RmX R12 w') from by
    have := kRoom_any RX A c [PX] 12 w' h
    rw [show RoomIs RX [PX] 12 = ([R12], 0) by unfold RoomIs; rw [if_pos (show ArgOk RX [PX] from ex_arg), if_pos (by decide), ex_room12]] at this; exact this)
  have HT1 := Lib.hid (fun (w' : World) (A : Option Addr) (c : Nat) (h : PlIn w' A c [PX]) => show Calls Tryz.prog 25 #[.agg #[.int .i64 0, .int .i64 0, .int .i64 10, .int .i64 10], .slice A 1 c, .int .i64 0, .int .i64 0] w' (InIs 9 w') from by
    have := kTop_any RX A c [PX] 0 0 w' h
    rw [show TopIs RX [PX] 0 0 = 9 by unfold TopIs; rw [if_pos ⟨ex_arg, by decide⟩, ex_top1]] at this; exact this)
  have HT2 := Lib.hid (fun (w' : World) (A : Option Addr) (c : Nat) (h : PlIn w' A c [PX]) => show Calls Tryz.prog 25 #[.agg #[.int .i64 0, .int .i64 0, .int .i64 10, .int .i64 10], .slice A 1 c, .int .i64 1, .int .i64 0] w' (InIs 10 w') from by
    have := kTop_any RX A c [PX] 1 0 w' h
    rw [show TopIs RX [PX] 1 0 = 10 by unfold TopIs; rw [if_pos ⟨ex_arg, by decide⟩, ex_top2]] at this; exact this)
  have HT3 := Lib.hid (fun (w' : World) (A : Option Addr) (c : Nat) (h : PlIn w' A c [PX]) => show Calls Tryz.prog 25 #[.agg #[.int .i64 0, .int .i64 0, .int .i64 10, .int .i64 10], .slice A 1 c, .int .i64 2, .int .i64 5] w' (InIs 12 w') from by
    have := kTop_any RX A c [PX] 2 5 w' h
    rw [show TopIs RX [PX] 2 5 = 12 by unfold TopIs; rw [if_pos ⟨ex_arg, by decide⟩, ex_top3]] at this; exact this)
  have HT4 := Lib.hid (fun (w' : World) (A : Option Addr) (c : Nat) (h : PlIn w' A c [PX]) => show Calls Tryz.prog 25 #[.agg #[.int .i64 0, .int .i64 0, .int .i64 10, .int .i64 10], .slice A 1 c, .int .i64 10, .int .i64 0] w' (InIs 24 w') from by
    have := kTop_any RX A c [PX] 10 0 w' h
    rw [show TopIs RX [PX] 10 0 = 24 by unfold TopIs; rw [if_pos ⟨ex_arg, by decide⟩, ex_top4]] at this; exact this)
  have HT5 := Lib.hid (fun (w' : World) (A : Option Addr) (c : Nat) (h : PlIn w' A c [PX, PE]) => show Calls Tryz.prog 25 #[.agg #[.int .i64 0, .int .i64 0, .int .i64 10, .int .i64 10], .slice A 2 c, .int .i64 0, .int .i64 0] w' (InIs 9 w') from by
    have := kTop_any RX A c [PX, PE] 0 0 w' h
    rw [show TopIs RX [PX, PE] 0 0 = 9 by unfold TopIs; rw [if_pos ⟨ex_arg2, by decide⟩, ex_top5]] at this; exact this)
  have HDI := Lib.hid (fun (w' : World) => show Calls Tryz.prog 23 #[.agg #[.int .i64 0, .int .i64 0, .int .i64 10, .int .i64 10], .int .i64 3, .int .i64 0, .int .i64 3] w' (InIs 6 w') from by
    have := kDist_any RX 3 0 3 w'
    rw [show DistIs RX 3 0 3 = 6 by unfold DistIs; rw [if_pos (by decide), ex_dist]] at this; exact this)
  have HA0 := Lib.hid (fun (w' : World) (A : Option Addr) (c : Nat) (A2 : Option Addr) (c2 : Nat) (h : PlIn w' A c [PX]) (h2 : SIn w' A2 c2 SX) => show Calls Tryz.prog 19 #[.agg #[.int .i64 0, .int .i64 0, .int .i64 10, .int .i64 10], .slice A 1 c, .slice A2 1 c2] w' (BlIs false w') from (kAllows_any RX A c [PX] A2 c2 SX w' h h2).mono fun e w2 k => false_is (fun hp => by
    have k2 := (FstP.all ex_first).2 hp.2
    cases k2) k)
  obtain ⟨i9, hi9, hz0, hz1, hz2⟩ := info_parts infoPlane
  obtain ⟨wA, hA⟩ : ∃ wA, wA = w.alloc (.cells #[.int .i64 0, .int .i64 0, .int .i64 10, .int .i64 10] 33) := ⟨_, rfl⟩
  obtain ⟨wB, hB⟩ : ∃ wB, wB = wA.alloc (.cells #[.int .i64 0, .int .i64 9, .int .i64 3, .int .i64 2] 47) := ⟨_, rfl⟩
  obtain ⟨wC, hC⟩ : ∃ wC, wC = wB.alloc (.cells #[.int .i64 0, .int .i64 0, .int .i64 2, .int .i64 2, .int .i64 0, .int .i64 10] 52) := ⟨_, rfl⟩
  have eA : wA.heap.size = w.heap.size + 1 := by rw [hA]; simp
  have eB : wB.heap.size = w.heap.size + 1 + 1 := by rw [hB]; simp [eA]
  have bA : Below w.heap.size w wA := by rw [hA]; exact (Below.refl _ _).alloc (Nat.le_refl _) _
  have bB : Below wA.heap.size wA wB := by rw [hB]; exact (Below.refl _ _).alloc (Nat.le_refl _) _
  have bC : Below wB.heap.size wB wC := by rw [hC]; exact (Below.refl _ _).alloc (Nat.le_refl _) _
  have kA : RcAt wA w.heap.size RX := by rw [hA]; exact RcAt.new w RX _ rfl
  have oB : wB.ownsRow w.heap.size 47 4 (.slice (some ⟨w.heap.size + 1, 0, none⟩) 1 1) 1 (plcells [PX]) := by
    rw [hB, ← eA]
    exact World.ownsRow_lit (base := w.heap.size) (e := 47) (size := 4) wA #[.int .i64 0, .int .i64 9, .int .i64 3, .int .i64 2] 1 (by omega) (by unfold maxLen; omega) rfl
  have KB : Hid (SmK w.heap.size (w.heap.size + 1) w wB) := Lib.hid ⟨kA.below bB kA.lt, oB, bA.trans (bB.mono bA.size)⟩
  have K0 := Lib.hid (KB.out.go bC)
  have HBX := Lib.hid (show BxRow wC (some ⟨w.heap.size + 1 + 1, 0, none⟩) BX from by rw [hC]; exact lit_box10 wB ⟨⟨0, 0, 2, 2⟩, 0, 10⟩ _ eB.symm)
  clear KB bA bB bC kA oB eA eB
  go_enter Tryz.func12, Tryz.ntmps12
  go_wp2_with fail
  rw [← hA, ← hB, ← hC]
  clear hA hB hC
  refine (HO.out _ _ _ HBX.out).mono ?_
  rintro e w1 ⟨A3, c3, rfl, hs1, hb1⟩
  have K1 := Lib.hid (K0.out.go hb1)
  have S1 := Lib.hid hs1
  clear hb1 hs1 K0 HBX
  have x0 := K1.out.r.cell0; have x1 := K1.out.r.cell1; have x2 := K1.out.r.cell2; have x3 := K1.out.r.cell3; have xl := K1.out.r.lt
  go_wp2_with fail
  refine (HF.out _ _ _ _ _ K1.out.pl S1.out).mono ?_
  rintro e w2 ⟨rfl, hb2⟩
  have ba2 := (Below.refl w2.heap.size w2).alloc (Nat.le_refl _) (.cells #[.int .i64 0, .int .i64 0, .int .i64 9] 37)
  have K2 := Lib.hid ((K1.out.go hb2).go ba2)
  have S2 := Lib.hid ((S1.out.below hb2).below ba2)
  have P2 := Lib.hid (P3At.new w2 ⟨0, 0, 9⟩ _ rfl)
  have hg5 := ((K1.out.go hb2).o.lt _ rfl).2
  clear hb2 ba2 K1 S1 HF HO
  clear x0 x1 x2 x3 xl
  have x0 := K2.out.r.cell0; have x1 := K2.out.r.cell1; have x2 := K2.out.r.cell2; have x3 := K2.out.r.cell3; have xl := K2.out.r.lt
  go_wp2_with fail
  generalize World.alloc w2 _ = w3 at *
  have HG5 : Hid (w.heap.size + 1 < w2.heap.size) := Lib.hid hg5
  clear hg5
  generalize w2.heap.size = g5 at *
  refine (HR9.out _ _ _ K2.out.pl).mono ?_
  rintro e w4 ⟨A7, rfl, hr4, hb4⟩
  have K4 := Lib.hid (K2.out.go hb4); have S4 := Lib.hid (S2.out.below hb4); have P4 := Lib.hid (P2.out.below hb4); have C4 := Lib.hid hr4
  clear hb4 hr4 K2 S2 P2 HR9
  clear x0 x1 x2 x3 xl
  have x0 := K4.out.r.cell0; have x1 := K4.out.r.cell1; have x2 := K4.out.r.cell2; have x3 := K4.out.r.cell3; have xl := K4.out.r.lt
  go_wp2_with fail
  refine (HR12.out _ _ _ K4.out.pl).mono ?_
  rintro e w5 ⟨A9, rfl, hr5, hb5⟩
  have K5 := Lib.hid (K4.out.go hb5); have S5 := Lib.hid (S4.out.below hb5); have P5 := Lib.hid (P4.out.below hb5); have C5 := Lib.hid (C4.out.below hb5); have D5 := Lib.hid hr5
  clear hb5 hr5 K4 S4 P4 C4 HR12
  clear x0 x1 x2 x3 xl
  have x0 := K5.out.r.cell0; have x1 := K5.out.r.cell1; have x2 := K5.out.r.cell2; have x3 := K5.out.r.cell3; have xl := K5.out.r.lt
  go_wp2_with fail
  refine (HT1.out _ _ _ K5.out.pl).mono ?_
  rintro e w6 ⟨rfl, hb⟩
  have K6 := Lib.hid (K5.out.go hb); have S6 := Lib.hid (S5.out.below hb); have P6 := Lib.hid (P5.out.below hb); have C6 := Lib.hid (C5.out.below hb); have D6 := Lib.hid (D5.out.below hb)
  clear hb K5 S5 P5 C5 D5 HT1
  clear x0 x1 x2 x3 xl
  have x0 := K6.out.r.cell0; have x1 := K6.out.r.cell1; have x2 := K6.out.r.cell2; have x3 := K6.out.r.cell3; have xl := K6.out.r.lt
  go_wp2_with fail
  refine (HT2.out _ _ _ K6.out.pl).mono ?_
  rintro e w7 ⟨rfl, hb⟩
  have K7 := Lib.hid (K6.out.go hb); have S7 := Lib.hid (S6.out.below hb); have P7 := Lib.hid (P6.out.below hb); have C7 := Lib.hid (C6.out.below hb); have D7 := Lib.hid (D6.out.below hb)
  clear hb K6 S6 P6 C6 D6 HT2
  clear x0 x1 x2 x3 xl
  have x0 := K7.out.r.cell0; have x1 := K7.out.r.cell1; have x2 := K7.out.r.cell2; have x3 := K7.out.r.cell3; have xl := K7.out.r.lt
  go_wp2_with fail
  refine (HT3.out _ _ _ K7.out.pl).mono ?_
  rintro e w8 ⟨rfl, hb⟩
  have K8 := Lib.hid (K7.out.go hb); have S8 := Lib.hid (S7.out.below hb); have P8 := Lib.hid (P7.out.below hb); have C8 := Lib.hid (C7.out.below hb); have D8 := Lib.hid (D7.out.below hb)
  clear hb K7 S7 P7 C7 D7 HT3
  clear x0 x1 x2 x3 xl
  have x0 := K8.out.r.cell0; have x1 := K8.out.r.cell1; have x2 := K8.out.r.cell2; have x3 := K8.out.r.cell3; have xl := K8.out.r.lt
  go_wp2_with fail
  refine (HT4.out _ _ _ K8.out.pl).mono ?_
  rintro e w9 ⟨rfl, hb⟩
  have K9 := Lib.hid (K8.out.go hb); have S9 := Lib.hid (S8.out.below hb); have P9 := Lib.hid (P8.out.below hb); have C9 := Lib.hid (C8.out.below hb); have D9 := Lib.hid (D8.out.below hb)
  clear hb K8 S8 P8 C8 D8 HT4
  clear x0 x1 x2 x3 xl
  obtain ⟨b7, o7, rfl, hb7, hv7⟩ := C9.out (by simp)
  obtain ⟨b8, o8, rfl, hb8, hv8⟩ := D9.out (by simp)
  obtain ⟨u0, u1, u2, u3⟩ := hv7 0 (by simp)
  obtain ⟨v0, v1, v2, v3⟩ := hv8 0 (by simp)
  simp only [List.getElem_cons_zero, Nat.zero_mul, Nat.add_zero, R9, R12] at u0 u1 u2 u3 v0 v1 v2 v3
  clear hv7 hv8
  go_wp2_with fail
  clear u0 u1 u2 u3 v0 v1 v2 v3 hb7 hb8 C9 D9
  obtain ⟨W, hWe⟩ : ∃ W, W = w9 := ⟨_, rfl⟩
  rw [← hWe] at K9 S9 P9 ⊢
  clear hWe
  have E1 : Hid (Q7 w.heap.size g5 w W) := Lib.hid ⟨K9.out.r.cell0, K9.out.r.cell1, K9.out.r.cell2, K9.out.r.cell3, P9.out.c0, P9.out.c1, P9.out.c2, K9.out.r.lt, P9.out.lt, Lib.hid K9.out.b⟩
  have HAL : Hid (∀ w', Below W.heap.size W w' → Calls Tryz.prog 19 #[.agg #[.int .i64 0, .int .i64 0, .int .i64 10, .int .i64 10], .slice (some ⟨w.heap.size + 1, 0, none⟩) 1 1, .slice A3 1 c3] w' (BlIs false w')) := Lib.hid (fun w' h => HA0.out w' _ _ _ _ (K9.out.pl.below h) (S9.out.below h))
  have HOW := Lib.hid (own_go K9.out.o (below_drewN (Below.refl W.heap.size W) 1))
  have HAP : Hid (∀ g, (Value.slice (some ⟨w.heap.size + 1, 0, none⟩) 1 1).ownBlock = some g → g ≠ w.heap.size ∧ g ≠ g5) := Lib.hid (fun g hg => by
    injection hg with hg
    have := HG5.out
    simp only [] at hg
    omega)
  have HLW : Hid (∀ g, (Value.slice (some ⟨w.heap.size + 1, 0, none⟩) 1 1).ownBlock = some g → w.heap.size ≤ g) := Lib.hid (fun g hg => by
    injection hg with hg
    simp only [] at hg
    omega)
  clear K9 S9 P9 HA0
  refine wp_region_held_drew (S := fun w' => w'.cell? ⟨w.heap.size, 0, none⟩ = some (.int .i64 0) ∧ w'.cell? ⟨w.heap.size, 1, none⟩ = some (.int .i64 0) ∧ w'.cell? ⟨w.heap.size, 2, none⟩ = some (.int .i64 10) ∧ w'.cell? ⟨w.heap.size, 3, none⟩ = some (.int .i64 10) ∧ w'.cell? ⟨g5, 0, none⟩ = some (.int .i64 0) ∧ w'.cell? ⟨g5, 1, none⟩ = some (.int .i64 0) ∧ w'.cell? ⟨g5, 2, none⟩ = some (.int .i64 9) ∧ w.heap.size < w'.heap.size ∧ g5 < w'.heap.size ∧ Hid (Below w.heap.size w w')) (by kernel_rfl) ?_ (fun hHeld => ?_)
  · exact Q7.drewN E1.out 1
  refine wpAnyH_take (i := 0) (oi := { dst := some 84, op := Go.Op.move (Go.Operand.tmp 4), type := 27, pos := "law.go:27", after := #[], guard := none }) (v := ?_) rfl (by kernel_rfl) (by kernel_rfl) (by kernel_rfl) (fun _ _ _ h => h) (Or.inl ⟨by rfl, ?_⟩) (by assumption) ?_
  rotate_left
  · (intro w hSw; (try dsimp only at hSw); go_simp); try with_reducible rfl
  try simp only [Act.put, List.setIfInBounds_toArray, List.set_cons_zero, List.set_cons_succ]
  refine wpAnyH_take (i := 1) (oi := { dst := some 85, op := Go.Op.binOp Go.BinOp.eql 27 (Go.Operand.tmp 84) (Go.Operand.const (Go.Value.int Go.IntKind.i64 0)) 27, type := 4, pos := "law.go:27", after := #[{ on := 0, ground := Go.Ground.data }], guard := none }) (v := ?_) rfl (by kernel_rfl) (by kernel_rfl) (by kernel_rfl) (fun _ _ _ h => h) (Or.inl ⟨by rfl, ?_⟩) (by assumption) ?_
  rotate_left
  · (intro w hSw; (try dsimp only at hSw); go_simp); try with_reducible rfl
  try simp only [Act.put, List.setIfInBounds_toArray, List.set_cons_zero, List.set_cons_succ]
  refine wpAnyH_take (i := 2) (oi := { dst := some 86, op := Go.Op.move (Go.Operand.tmp 85), type := 4, pos := "law.go:27", after := #[{ on := 1, ground := Go.Ground.data }], guard := none }) (v := ?_) rfl (by kernel_rfl) (by kernel_rfl) (by kernel_rfl) (fun _ _ _ h => h) (Or.inl ⟨by rfl, ?_⟩) (by assumption) ?_
  rotate_left
  · (intro w hSw; (try dsimp only at hSw); go_simp); try with_reducible rfl
  try simp only [Act.put, List.setIfInBounds_toArray, List.set_cons_zero, List.set_cons_succ]
  refine wpAnyH_take (i := 3) (oi := { dst := some 87, op := Go.Op.move (Go.Operand.tmp 8), type := 27, pos := "law.go:27", after := #[{ on := 2, ground := Go.Ground.guard }], guard := some (2, true) }) (v := ?_) rfl (by kernel_rfl) (by kernel_rfl) (by kernel_rfl) (fun _ _ _ h => h) (Or.inl ⟨by rfl, ?_⟩) (by assumption) ?_
  rotate_left
  · (intro w hSw; (try dsimp only at hSw); go_simp); try with_reducible rfl
  try simp only [Act.put, List.setIfInBounds_toArray, List.set_cons_zero, List.set_cons_succ]
  refine wpAnyH_take (i := 4) (oi := { dst := some 88, op := Go.Op.binOp Go.BinOp.eql 27 (Go.Operand.tmp 87) (Go.Operand.const (Go.Value.int Go.IntKind.i64 0)) 27, type := 4, pos := "law.go:27", after := #[{ on := 3, ground := Go.Ground.data }, { on := 2, ground := Go.Ground.guard }], guard := some (2, true) }) (v := ?_) rfl (by kernel_rfl) (by kernel_rfl) (by kernel_rfl) (fun _ _ _ h => h) (Or.inl ⟨by rfl, ?_⟩) (by assumption) ?_
  rotate_left
  · (intro w hSw; (try dsimp only at hSw); go_simp); try with_reducible rfl
  try simp only [Act.put, List.setIfInBounds_toArray, List.set_cons_zero, List.set_cons_succ]
  refine wpAnyH_take (i := 5) (oi := { dst := some 89, op := Go.Op.pick (Go.Operand.tmp 86) (Go.Operand.tmp 88) (Go.Operand.const (Go.Value.bool false)), type := 4, pos := "law.go:27", after := #[{ on := 2, ground := Go.Ground.data }, { on := 4, ground := Go.Ground.data }], guard := none }) (v := ?_) rfl (by kernel_rfl) (by kernel_rfl) (by kernel_rfl) (fun _ _ _ h => h) (Or.inl ⟨by rfl, ?_⟩) (by assumption) ?_
  rotate_left
  · (intro w hSw; (try dsimp only at hSw); go_simp); try with_reducible rfl
  try simp only [Act.put, List.setIfInBounds_toArray, List.set_cons_zero, List.set_cons_succ]
  refine wpAnyH_take (i := 6) (oi := { dst := some 90, op := Go.Op.move (Go.Operand.tmp 89), type := 4, pos := "law.go:27", after := #[{ on := 5, ground := Go.Ground.data }, { on := 2, ground := Go.Ground.chain }], guard := none }) (v := ?_) rfl (by kernel_rfl) (by kernel_rfl) (by kernel_rfl) (fun _ _ _ h => h) (Or.inl ⟨by rfl, ?_⟩) (by assumption) ?_
  rotate_left
  · (intro w hSw; (try dsimp only at hSw); go_simp); try with_reducible rfl
  try simp only [Act.put, List.setIfInBounds_toArray, List.set_cons_zero, List.set_cons_succ]
  refine wpAnyH_take (i := 7) (oi := { dst := some 91, op := Go.Op.move (Go.Operand.tmp 10), type := 27, pos := "law.go:27", after := #[{ on := 6, ground := Go.Ground.guard }], guard := some (6, true) }) (v := ?_) rfl (by kernel_rfl) (by kernel_rfl) (by kernel_rfl) (fun _ _ _ h => h) (Or.inl ⟨by rfl, ?_⟩) (by assumption) ?_
  rotate_left
  · (intro w hSw; (try dsimp only at hSw); go_simp); try with_reducible rfl
  try simp only [Act.put, List.setIfInBounds_toArray, List.set_cons_zero, List.set_cons_succ]
  refine wpAnyH_take (i := 8) (oi := { dst := some 92, op := Go.Op.binOp Go.BinOp.eql 27 (Go.Operand.tmp 91) (Go.Operand.const (Go.Value.int Go.IntKind.i64 0)) 27, type := 4, pos := "law.go:27", after := #[{ on := 7, ground := Go.Ground.data }, { on := 6, ground := Go.Ground.guard }], guard := some (6, true) }) (v := ?_) rfl (by kernel_rfl) (by kernel_rfl) (by kernel_rfl) (fun _ _ _ h => h) (Or.inl ⟨by rfl, ?_⟩) (by assumption) ?_
  rotate_left
  · (intro w hSw; (try dsimp only at hSw); go_simp); try with_reducible rfl
  try simp only [Act.put, List.setIfInBounds_toArray, List.set_cons_zero, List.set_cons_succ]
  refine wpAnyH_take (i := 9) (oi := { dst := some 93, op := Go.Op.pick (Go.Operand.tmp 90) (Go.Operand.tmp 92) (Go.Operand.const (Go.Value.bool false)), type := 4, pos := "law.go:27", after := #[{ on := 6, ground := Go.Ground.data }, { on := 8, ground := Go.Ground.data }], guard := none }) (v := ?_) rfl (by kernel_rfl) (by kernel_rfl) (by kernel_rfl) (fun _ _ _ h => h) (Or.inl ⟨by rfl, ?_⟩) (by assumption) ?_
  rotate_left
  · (intro w hSw; (try dsimp only at hSw); go_simp); try with_reducible rfl
  try simp only [Act.put, List.setIfInBounds_toArray, List.set_cons_zero, List.set_cons_succ]
  refine wpAnyH_take (i := 10) (oi := { dst := some 94, op := Go.Op.move (Go.Operand.tmp 93), type := 4, pos := "law.go:27", after := #[{ on := 9, ground := Go.Ground.data }, { on := 6, ground := Go.Ground.chain }], guard := none }) (v := ?_) rfl (by kernel_rfl) (by kernel_rfl) (by kernel_rfl) (fun _ _ _ h => h) (Or.inl ⟨by rfl, ?_⟩) (by assumption) ?_
  rotate_left
  · (intro w hSw; (try dsimp only at hSw); go_simp); try with_reducible rfl
  try simp only [Act.put, List.setIfInBounds_toArray, List.set_cons_zero, List.set_cons_succ]
  refine wpAnyH_take (i := 11) (oi := { dst := some 95, op := Go.Op.move (Go.Operand.tmp 6), type := 4, pos := "law.go:27", after := #[{ on := 10, ground := Go.Ground.guard }], guard := some (10, true) }) (v := ?_) rfl (by kernel_rfl) (by kernel_rfl) (by kernel_rfl) (fun _ _ _ h => h) (Or.inl ⟨by rfl, ?_⟩) (by assumption) ?_
  rotate_left
  · (intro w hSw; (try dsimp only at hSw); go_simp); try with_reducible rfl
  try simp only [Act.put, List.setIfInBounds_toArray, List.set_cons_zero, List.set_cons_succ]
  refine wpAnyH_take (i := 12) (oi := { dst := some 96, op := Go.Op.pick (Go.Operand.tmp 94) (Go.Operand.tmp 95) (Go.Operand.const (Go.Value.bool false)), type := 4, pos := "law.go:27", after := #[{ on := 10, ground := Go.Ground.data }, { on := 11, ground := Go.Ground.data }], guard := none }) (v := ?_) rfl (by kernel_rfl) (by kernel_rfl) (by kernel_rfl) (fun _ _ _ h => h) (Or.inl ⟨by rfl, ?_⟩) (by assumption) ?_
  rotate_left
  · (intro w hSw; (try dsimp only at hSw); go_simp); try with_reducible rfl
  try simp only [Act.put, List.setIfInBounds_toArray, List.set_cons_zero, List.set_cons_succ]
  refine wpAnyH_take (i := 13) (oi := { dst := some 97, op := Go.Op.move (Go.Operand.tmp 96), type := 4, pos := "law.go:27", after := #[{ on := 12, ground := Go.Ground.data }, { on := 10, ground := Go.Ground.chain }], guard := none }) (v := ?_) rfl (by kernel_rfl) (by kernel_rfl) (by kernel_rfl) (fun _ _ _ h => h) (Or.inl ⟨by rfl, ?_⟩) (by assumption) ?_
  rotate_left
  · (intro w hSw; (try dsimp only at hSw); go_simp); try with_reducible rfl
  try simp only [Act.put, List.setIfInBounds_toArray, List.set_cons_zero, List.set_cons_succ]
  refine wpAnyH_take (i := 14) (oi := { dst := some 98, op := Go.Op.load 37 (Go.Operand.tmp 5), type := 37, pos := "law.go:27", after := #[{ on := 13, ground := Go.Ground.guard }], guard := some (13, true) }) (v := ?_) rfl (by kernel_rfl) (by kernel_rfl) (by kernel_rfl) (fun _ _ _ h => h) (Or.inl ⟨by rfl, ?_⟩) (by assumption) ?_
  rotate_left
  · (intro w hSw; (try dsimp only at hSw); go_simp); try with_reducible rfl
  try simp only [Act.put, List.setIfInBounds_toArray, List.set_cons_zero, List.set_cons_succ]
  refine wpAnyH_take (i := 15) (oi := { dst := some 99, op := Go.Op.build 37 #[(2, Go.Operand.const (Go.Value.int Go.IntKind.i64 9))], type := 37, pos := "law.go:27", after := #[{ on := 13, ground := Go.Ground.guard }], guard := some (13, true) }) (v := ?_) rfl (by kernel_rfl) (by kernel_rfl) (by kernel_rfl) (fun _ _ _ h => h) (Or.inl ⟨by rfl, ?_⟩) (by assumption) ?_
  rotate_left
  · (intro w hSw; (try dsimp only at hSw); go_simp); try with_reducible rfl
  try simp only [Act.put, List.setIfInBounds_toArray, List.set_cons_zero, List.set_cons_succ]
  refine wpAnyH_take (i := 16) (oi := { dst := some 100, op := Go.Op.binOp Go.BinOp.eql 37 (Go.Operand.tmp 98) (Go.Operand.tmp 99) 37, type := 4, pos := "law.go:27", after := #[{ on := 14, ground := Go.Ground.data }, { on := 15, ground := Go.Ground.data }, { on := 13, ground := Go.Ground.guard }], guard := some (13, true) }) (v := ?_) rfl (by kernel_rfl) (by kernel_rfl) (by kernel_rfl) (fun _ _ _ h => h) (Or.inl ⟨by rfl, ?_⟩) (by assumption) ?_
  rotate_left
  · (intro w hSw; (try dsimp only at hSw); go_simp); try with_reducible rfl
  try simp only [Act.put, List.setIfInBounds_toArray, List.set_cons_zero, List.set_cons_succ]
  refine wpAnyH_take (i := 17) (oi := { dst := some 101, op := Go.Op.pick (Go.Operand.tmp 97) (Go.Operand.tmp 100) (Go.Operand.const (Go.Value.bool false)), type := 4, pos := "law.go:27", after := #[{ on := 13, ground := Go.Ground.data }, { on := 16, ground := Go.Ground.data }], guard := none }) (v := ?_) rfl (by kernel_rfl) (by kernel_rfl) (by kernel_rfl) (fun _ _ _ h => h) (Or.inl ⟨by rfl, ?_⟩) (by assumption) ?_
  rotate_left
  · (intro w hSw; (try dsimp only at hSw); go_simp); try with_reducible rfl
  try simp only [Act.put, List.setIfInBounds_toArray, List.set_cons_zero, List.set_cons_succ]
  refine wpAnyH_take (i := 18) (oi := { dst := some 102, op := Go.Op.move (Go.Operand.tmp 101), type := 4, pos := "law.go:27", after := #[{ on := 17, ground := Go.Ground.data }, { on := 13, ground := Go.Ground.chain }], guard := none }) (v := ?_) rfl (by kernel_rfl) (by kernel_rfl) (by kernel_rfl) (fun _ _ _ h => h) (Or.inl ⟨by rfl, ?_⟩) (by assumption) ?_
  rotate_left
  · (intro w hSw; (try dsimp only at hSw); go_simp); try with_reducible rfl
  try simp only [Act.put, List.setIfInBounds_toArray, List.set_cons_zero, List.set_cons_succ]
  refine wpAnyH_take (i := 19) (oi := { dst := some 103, op := Go.Op.move (Go.Operand.tmp 11), type := 4, pos := "law.go:27", after := #[{ on := 18, ground := Go.Ground.guard }], guard := some (18, true) }) (v := ?_) rfl (by kernel_rfl) (by kernel_rfl) (by kernel_rfl) (fun _ _ _ h => h) (Or.inl ⟨by rfl, ?_⟩) (by assumption) ?_
  rotate_left
  · (intro w hSw; (try dsimp only at hSw); go_simp); try with_reducible rfl
  try simp only [Act.put, List.setIfInBounds_toArray, List.set_cons_zero, List.set_cons_succ]
  refine wpAnyH_take (i := 20) (oi := { dst := some 104, op := Go.Op.pick (Go.Operand.tmp 102) (Go.Operand.tmp 103) (Go.Operand.const (Go.Value.bool false)), type := 4, pos := "law.go:27", after := #[{ on := 18, ground := Go.Ground.data }, { on := 19, ground := Go.Ground.data }], guard := none }) (v := ?_) rfl (by kernel_rfl) (by kernel_rfl) (by kernel_rfl) (fun _ _ _ h => h) (Or.inl ⟨by rfl, ?_⟩) (by assumption) ?_
  rotate_left
  · (intro w hSw; (try dsimp only at hSw); go_simp); try with_reducible rfl
  try simp only [Act.put, List.setIfInBounds_toArray, List.set_cons_zero, List.set_cons_succ]
  refine wpAnyH_take (i := 21) (oi := { dst := some 105, op := Go.Op.move (Go.Operand.tmp 104), type := 4, pos := "law.go:27", after := #[{ on := 20, ground := Go.Ground.data }, { on := 18, ground := Go.Ground.chain }], guard := none }) (v := ?_) rfl (by kernel_rfl) (by kernel_rfl) (by kernel_rfl) (fun _ _ _ h => h) (Or.inl ⟨by rfl, ?_⟩) (by assumption) ?_
  rotate_left
  · (intro w hSw; (try dsimp only at hSw); go_simp); try with_reducible rfl
  try simp only [Act.put, List.setIfInBounds_toArray, List.set_cons_zero, List.set_cons_succ]
  refine wpAnyH_take (i := 22) (oi := { dst := some 106, op := Go.Op.move (Go.Operand.tmp 12), type := 4, pos := "law.go:27", after := #[{ on := 21, ground := Go.Ground.guard }], guard := some (21, true) }) (v := ?_) rfl (by kernel_rfl) (by kernel_rfl) (by kernel_rfl) (fun _ _ _ h => h) (Or.inl ⟨by rfl, ?_⟩) (by assumption) ?_
  rotate_left
  · (intro w hSw; (try dsimp only at hSw); go_simp); try with_reducible rfl
  try simp only [Act.put, List.setIfInBounds_toArray, List.set_cons_zero, List.set_cons_succ]
  refine wpAnyH_take (i := 23) (oi := { dst := some 107, op := Go.Op.pick (Go.Operand.tmp 105) (Go.Operand.tmp 106) (Go.Operand.const (Go.Value.bool false)), type := 4, pos := "law.go:27", after := #[{ on := 21, ground := Go.Ground.data }, { on := 22, ground := Go.Ground.data }], guard := none }) (v := ?_) rfl (by kernel_rfl) (by kernel_rfl) (by kernel_rfl) (fun _ _ _ h => h) (Or.inl ⟨by rfl, ?_⟩) (by assumption) ?_
  rotate_left
  · (intro w hSw; (try dsimp only at hSw); go_simp); try with_reducible rfl
  try simp only [Act.put, List.setIfInBounds_toArray, List.set_cons_zero, List.set_cons_succ]
  refine wpAnyH_take (i := 24) (oi := { dst := some 108, op := Go.Op.move (Go.Operand.tmp 107), type := 4, pos := "law.go:27", after := #[{ on := 23, ground := Go.Ground.data }, { on := 21, ground := Go.Ground.chain }], guard := none }) (v := ?_) rfl (by kernel_rfl) (by kernel_rfl) (by kernel_rfl) (fun _ _ _ h => h) (Or.inl ⟨by rfl, ?_⟩) (by assumption) ?_
  rotate_left
  · (intro w hSw; (try dsimp only at hSw); go_simp); try with_reducible rfl
  try simp only [Act.put, List.setIfInBounds_toArray, List.set_cons_zero, List.set_cons_succ]
  refine wpAnyH_take (i := 25) (oi := { dst := some 109, op := Go.Op.load 33 (Go.Operand.tmp 1), type := 33, pos := "law.go:27", after := #[{ on := 24, ground := Go.Ground.guard }], guard := some (24, true) }) (v := ?_) rfl (by kernel_rfl) (by kernel_rfl) (by kernel_rfl) (fun _ _ _ h => h) (Or.inl ⟨by rfl, ?_⟩) (by assumption) ?_
  rotate_left
  · (intro w hSw; (try dsimp only at hSw); go_simp); try with_reducible rfl
  try simp only [Act.put, List.setIfInBounds_toArray, List.set_cons_zero, List.set_cons_succ]
  refine wpAnyH_take (i := 26) (oi := { dst := some 110, op := Go.Op.move (Go.Operand.tmp 2), type := 34, pos := "law.go:27", after := #[{ on := 24, ground := Go.Ground.guard }], guard := some (24, true) }) (v := ?_) rfl (by kernel_rfl) (by kernel_rfl) (by kernel_rfl) (fun _ _ _ h => h) (Or.inl ⟨by rfl, ?_⟩) (by assumption) ?_
  rotate_left
  · (intro w hSw; (try dsimp only at hSw); go_simp); try with_reducible rfl
  try simp only [Act.put, List.setIfInBounds_toArray, List.set_cons_zero, List.set_cons_succ]
  refine wpAnyH_take (i := 27) (oi := { dst := some 111, op := Go.Op.move (Go.Operand.tmp 3), type := 22, pos := "law.go:27", after := #[{ on := 24, ground := Go.Ground.guard }], guard := some (24, true) }) (v := ?_) rfl (by kernel_rfl) (by kernel_rfl) (by kernel_rfl) (fun _ _ _ h => h) (Or.inl ⟨by rfl, ?_⟩) (by assumption) ?_
  rotate_left
  · (intro w hSw; (try dsimp only at hSw); go_simp); try with_reducible rfl
  try simp only [Act.put, List.setIfInBounds_toArray, List.set_cons_zero, List.set_cons_succ]
  refine wpAnyH_ready (rs := [28]) (by kernel_rfl) (by simp) ?_
  refine AllReadyH.cons (o := { dst := some 112, op := Go.Op.call { callee := Go.Callee.value (Go.Operand.func 19), args := #[Go.Operand.tmp 109, Go.Operand.tmp 110, Go.Operand.tmp 111], argTypes := #[33, 34, 22] }, type := 4, pos := "law.go:27", after := #[{ on := 25, ground := Go.Ground.data }, { on := 26, ground := Go.Ground.data }, { on := 27, ground := Go.Ground.data }, { on := 24, ground := Go.Ground.chain }, { on := 24, ground := Go.Ground.guard }], guard := some (24, true) }) rfl (fun K hK => ?_) AllReadyH.nil
  go_simp
  go_at_call 19
  with_reducible refine Calls.mono (HAL.out _ (below_drewN (Below.refl _ _) 1)) ?_
  rintro e w7 ⟨rfl, hb⟩
  have hown7 := own_go HOW.out hb
  try go_wp2_with fail
  refine hK.out _ _ (Q7.go hHeld hb) (fun hHeld2 => ?_)
  clear hK K hHeld hb
  have hHeld := hHeld2; clear hHeld2
  try simp only [Act.put, List.setIfInBounds_toArray, List.set_cons_zero, List.set_cons_succ]
  refine wpAnyH_take (i := 29) (oi := { dst := some 113, op := Go.Op.unOp Go.UnOp.not 4 (Go.Operand.tmp 112), type := 4, pos := "law.go:27", after := #[{ on := 28, ground := Go.Ground.data }, { on := 24, ground := Go.Ground.guard }], guard := some (24, true) }) (v := ?_) rfl (by kernel_rfl) (by kernel_rfl) (by kernel_rfl) (fun _ _ _ h => h) (Or.inl ⟨by rfl, ?_⟩) (by assumption) ?_
  rotate_left
  · (intro w hSw; (try dsimp only at hSw); go_simp); try with_reducible rfl
  try simp only [Act.put, List.setIfInBounds_toArray, List.set_cons_zero, List.set_cons_succ]
  refine wpAnyH_take (i := 30) (oi := { dst := some 114, op := Go.Op.pick (Go.Operand.tmp 108) (Go.Operand.tmp 113) (Go.Operand.const (Go.Value.bool false)), type := 4, pos := "law.go:27", after := #[{ on := 24, ground := Go.Ground.data }, { on := 29, ground := Go.Ground.data }], guard := none }) (v := ?_) rfl (by kernel_rfl) (by kernel_rfl) (by kernel_rfl) (fun _ _ _ h => h) (Or.inl ⟨by rfl, ?_⟩) (by assumption) ?_
  rotate_left
  · (intro w hSw; (try dsimp only at hSw); go_simp); try with_reducible rfl
  try simp only [Act.put, List.setIfInBounds_toArray, List.set_cons_zero, List.set_cons_succ]
  refine wpAnyH_take (i := 31) (oi := { dst := some 115, op := Go.Op.move (Go.Operand.tmp 114), type := 4, pos := "law.go:27", after := #[{ on := 30, ground := Go.Ground.data }, { on := 28, ground := Go.Ground.chain }], guard := none }) (v := ?_) rfl (by kernel_rfl) (by kernel_rfl) (by kernel_rfl) (fun _ _ _ h => h) (Or.inl ⟨by rfl, ?_⟩) (by assumption) ?_
  rotate_left
  · (intro w hSw; (try dsimp only at hSw); go_simp); try with_reducible rfl
  try simp only [Act.put, List.setIfInBounds_toArray, List.set_cons_zero, List.set_cons_succ]
  refine wpAnyH_take (i := 32) (oi := { dst := some 116, op := Go.Op.load 33 (Go.Operand.tmp 1), type := 33, pos := "law.go:27", after := #[{ on := 31, ground := Go.Ground.guard }], guard := some (31, true) }) (v := ?_) rfl (by kernel_rfl) (by kernel_rfl) (by kernel_rfl) (fun _ _ _ h => h) (Or.inl ⟨by rfl, ?_⟩) (by assumption) ?_
  rotate_left
  · (intro w hSw; (try dsimp only at hSw); go_simp); try with_reducible rfl
  try simp only [Act.put, List.setIfInBounds_toArray, List.set_cons_zero, List.set_cons_succ]
  refine wpAnyH_take (i := 33) (oi := { dst := some 117, op := Go.Op.move (Go.Operand.tmp 2), type := 34, pos := "law.go:27", after := #[{ on := 31, ground := Go.Ground.guard }], guard := some (31, true) }) (v := ?_) rfl (by kernel_rfl) (by kernel_rfl) (by kernel_rfl) (fun _ _ _ h => h) (Or.inl ⟨by rfl, ?_⟩) (by assumption) ?_
  rotate_left
  · (intro w hSw; (try dsimp only at hSw); go_simp); try with_reducible rfl
  try simp only [Act.put, List.setIfInBounds_toArray, List.set_cons_zero, List.set_cons_succ]
  refine wpAnyH_take (i := 34) (oi := { dst := some 118, op := Go.Op.build 47 #[(0, Go.Operand.const (Go.Value.int Go.IntKind.i64 1)), (2, Go.Operand.const (Go.Value.int Go.IntKind.i64 1)), (3, Go.Operand.const (Go.Value.int Go.IntKind.i64 1))], type := 47, pos := "law.go:27", after := #[{ on := 31, ground := Go.Ground.guard }], guard := some (31, true) }) (v := ?_) rfl (by kernel_rfl) (by kernel_rfl) (by kernel_rfl) (fun _ _ _ h => h) (Or.inl ⟨by rfl, ?_⟩) (by assumption) ?_
  rotate_left
  · (intro w hSw; (try dsimp only at hSw); go_simp); try with_reducible rfl
  try simp only [Act.put, List.setIfInBounds_toArray, List.set_cons_zero, List.set_cons_succ]
  refine wpAnyH_ready (rs := [35]) (by kernel_rfl) (by simp) ?_
  refine AllReadyH.cons (o := { dst := some 119, op := Go.Op.buildSlice 34 1 #[(0, Go.Operand.tmp 118)], type := 34, pos := "law.go:27", after := #[{ on := 34, ground := Go.Ground.data }, { on := 31, ground := Go.Ground.guard }], guard := some (31, true) }) rfl (fun K hK => ?_) AllReadyH.nil
  go_simp
  refine hK.out _ _ (Q7.go hHeld ((Below.refl _ _).alloc (Nat.le_refl _) _)) (fun hHeld2 => ?_)
  clear hK K hHeld
  have hHeld := hHeld2; clear hHeld2
  try simp only [Act.put, List.setIfInBounds_toArray, List.set_cons_zero, List.set_cons_succ]
  have HOWN := Lib.hid (own_go hown7 ((Below.refl w7.heap.size w7).alloc (Nat.le_refl _) (.cells #[.int .i64 1, .int .i64 0, .int .i64 1, .int .i64 1] 47)))
  have HSZ := Lib.hid (Q7.bel hHeld).size
  refine wpAnyH_ready (rs := [36]) (by kernel_rfl) (by simp) ?_
  refine AllReadyH.cons (o := { dst := some 120, op := Go.Op.call { callee := Go.Callee.builtin Go.Builtin.append, args := #[Go.Operand.tmp 117, Go.Operand.tmp 119], argTypes := #[34, 34] }, type := 34, pos := "law.go:27", after := #[{ on := 33, ground := Go.Ground.data }, { on := 35, ground := Go.Ground.data }, { on := 31, ground := Go.Ground.chain }, { on := 31, ground := Go.Ground.guard }], guard := some (31, true) }) rfl (fun K hK => ?_) AllReadyH.nil
  try simp only [Act.put, List.setIfInBounds_toArray, List.set_cons_zero, List.set_cons_succ]
  refine wp_append_own _ (Operand.tmp 117) (Operand.tmp 119) 34 rfl w.heap.size 47 i9 (.agg #[.int .i64 0, .int .i64 0, .int .i64 0, .int .i64 0]) 4 32 Tryz.underlying34 hi9 hz0 hz1 hz2 rfl (by decide) (.slice (some ⟨w.heap.size + 1, 0, none⟩) 1 1) 1 (plcells [PX]) rfl HOWN.out ⟨w7.heap.size, 0, none⟩ 1 1 [.int .i64 1, .int .i64 0, .int .i64 1, .int .i64 1] rfl rfl ?d1 ?d2 ?d3 ?d4 ?d5 ?_
  case d1 => exact World.news_of_block (cs := #[.int .i64 1, .int .i64 0, .int .i64 1, .int .i64 1]) (t := 47) (fr := (0, 0)) (heap_alloc_new w7 _)
  case d2 => intro u hu; simp only [List.mem_cons, List.not_mem_nil, or_false] at hu; rcases hu with rfl | rfl | rfl | rfl <;> rfl
  case d3 => unfold maxLen; omega
  case d4 => omega
  case d5 => exact HSZ.out
  intro v6 w6 hown6 hgr6 _
  obtain ⟨A6, c6, rfl, hp6⟩ := own_planes (l := [PX, PE]) hown6
  clear hown7
  refine hK.out _ _ (Q7.grow hHeld hgr6 HAP.out HLW.out) (fun hHeld2 => ?_)
  clear hK K hHeld hown6 hgr6 HOWN HSZ
  have hHeld := hHeld2; clear hHeld2
  try simp only [Act.put, List.setIfInBounds_toArray, List.set_cons_zero, List.set_cons_succ]
  refine wpAnyH_ready (rs := [37]) (by kernel_rfl) (by simp) ?_
  refine AllReadyH.cons (o := { dst := some 121, op := Go.Op.call { callee := Go.Callee.value (Go.Operand.func 25), args := #[Go.Operand.tmp 116, Go.Operand.tmp 120, Go.Operand.const (Go.Value.int Go.IntKind.i64 0), Go.Operand.const (Go.Value.int Go.IntKind.i64 0)], argTypes := #[33, 34, 3, 3] }, type := 3, pos := "law.go:27", after := #[{ on := 32, ground := Go.Ground.data }, { on := 36, ground := Go.Ground.data }, { on := 36, ground := Go.Ground.chain }, { on := 31, ground := Go.Ground.guard }], guard := some (31, true) }) rfl (fun K hK => ?_) AllReadyH.nil
  go_simp
  go_at_call 25
  with_reducible refine Calls.mono (HT5.out _ A6 c6 hp6) ?_
  rintro e w8 ⟨rfl, hb⟩
  try go_wp2_with fail
  refine hK.out _ _ (Q7.go hHeld hb) (fun hHeld2 => ?_)
  clear hK K hHeld hb hp6
  have hHeld := hHeld2; clear hHeld2
  try simp only [Act.put, List.setIfInBounds_toArray, List.set_cons_zero, List.set_cons_succ]
  refine wpAnyH_take (i := 38) (oi := { dst := some 122, op := Go.Op.binOp Go.BinOp.eql 3 (Go.Operand.tmp 121) (Go.Operand.const (Go.Value.int Go.IntKind.i64 9)) 3, type := 4, pos := "law.go:27", after := #[{ on := 37, ground := Go.Ground.data }, { on := 31, ground := Go.Ground.guard }], guard := some (31, true) }) (v := ?_) rfl (by kernel_rfl) (by kernel_rfl) (by kernel_rfl) (fun _ _ _ h => h) (Or.inl ⟨by rfl, ?_⟩) (by assumption) ?_
  rotate_left
  · (intro w hSw; (try dsimp only at hSw); go_simp); try with_reducible rfl
  try simp only [Act.put, List.setIfInBounds_toArray, List.set_cons_zero, List.set_cons_succ]
  refine wpAnyH_take (i := 39) (oi := { dst := some 123, op := Go.Op.pick (Go.Operand.tmp 115) (Go.Operand.tmp 122) (Go.Operand.const (Go.Value.bool false)), type := 4, pos := "law.go:27", after := #[{ on := 31, ground := Go.Ground.data }, { on := 38, ground := Go.Ground.data }], guard := none }) (v := ?_) rfl (by kernel_rfl) (by kernel_rfl) (by kernel_rfl) (fun _ _ _ h => h) (Or.inl ⟨by rfl, ?_⟩) (by assumption) ?_
  rotate_left
  · (intro w hSw; (try dsimp only at hSw); go_simp); try with_reducible rfl
  try simp only [Act.put, List.setIfInBounds_toArray, List.set_cons_zero, List.set_cons_succ]
  refine wpAnyH_take (i := 40) (oi := { dst := some 124, op := Go.Op.move (Go.Operand.tmp 123), type := 4, pos := "law.go:27", after := #[{ on := 39, ground := Go.Ground.data }, { on := 37, ground := Go.Ground.chain }], guard := none }) (v := ?_) rfl (by kernel_rfl) (by kernel_rfl) (by kernel_rfl) (fun _ _ _ h => h) (Or.inl ⟨by rfl, ?_⟩) (by assumption) ?_
  rotate_left
  · (intro w hSw; (try dsimp only at hSw); go_simp); try with_reducible rfl
  try simp only [Act.put, List.setIfInBounds_toArray, List.set_cons_zero, List.set_cons_succ]
  refine wpAnyH_take (i := 41) (oi := { dst := some 125, op := Go.Op.load 33 (Go.Operand.tmp 1), type := 33, pos := "law.go:27", after := #[{ on := 40, ground := Go.Ground.guard }], guard := some (40, true) }) (v := ?_) rfl (by kernel_rfl) (by kernel_rfl) (by kernel_rfl) (fun _ _ _ h => h) (Or.inl ⟨by rfl, ?_⟩) (by assumption) ?_
  rotate_left
  · (intro w hSw; (try dsimp only at hSw); go_simp); try with_reducible rfl
  try simp only [Act.put, List.setIfInBounds_toArray, List.set_cons_zero, List.set_cons_succ]
  refine wpAnyH_ready (rs := [42]) (by kernel_rfl) (by simp) ?_
  refine AllReadyH.cons (o := { dst := some 126, op := Go.Op.call { callee := Go.Callee.value (Go.Operand.func 23), args := #[Go.Operand.tmp 125, Go.Operand.const (Go.Value.int Go.IntKind.i64 3), Go.Operand.const (Go.Value.int Go.IntKind.i64 0), Go.Operand.const (Go.Value.int Go.IntKind.i64 3)], argTypes := #[33, 3, 3, 3] }, type := 3, pos := "law.go:27", after := #[{ on := 41, ground := Go.Ground.data }, { on := 40, ground := Go.Ground.chain }, { on := 40, ground := Go.Ground.guard }], guard := some (40, true) }) rfl (fun K hK => ?_) AllReadyH.nil
  go_simp
  go_at_call 23
  with_reducible refine Calls.mono (HDI.out _) ?_
  rintro e w9 ⟨rfl, hb⟩
  try go_wp2_with fail
  refine hK.out _ _ (Q7.go hHeld hb) (fun hHeld2 => ?_)
  clear hK K hHeld hb
  have hHeld := hHeld2; clear hHeld2
  try simp only [Act.put, List.setIfInBounds_toArray, List.set_cons_zero, List.set_cons_succ]
  refine wpAnyH_take (i := 43) (oi := { dst := some 127, op := Go.Op.binOp Go.BinOp.eql 3 (Go.Operand.tmp 126) (Go.Operand.const (Go.Value.int Go.IntKind.i64 6)) 3, type := 4, pos := "law.go:27", after := #[{ on := 42, ground := Go.Ground.data }, { on := 40, ground := Go.Ground.guard }], guard := some (40, true) }) (v := ?_) rfl (by kernel_rfl) (by kernel_rfl) (by kernel_rfl) (fun _ _ _ h => h) (Or.inl ⟨by rfl, ?_⟩) (by assumption) ?_
  rotate_left
  · (intro w hSw; (try dsimp only at hSw); go_simp); try with_reducible rfl
  try simp only [Act.put, List.setIfInBounds_toArray, List.set_cons_zero, List.set_cons_succ]
  refine wpAnyH_take (i := 44) (oi := { dst := some 128, op := Go.Op.pick (Go.Operand.tmp 124) (Go.Operand.tmp 127) (Go.Operand.const (Go.Value.bool false)), type := 4, pos := "law.go:27", after := #[{ on := 40, ground := Go.Ground.data }, { on := 43, ground := Go.Ground.data }], guard := none }) (v := ?_) rfl (by kernel_rfl) (by kernel_rfl) (by kernel_rfl) (fun _ _ _ h => h) (Or.inl ⟨by rfl, ?_⟩) (by assumption) ?_
  rotate_left
  · (intro w hSw; (try dsimp only at hSw); go_simp); try with_reducible rfl
  try simp only [Act.put, List.setIfInBounds_toArray, List.set_cons_zero, List.set_cons_succ]
  refine wpAnyH_take (i := 45) (oi := { dst := some 0, op := Go.Op.assign (Go.Operand.tmp 128), type := 4, pos := "law.go:27", after := #[{ on := 44, ground := Go.Ground.data }, { on := 42, ground := Go.Ground.chain }, { on := 0, ground := Go.Ground.phase }, { on := 1, ground := Go.Ground.phase }, { on := 2, ground := Go.Ground.phase }, { on := 3, ground := Go.Ground.phase }, { on := 4, ground := Go.Ground.phase }, { on := 5, ground := Go.Ground.phase }, { on := 6, ground := Go.Ground.phase }, { on := 7, ground := Go.Ground.phase }, { on := 8, ground := Go.Ground.phase }, { on := 9, ground := Go.Ground.phase }, { on := 10, ground := Go.Ground.phase }, { on := 11, ground := Go.Ground.phase }, { on := 12, ground := Go.Ground.phase }, { on := 13, ground := Go.Ground.phase }, { on := 14, ground := Go.Ground.phase }, { on := 15, ground := Go.Ground.phase }, { on := 16, ground := Go.Ground.phase }, { on := 17, ground := Go.Ground.phase }, { on := 18, ground := Go.Ground.phase }, { on := 19, ground := Go.Ground.phase }, { on := 20, ground := Go.Ground.phase }, { on := 21, ground := Go.Ground.phase }, { on := 22, ground := Go.Ground.phase }, { on := 23, ground := Go.Ground.phase }, { on := 24, ground := Go.Ground.phase }, { on := 25, ground := Go.Ground.phase }, { on := 26, ground := Go.Ground.phase }, { on := 27, ground := Go.Ground.phase }, { on := 28, ground := Go.Ground.phase }, { on := 29, ground := Go.Ground.phase }, { on := 30, ground := Go.Ground.phase }, { on := 31, ground := Go.Ground.phase }, { on := 32, ground := Go.Ground.phase }, { on := 33, ground := Go.Ground.phase }, { on := 34, ground := Go.Ground.phase }, { on := 35, ground := Go.Ground.phase }, { on := 36, ground := Go.Ground.phase }, { on := 37, ground := Go.Ground.phase }, { on := 38, ground := Go.Ground.phase }, { on := 39, ground := Go.Ground.phase }, { on := 40, ground := Go.Ground.phase }, { on := 41, ground := Go.Ground.phase }, { on := 42, ground := Go.Ground.phase }, { on := 43, ground := Go.Ground.phase }, { on := 44, ground := Go.Ground.phase }], guard := none }) (v := ?_) rfl (by kernel_rfl) (by kernel_rfl) (by kernel_rfl) (fun _ _ _ h => h) (Or.inl ⟨by rfl, ?_⟩) (by assumption) ?_
  rotate_left
  · (intro w hSw; (try dsimp only at hSw); go_simp); try with_reducible rfl
  try simp only [Act.put, List.setIfInBounds_toArray, List.set_cons_zero, List.set_cons_succ]
  refine wpAnyH_done (by kernel_rfl) ?_ _
  have hb9 := Q7.bel hHeld
  have HB9 := Lib.hid hb9
  clear hb9 hHeld
  go_wp2_with fail
  go_ret
  exact ⟨rfl, HB9.out⟩
end Go.Proofs.YtkjblmfmaenllaaGreat
