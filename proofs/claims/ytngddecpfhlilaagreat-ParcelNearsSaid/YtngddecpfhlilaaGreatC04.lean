/-
  Contracts of the program's layer 6 (2): isColumn.
  Plain mathematics of regions (5): the reference's way to a column: intervals in the order of their beginnings, then merged.
  Plain mathematics of regions (6): the reference's loop over the edges, step by step: the column before, and the rectangles of the slab that ends here.
  Plain mathematics of regions (7): the reference's loops in column: an interval put into its place by moving up those that begin later; intervals merged one by one.
  Plain mathematics of regions (8): the reference's Form, round by round; how long its columns are.
  From what is handed in to what the walks ask: a rectangle by value, a list of rectangles.
  From what is handed in to what RegionAlgebra's walk asks: a list of rectangles.
-/
import Derived.Test.YtngddecpfhlilaaGreatC03
import Derived.Test.YtngddecpfhlilaaGreatC00
import Derived.Test.YtngddecpfhlilaaGreatC01
import Derived.Test.YtngddecpfhlilaaGreatRows
import Derived.ProofKit
import Derived.OpenShut
import Derived.Stop.Joined
import Derived.Carry
import Derived.SliceStrings
import Derived.Lib.SmallJoins
import Derived.ShutString
import Derived.ChangeOld
set_option linter.unusedVariables false
set_option maxRecDepth 100000
namespace Go.Proofs.YtngddecpfhlilaaGreat
open Go.RowKit
theorem tkHf {v : Value} {P : Program} {ops : Array Oper} {Q : Exit → Act → World → Prop} {md : Region.Mode} {S : World → Prop} {i : Nat} {oi : Oper} {fuel : Nat} {listed : Array Bool} {a : Act} {w : World} (hi : ops[i]? = some oi) (h : wpAnyH P md ops Q S fuel (listed.setIfInBounds i true) (a.put oi.dst v) w) (hy : ∀ w, S w → (execOp a.eval oi).run P w = .ok (.value v) w := by (intro w hSw; (try dsimp only at hSw); go_simp); try with_reducible rfl) (hs : Region.noSelect ops = true := by kernel_rfl) (hf : Region.free md ops listed i = true := by kernel_rfl) (hr : (Region.ready md ops listed).contains i = true := by kernel_rfl) (hQ : ∀ c a w, Q (.panic c) (a.put oi.dst v) w → Q (.panic c) a w := by exact fun _ _ _ h => h) (hg : Region.wanted oi (yielded ops a.tmps) = true := by rfl) (hS : S w := by assumption) : wpAnyH P md ops Q S (fuel + 1) listed a w :=
 wpAnyH_take hi hs hf hr hQ (Or.inl ⟨hg, hy⟩) hS h
theorem tuHf {P : Program} {ops : Array Oper} {Q : Exit → Act → World → Prop} {md : Region.Mode} {S : World → Prop} {i : Nat} {oi : Oper} {fuel : Nat} {listed : Array Bool} {a : Act} {w : World} (hi : ops[i]? = some oi) (h : wpAnyH P md ops Q S fuel (listed.setIfInBounds i true) (a.put oi.dst undef) w) (hs : Region.noSelect ops = true := by kernel_rfl) (hf : Region.free md ops listed i = true := by kernel_rfl) (hr : (Region.ready md ops listed).contains i = true := by kernel_rfl) (hQ : ∀ c a w, Q (.panic c) (a.put oi.dst undef) w → Q (.panic c) a w := by exact fun _ _ _ h => h) (hg : Region.wanted oi (yielded ops a.tmps) = false := by rfl) (hS : S w := by assumption) : wpAnyH P md ops Q S (fuel + 1) listed a w :=
 wpAnyH_take hi hs hf hr hQ (Or.inr ⟨hg, rfl⟩) hS h
theorem sxHf : (∀ (a : Act) (v : Value), a.put none v = a) ∧ (∀ (a : Act) (d : Tmp) (v : Value), a.put (some d) v = { a with tmps := a.tmps.setIfInBounds d v }) ∧ (∀ {α : Type} (l : List α) (i : Nat) (x : α), l.toArray.setIfInBounds i x = (l.set i x).toArray) ∧ (∀ {α : Type} (l : List α) (x y : α), (x :: l).set 0 y = y :: l) ∧ (∀ {α : Type} (l : List α) (x y : α) (n : Nat), (x :: l).set (n + 1) y = x :: l.set n y) :=
 ⟨fun _ _ => rfl, fun _ _ _ => rfl, fun _ _ _ => List.setIfInBounds_toArray .., fun _ _ _ => rfl, fun _ _ _ _ => rfl⟩
def ColIs (l : List Rc) (w : World) (e : Ending) (w' : World) : Prop := ∃ b : Bool, (b = true ↔ IsColP l) ∧ BlIs b w e w'
def Jx (p : Nat) (u : Rc) (w0 w : World) : Prop := w.cell? ⟨p, 0, none⟩ = some (.int .i64 u.X0) ∧ w.cell? ⟨p, 1, none⟩ = some (.int .i64 u.Y0) ∧ w.cell? ⟨p, 2, none⟩ = some (.int .i64 u.X1) ∧ w.cell? ⟨p, 3, none⟩ = some (.int .i64 u.Y1) ∧ p < w.heap.size ∧ Hid (Below w0.heap.size w0 w)
theorem Jx.go {p : Nat} {u : Rc} {w0 w w' : World} (h : Jx p u w0 w) (hb : Below w.heap.size w w') : Jx p u w0 w' := by
 obtain ⟨h0, h1, h2, h3, h4, h5⟩ := h
 exact ⟨(hb.cell (p := ⟨p, 0, none⟩) h4).trans h0, (hb.cell (p := ⟨p, 1, none⟩) h4).trans h1, (hb.cell (p := ⟨p, 2, none⟩) h4).trans h2, (hb.cell (p := ⟨p, 3, none⟩) h4).trans h3, Nat.lt_of_lt_of_le h4 hb.size, Lib.hid (h5.out.trans (hb.mono h5.out.size))⟩
theorem Jx.drewN {p : Nat} {u : Rc} {w0 w : World} (h : Jx p u w0 w) (n : Nat) : Jx p u w0 (w.drewN n) := h.go (below_drewN (Below.refl _ _) n)
theorem Jx.new {u : Rc} {w0 w : World} (h : Below w0.heap.size w0 w) : Jx w.heap.size u w0 (w.alloc (.cells #[.int .i64 u.X0, .int .i64 u.Y0, .int .i64 u.X1, .int .i64 u.Y1] 68)) := by
 have k := RcAt.new w u _ rfl
 exact ⟨k.cell0, k.cell1, k.cell2, k.cell3, k.lt, Lib.hid (h.alloc h.size _)⟩
def Ix (p : Nat) (u : Rc) (b o : Nat) (v : Int) (w0 w : World) : Prop := w.cell? ⟨p, 0, none⟩ = some (.int .i64 u.X0) ∧ w.cell? ⟨p, 1, none⟩ = some (.int .i64 u.Y0) ∧ w.cell? ⟨p, 2, none⟩ = some (.int .i64 u.X1) ∧ w.cell? ⟨p, 3, none⟩ = some (.int .i64 u.Y1) ∧ w.cell? ⟨b, o, none⟩ = some (.int .i64 v) ∧ b < w.heap.size ∧ p < w.heap.size ∧ Hid (Below w0.heap.size w0 w)
theorem Ix.go {p : Nat} {u : Rc} {b o : Nat} {v : Int} {w0 w w' : World} (h : Ix p u b o v w0 w) (hb : Below w.heap.size w w') : Ix p u b o v w0 w' := by
 obtain ⟨h0, h1, h2, h3, h6, h7, h4, h5⟩ := h
 exact ⟨(hb.cell (p := ⟨p, 0, none⟩) h4).trans h0, (hb.cell (p := ⟨p, 1, none⟩) h4).trans h1, (hb.cell (p := ⟨p, 2, none⟩) h4).trans h2, (hb.cell (p := ⟨p, 3, none⟩) h4).trans h3, (hb.cell (p := ⟨b, o, none⟩) h7).trans h6, Nat.lt_of_lt_of_le h7 hb.size, Nat.lt_of_lt_of_le h4 hb.size, Lib.hid (h5.out.trans (hb.mono h5.out.size))⟩
theorem Ix.drewN {p : Nat} {u : Rc} {b o : Nat} {v : Int} {w0 w : World} (h : Ix p u b o v w0 w) (n : Nat) : Ix p u b o v w0 (w.drewN n) := h.go (below_drewN (Below.refl _ _) n)
theorem Ix.new {u : Rc} {b o : Nat} {v : Int} {w0 w : World} (h : Below w0.heap.size w0 w) (hv : w.cell? ⟨b, o, none⟩ = some (.int .i64 v)) (hb : b < w.heap.size) : Ix w.heap.size u b o v w0 (w.alloc (.cells #[.int .i64 u.X0, .int .i64 u.Y0, .int .i64 u.X1, .int .i64 u.Y1] 68)) := by
 have k := RcAt.new w u _ rfl
 have hg : Below w.heap.size w (w.alloc (.cells #[.int .i64 u.X0, .int .i64 u.Y0, .int .i64 u.X1, .int .i64 u.Y1] 68)) := (Below.refl _ _).alloc (Nat.le_refl _) _
 exact ⟨k.cell0, k.cell1, k.cell2, k.cell3, (hg.cell (p := ⟨b, o, none⟩) hb).trans hv, Nat.lt_of_lt_of_le hb hg.size, k.lt, Lib.hid (h.alloc h.size _)⟩
set_option maxHeartbeats 16000000 in
theorem giscol_any (A : Option Addr) (cap : Nat) (l : List Rc) (w0 : World) (h1 : RRow w0 A l) (hl : l.length ≤ 1099511627776) :
  Calls Tryz.prog 124 #[.slice A l.length cap] w0 (ColIs l w0) := by
 have H1 := Lib.hid h1; clear h1
 have HB0 := Lib.hid (Below.refl w0.heap.size w0)
 go_enter Tryz.func124, Tryz.ntmps124
 go_wp2
 go_loopw [7] (fun i wr => ∃ (k : Nat), k ≤ l.length ∧ i = .int .i64 k ∧ Hid (Below w0.heap.size w0 wr) ∧ ∀ j (h : j < l.length), j < k → ROk l[j] ∧ ∀ h0 : 0 < j, l[j - 1].Y1 < l[j].Y0) (fun i _ => l.length - (intOf i).toNat)
 case atStart => exact ⟨0, Nat.zero_le _, rfl, HB0, fun j h hj => absurd hj (Nat.not_lt_zero _)⟩
 case round =>
  clear HB0
  obtain ⟨k, hk, rfl, HB, ht⟩ := hrel
  have HT := Lib.hid ht; clear ht
  by_cases hlt : k < l.length
  ·obtain ⟨b1, o1, rfl, hb1, hv1⟩ := H1.out (by omega)
   obtain ⟨x0, x1, x2, x3⟩ := hv1 k hlt
   have wc := fun o => HB.out.cell (p := ⟨b1, o, none⟩) hb1
   have x0 := (wc _).trans x0; have x1 := (wc _).trans x1; have x2 := (wc _).trans x2; have x3 := (wc _).trans x3
   have hbw : b1 < wr.heap.size := Nat.lt_of_lt_of_le hb1 HB.out.size
   have hbs := HB.out.size
   have i0 : (0 : Int) ≤ (k : Int) := by omega
   have i1 : (k : Int) < (l.length : Int) := by omega
   have eu : ∃ u, u = l[k] := ⟨_, rfl⟩
   obtain ⟨u, hu⟩ := eu
   rw [← hu] at x0 x1 x2 x3
   have HU := Lib.hid hu; clear hu
   by_cases ok : ROk u
   ·have oa : rokB ⟨u.X0, u.Y0, u.X1, u.Y1⟩ = true := (rokB_iff u).2 ok
    have OK := Lib.hid ok; clear ok
    by_cases k0 : k = 0
    ·clear hv1 wc
     have g0 : decide ((0 : Int) < (k : Int)) = false := by simp; omega
     have g1 : decide (0 < k) = false := by simp; omega
     have K0 := Lib.hid k0; clear k0
     have E0 := Lib.hid (Jx.new (u := u) HB.out)
     go_wp2_with fail
     refine wp_region_held_drew (S := fun w' => w'.cell? ⟨wr.heap.size, 0, none⟩ = some (.int .i64 u.X0) ∧ w'.cell? ⟨wr.heap.size, 1, none⟩ = some (.int .i64 u.Y0) ∧ w'.cell? ⟨wr.heap.size, 2, none⟩ = some (.int .i64 u.X1) ∧ w'.cell? ⟨wr.heap.size, 3, none⟩ = some (.int .i64 u.Y1) ∧ wr.heap.size < w'.heap.size ∧ Hid (Below w0.heap.size w0 w')) (by kernel_rfl) ?_ (fun hHeld => ?_)
     ·exact Jx.drewN E0.out 1
     refine tkHf (i := 0) (oi := ⟨some 12, .load 68 (.tmp 4), 68, "region.go:148", #[], none⟩) rfl ?_
     try simp only [sxHf]
     refine wpAnyH_ready (rs := [1]) (by kernel_rfl) (by simp) ?_
     refine AllReadyH.cons (o := ⟨some 13, .call { callee := .value (.func 63), args := #[.tmp 12], argTypes := #[68] }, 4, "region.go:148", #[⟨0, .data⟩], none⟩) rfl (fun K hK => ?_) AllReadyH.nil
     go_simp
     go_at_call 63
     refine (tright_nd _ _ _ _ _).mono ?_
     rintro e w' ⟨rfl, hb⟩
     rw [oa]
     try go_wp2_with fail
     refine hK.out _ _ (Jx.go ‹_› hb) (fun hHeld2 => ?_)
     clear hK K hHeld hb
     have hHeld := hHeld2; clear hHeld2
     try simp only [sxHf]
     refine tkHf (i := 2) (oi := ⟨some 14, .unOp .not 4 (.tmp 13), 4, "region.go:148", #[⟨1, .data⟩], none⟩) rfl ?_
     try simp only [sxHf]
     refine tkHf (i := 3) (oi := ⟨some 15, .move (.tmp 14), 4, "region.go:148", #[⟨2, .data⟩, ⟨1, .chain⟩], none⟩) rfl ?_
     try simp only [sxHf]
     refine tkHf (i := 4) (oi := ⟨some 16, .move (.tmp 3), 3, "region.go:148", #[⟨3, .guard⟩], some (3, false)⟩) rfl ?_
     try simp only [sxHf]
     refine tkHf (i := 5) (oi := ⟨some 17, .binOp .gtr 3 (.tmp 16) (.const (.int .i64 0)) 3, 4, "region.go:148", #[⟨4, .data⟩, ⟨3, .guard⟩], some (3, false)⟩) rfl ?_
     try simp only [sxHf]
     refine tkHf (i := 6) (oi := ⟨some 18, .move (.tmp 17), 4, "region.go:148", #[⟨5, .data⟩, ⟨3, .chain⟩, ⟨3, .guard⟩], some (3, false)⟩) rfl ?_
     try simp only [sxHf]
     refine tuHf (i := 7) (oi := ⟨some 19, .fieldAddr 68 (.tmp 4) 1, 0, "region.go:148", #[⟨6, .guard⟩], some (6, true)⟩) rfl ?_
     try simp only [sxHf]
     refine tuHf (i := 8) (oi := ⟨some 20, .load 3 (.tmp 19), 3, "region.go:148", #[⟨7, .data⟩, ⟨6, .guard⟩], some (6, true)⟩) rfl ?_
     try simp only [sxHf]
     refine tuHf (i := 9) (oi := ⟨some 21, .move (.tmp 0), 30, "region.go:148", #[⟨6, .guard⟩], some (6, true)⟩) rfl ?_
     try simp only [sxHf]
     refine tuHf (i := 10) (oi := ⟨some 22, .move (.tmp 3), 3, "region.go:148", #[⟨6, .guard⟩], some (6, true)⟩) rfl ?_
     try simp only [sxHf]
     refine tuHf (i := 11) (oi := ⟨some 23, .binOp .sub 3 (.tmp 22) (.const (.int .i64 1)) 3, 3, "region.go:148", #[⟨10, .data⟩, ⟨6, .guard⟩], some (6, true)⟩) rfl ?_
     try simp only [sxHf]
     refine tuHf (i := 12) (oi := ⟨some 24, .indexAddr 30 (.tmp 21) (.tmp 23), 0, "region.go:148", #[⟨9, .data⟩, ⟨11, .data⟩, ⟨6, .guard⟩], some (6, true)⟩) rfl ?_
     try simp only [sxHf]
     refine tuHf (i := 13) (oi := ⟨some 25, .fieldAddr 68 (.tmp 24) 3, 0, "region.go:148", #[⟨12, .data⟩, ⟨6, .guard⟩], some (6, true)⟩) rfl ?_
     try simp only [sxHf]
     refine tuHf (i := 14) (oi := ⟨some 26, .load 3 (.tmp 25), 3, "region.go:148", #[⟨13, .data⟩, ⟨6, .guard⟩], some (6, true)⟩) rfl ?_
     try simp only [sxHf]
     refine tuHf (i := 15) (oi := ⟨some 27, .binOp .leq 3 (.tmp 20) (.tmp 26) 3, 4, "region.go:148", #[⟨8, .data⟩, ⟨14, .data⟩, ⟨6, .guard⟩], some (6, true)⟩) rfl ?_
     try simp only [sxHf]
     refine tkHf (i := 16) (oi := ⟨some 28, .pick (.tmp 18) (.tmp 27) (.const (.bool false)), 4, "region.go:148", #[⟨6, .data⟩, ⟨15, .data⟩, ⟨3, .guard⟩], some (3, false)⟩) rfl ?_
     try simp only [sxHf]
     refine tkHf (i := 17) (oi := ⟨some 29, .pick (.tmp 15) (.const (.bool true)) (.tmp 28), 4, "region.go:148", #[⟨3, .data⟩, ⟨16, .data⟩], none⟩) rfl ?_
     try simp only [sxHf]
     refine wpAnyH_done (by kernel_rfl) ?_ _
     go_wp2_with fail
     go_roundw
     case rel => exact ⟨k + 1, by omega, by go_num, hHeld.2.2.2.2.2, fun j h hj => by
      obtain rfl : j = k := by have := K0.out; omega
      rw [← HU.out]; exact ⟨OK.out, fun h0 => absurd h0 (by have := K0.out; omega)⟩⟩
     case measure => simp [intOf]; omega
    ·obtain ⟨k, rfl⟩ : ∃ i, k = i + 1 := ⟨k - 1, by omega⟩
     obtain ⟨_, _, _, y3⟩ := hv1 k (by omega)
     have y3 := (wc _).trans y3
     clear hv1 wc k0
     have g0 : decide ((0 : Int) < (((k + 1 : Nat)) : Int)) = true := by simp
     have r1 : IntKind.i64.wrap (k : Int) = (k : Int) := IntWalk.i64_in _ (by omega)
     have r2 : (0 : Int) ≤ (k : Int) := by omega
     have r3 : (k : Int) < (l.length : Int) := by omega
     have ev : ∃ v, v = (l[k]'(by omega)).Y1 := ⟨_, rfl⟩
     obtain ⟨v, hv⟩ := ev
     rw [← hv] at y3
     have HV := Lib.hid hv; clear hv
     have E0 := Lib.hid (Ix.new (u := u) HB.out y3 hbw)
     by_cases c : u.Y0 ≤ v
     ·have c1 : decide (u.Y0 ≤ v) = true := decide_eq_true c
      have C := Lib.hid c; clear c
      go_wp2_with fail
      refine wp_region_held_drew (S := fun w' => w'.cell? ⟨wr.heap.size, 0, none⟩ = some (.int .i64 u.X0) ∧ w'.cell? ⟨wr.heap.size, 1, none⟩ = some (.int .i64 u.Y0) ∧ w'.cell? ⟨wr.heap.size, 2, none⟩ = some (.int .i64 u.X1) ∧ w'.cell? ⟨wr.heap.size, 3, none⟩ = some (.int .i64 u.Y1) ∧ w'.cell? ⟨b1, (o1 + k * 4 + 3), none⟩ = some (.int .i64 v) ∧ b1 < w'.heap.size ∧ wr.heap.size < w'.heap.size ∧ Hid (Below w0.heap.size w0 w')) (by kernel_rfl) ?_ (fun hHeld => ?_)
      ·exact Ix.drewN E0.out 1
      refine tkHf (i := 0) (oi := ⟨some 12, .load 68 (.tmp 4), 68, "region.go:148", #[], none⟩) rfl ?_
      try simp only [sxHf]
      refine wpAnyH_ready (rs := [1]) (by kernel_rfl) (by simp) ?_
      refine AllReadyH.cons (o := ⟨some 13, .call { callee := .value (.func 63), args := #[.tmp 12], argTypes := #[68] }, 4, "region.go:148", #[⟨0, .data⟩], none⟩) rfl (fun K hK => ?_) AllReadyH.nil
      go_simp
      go_at_call 63
      refine (tright_nd _ _ _ _ _).mono ?_
      rintro e w' ⟨rfl, hb⟩
      rw [oa]
      try go_wp2_with fail
      refine hK.out _ _ (Ix.go ‹_› hb) (fun hHeld2 => ?_)
      clear hK K hHeld hb
      have hHeld := hHeld2; clear hHeld2
      try simp only [sxHf]
      refine tkHf (i := 2) (oi := ⟨some 14, .unOp .not 4 (.tmp 13), 4, "region.go:148", #[⟨1, .data⟩], none⟩) rfl ?_
      try simp only [sxHf]
      refine tkHf (i := 3) (oi := ⟨some 15, .move (.tmp 14), 4, "region.go:148", #[⟨2, .data⟩, ⟨1, .chain⟩], none⟩) rfl ?_
      try simp only [sxHf]
      refine tkHf (i := 4) (oi := ⟨some 16, .move (.tmp 3), 3, "region.go:148", #[⟨3, .guard⟩], some (3, false)⟩) rfl ?_
      try simp only [sxHf]
      refine tkHf (i := 5) (oi := ⟨some 17, .binOp .gtr 3 (.tmp 16) (.const (.int .i64 0)) 3, 4, "region.go:148", #[⟨4, .data⟩, ⟨3, .guard⟩], some (3, false)⟩) rfl ?_
      try simp only [sxHf]
      refine tkHf (i := 6) (oi := ⟨some 18, .move (.tmp 17), 4, "region.go:148", #[⟨5, .data⟩, ⟨3, .chain⟩, ⟨3, .guard⟩], some (3, false)⟩) rfl ?_
      try simp only [sxHf]
      refine tkHf (i := 7) (oi := ⟨some 19, .fieldAddr 68 (.tmp 4) 1, 0, "region.go:148", #[⟨6, .guard⟩], some (6, true)⟩) rfl ?_
      try simp only [sxHf]
      refine tkHf (i := 8) (oi := ⟨some 20, .load 3 (.tmp 19), 3, "region.go:148", #[⟨7, .data⟩, ⟨6, .guard⟩], some (6, true)⟩) rfl ?_
      try simp only [sxHf]
      refine tkHf (i := 9) (oi := ⟨some 21, .move (.tmp 0), 30, "region.go:148", #[⟨6, .guard⟩], some (6, true)⟩) rfl ?_
      try simp only [sxHf]
      refine tkHf (i := 10) (oi := ⟨some 22, .move (.tmp 3), 3, "region.go:148", #[⟨6, .guard⟩], some (6, true)⟩) rfl ?_
      try simp only [sxHf]
      refine tkHf (i := 11) (oi := ⟨some 23, .binOp .sub 3 (.tmp 22) (.const (.int .i64 1)) 3, 3, "region.go:148", #[⟨10, .data⟩, ⟨6, .guard⟩], some (6, true)⟩) rfl ?_
      try simp only [sxHf]
      refine tkHf (i := 12) (oi := ⟨some 24, .indexAddr 30 (.tmp 21) (.tmp 23), 0, "region.go:148", #[⟨9, .data⟩, ⟨11, .data⟩, ⟨6, .guard⟩], some (6, true)⟩) rfl ?_
      try simp only [sxHf]
      refine tkHf (i := 13) (oi := ⟨some 25, .fieldAddr 68 (.tmp 24) 3, 0, "region.go:148", #[⟨12, .data⟩, ⟨6, .guard⟩], some (6, true)⟩) rfl ?_
      try simp only [sxHf]
      refine tkHf (i := 14) (oi := ⟨some 26, .load 3 (.tmp 25), 3, "region.go:148", #[⟨13, .data⟩, ⟨6, .guard⟩], some (6, true)⟩) rfl ?_
      try simp only [sxHf]
      refine tkHf (i := 15) (oi := ⟨some 27, .binOp .leq 3 (.tmp 20) (.tmp 26) 3, 4, "region.go:148", #[⟨8, .data⟩, ⟨14, .data⟩, ⟨6, .guard⟩], some (6, true)⟩) rfl ?_
      try simp only [sxHf]
      refine tkHf (i := 16) (oi := ⟨some 28, .pick (.tmp 18) (.tmp 27) (.const (.bool false)), 4, "region.go:148", #[⟨6, .data⟩, ⟨15, .data⟩, ⟨3, .guard⟩], some (3, false)⟩) rfl ?_
      try simp only [sxHf]
      refine tkHf (i := 17) (oi := ⟨some 29, .pick (.tmp 15) (.const (.bool true)) (.tmp 28), 4, "region.go:148", #[⟨3, .data⟩, ⟨16, .data⟩], none⟩) rfl ?_
      try simp only [sxHf]
      refine wpAnyH_done (by kernel_rfl) ?_ _
      go_wp2_with fail
      go_ret
      exact ⟨false, ⟨fun h => (by cases h), fun h => absurd ((h (k + 1) hlt).2 (by omega)) (by rw [← HU.out]; simp only [Nat.add_sub_cancel]; rw [← HV.out]; have := C.out; omega)⟩, rfl, hHeld.2.2.2.2.2.2.2.out⟩
     ·have c1 : decide (u.Y0 ≤ v) = false := decide_eq_false c
      have C := Lib.hid c; clear c
      go_wp2_with fail
      refine wp_region_held_drew (S := fun w' => w'.cell? ⟨wr.heap.size, 0, none⟩ = some (.int .i64 u.X0) ∧ w'.cell? ⟨wr.heap.size, 1, none⟩ = some (.int .i64 u.Y0) ∧ w'.cell? ⟨wr.heap.size, 2, none⟩ = some (.int .i64 u.X1) ∧ w'.cell? ⟨wr.heap.size, 3, none⟩ = some (.int .i64 u.Y1) ∧ w'.cell? ⟨b1, (o1 + k * 4 + 3), none⟩ = some (.int .i64 v) ∧ b1 < w'.heap.size ∧ wr.heap.size < w'.heap.size ∧ Hid (Below w0.heap.size w0 w')) (by kernel_rfl) ?_ (fun hHeld => ?_)
      ·exact Ix.drewN E0.out 1
      refine tkHf (i := 0) (oi := ⟨some 12, .load 68 (.tmp 4), 68, "region.go:148", #[], none⟩) rfl ?_
      try simp only [sxHf]
      refine wpAnyH_ready (rs := [1]) (by kernel_rfl) (by simp) ?_
      refine AllReadyH.cons (o := ⟨some 13, .call { callee := .value (.func 63), args := #[.tmp 12], argTypes := #[68] }, 4, "region.go:148", #[⟨0, .data⟩], none⟩) rfl (fun K hK => ?_) AllReadyH.nil
      go_simp
      go_at_call 63
      refine (tright_nd _ _ _ _ _).mono ?_
      rintro e w' ⟨rfl, hb⟩
      rw [oa]
      try go_wp2_with fail
      refine hK.out _ _ (Ix.go ‹_› hb) (fun hHeld2 => ?_)
      clear hK K hHeld hb
      have hHeld := hHeld2; clear hHeld2
      try simp only [sxHf]
      refine tkHf (i := 2) (oi := ⟨some 14, .unOp .not 4 (.tmp 13), 4, "region.go:148", #[⟨1, .data⟩], none⟩) rfl ?_
      try simp only [sxHf]
      refine tkHf (i := 3) (oi := ⟨some 15, .move (.tmp 14), 4, "region.go:148", #[⟨2, .data⟩, ⟨1, .chain⟩], none⟩) rfl ?_
      try simp only [sxHf]
      refine tkHf (i := 4) (oi := ⟨some 16, .move (.tmp 3), 3, "region.go:148", #[⟨3, .guard⟩], some (3, false)⟩) rfl ?_
      try simp only [sxHf]
      refine tkHf (i := 5) (oi := ⟨some 17, .binOp .gtr 3 (.tmp 16) (.const (.int .i64 0)) 3, 4, "region.go:148", #[⟨4, .data⟩, ⟨3, .guard⟩], some (3, false)⟩) rfl ?_
      try simp only [sxHf]
      refine tkHf (i := 6) (oi := ⟨some 18, .move (.tmp 17), 4, "region.go:148", #[⟨5, .data⟩, ⟨3, .chain⟩, ⟨3, .guard⟩], some (3, false)⟩) rfl ?_
      try simp only [sxHf]
      refine tkHf (i := 7) (oi := ⟨some 19, .fieldAddr 68 (.tmp 4) 1, 0, "region.go:148", #[⟨6, .guard⟩], some (6, true)⟩) rfl ?_
      try simp only [sxHf]
      refine tkHf (i := 8) (oi := ⟨some 20, .load 3 (.tmp 19), 3, "region.go:148", #[⟨7, .data⟩, ⟨6, .guard⟩], some (6, true)⟩) rfl ?_
      try simp only [sxHf]
      refine tkHf (i := 9) (oi := ⟨some 21, .move (.tmp 0), 30, "region.go:148", #[⟨6, .guard⟩], some (6, true)⟩) rfl ?_
      try simp only [sxHf]
      refine tkHf (i := 10) (oi := ⟨some 22, .move (.tmp 3), 3, "region.go:148", #[⟨6, .guard⟩], some (6, true)⟩) rfl ?_
      try simp only [sxHf]
      refine tkHf (i := 11) (oi := ⟨some 23, .binOp .sub 3 (.tmp 22) (.const (.int .i64 1)) 3, 3, "region.go:148", #[⟨10, .data⟩, ⟨6, .guard⟩], some (6, true)⟩) rfl ?_
      try simp only [sxHf]
      refine tkHf (i := 12) (oi := ⟨some 24, .indexAddr 30 (.tmp 21) (.tmp 23), 0, "region.go:148", #[⟨9, .data⟩, ⟨11, .data⟩, ⟨6, .guard⟩], some (6, true)⟩) rfl ?_
      try simp only [sxHf]
      refine tkHf (i := 13) (oi := ⟨some 25, .fieldAddr 68 (.tmp 24) 3, 0, "region.go:148", #[⟨12, .data⟩, ⟨6, .guard⟩], some (6, true)⟩) rfl ?_
      try simp only [sxHf]
      refine tkHf (i := 14) (oi := ⟨some 26, .load 3 (.tmp 25), 3, "region.go:148", #[⟨13, .data⟩, ⟨6, .guard⟩], some (6, true)⟩) rfl ?_
      try simp only [sxHf]
      refine tkHf (i := 15) (oi := ⟨some 27, .binOp .leq 3 (.tmp 20) (.tmp 26) 3, 4, "region.go:148", #[⟨8, .data⟩, ⟨14, .data⟩, ⟨6, .guard⟩], some (6, true)⟩) rfl ?_
      try simp only [sxHf]
      refine tkHf (i := 16) (oi := ⟨some 28, .pick (.tmp 18) (.tmp 27) (.const (.bool false)), 4, "region.go:148", #[⟨6, .data⟩, ⟨15, .data⟩, ⟨3, .guard⟩], some (3, false)⟩) rfl ?_
      try simp only [sxHf]
      refine tkHf (i := 17) (oi := ⟨some 29, .pick (.tmp 15) (.const (.bool true)) (.tmp 28), 4, "region.go:148", #[⟨3, .data⟩, ⟨16, .data⟩], none⟩) rfl ?_
      try simp only [sxHf]
      refine wpAnyH_done (by kernel_rfl) ?_ _
      go_wp2_with fail
      go_roundw
      case rel => exact ⟨k + 1 + 1, by omega, by go_num, hHeld.2.2.2.2.2.2.2, fun j h hj => by
       by_cases e : j < k + 1
       ·exact HT.out j h e
       ·obtain rfl : j = k + 1 := by omega
        rw [← HU.out]
        exact ⟨OK.out, fun _ => by simp only [Nat.add_sub_cancel]; rw [← HV.out]; have := C.out; omega⟩⟩
      case measure => simp [intOf]; omega
   ·have oa : rokB ⟨u.X0, u.Y0, u.X1, u.Y1⟩ = false := (rokB_no u).2 ok
    have OK := Lib.hid ok; clear ok hv1 wc
    have E0 := Lib.hid (Jx.new (u := u) HB.out)
    go_wp2_with fail
    refine wp_region_held_drew (S := fun w' => w'.cell? ⟨wr.heap.size, 0, none⟩ = some (.int .i64 u.X0) ∧ w'.cell? ⟨wr.heap.size, 1, none⟩ = some (.int .i64 u.Y0) ∧ w'.cell? ⟨wr.heap.size, 2, none⟩ = some (.int .i64 u.X1) ∧ w'.cell? ⟨wr.heap.size, 3, none⟩ = some (.int .i64 u.Y1) ∧ wr.heap.size < w'.heap.size ∧ Hid (Below w0.heap.size w0 w')) (by kernel_rfl) ?_ (fun hHeld => ?_)
    ·exact Jx.drewN E0.out 1
    refine tkHf (i := 0) (oi := ⟨some 12, .load 68 (.tmp 4), 68, "region.go:148", #[], none⟩) rfl ?_
    try simp only [sxHf]
    refine wpAnyH_ready (rs := [1]) (by kernel_rfl) (by simp) ?_
    refine AllReadyH.cons (o := ⟨some 13, .call { callee := .value (.func 63), args := #[.tmp 12], argTypes := #[68] }, 4, "region.go:148", #[⟨0, .data⟩], none⟩) rfl (fun K hK => ?_) AllReadyH.nil
    go_simp
    go_at_call 63
    refine (tright_nd _ _ _ _ _).mono ?_
    rintro e w' ⟨rfl, hb⟩
    rw [oa]
    try go_wp2_with fail
    refine hK.out _ _ (Jx.go ‹_› hb) (fun hHeld2 => ?_)
    clear hK K hHeld hb
    have hHeld := hHeld2; clear hHeld2
    try simp only [sxHf]
    refine tkHf (i := 2) (oi := ⟨some 14, .unOp .not 4 (.tmp 13), 4, "region.go:148", #[⟨1, .data⟩], none⟩) rfl ?_
    try simp only [sxHf]
    refine tkHf (i := 3) (oi := ⟨some 15, .move (.tmp 14), 4, "region.go:148", #[⟨2, .data⟩, ⟨1, .chain⟩], none⟩) rfl ?_
    try simp only [sxHf]
    refine tuHf (i := 4) (oi := ⟨some 16, .move (.tmp 3), 3, "region.go:148", #[⟨3, .guard⟩], some (3, false)⟩) rfl ?_
    try simp only [sxHf]
    refine tuHf (i := 5) (oi := ⟨some 17, .binOp .gtr 3 (.tmp 16) (.const (.int .i64 0)) 3, 4, "region.go:148", #[⟨4, .data⟩, ⟨3, .guard⟩], some (3, false)⟩) rfl ?_
    try simp only [sxHf]
    refine tuHf (i := 6) (oi := ⟨some 18, .move (.tmp 17), 4, "region.go:148", #[⟨5, .data⟩, ⟨3, .chain⟩, ⟨3, .guard⟩], some (3, false)⟩) rfl ?_
    try simp only [sxHf]
    refine tuHf (i := 7) (oi := ⟨some 19, .fieldAddr 68 (.tmp 4) 1, 0, "region.go:148", #[⟨6, .guard⟩], some (6, true)⟩) rfl ?_
    try simp only [sxHf]
    refine tuHf (i := 8) (oi := ⟨some 20, .load 3 (.tmp 19), 3, "region.go:148", #[⟨7, .data⟩, ⟨6, .guard⟩], some (6, true)⟩) rfl ?_
    try simp only [sxHf]
    refine tuHf (i := 9) (oi := ⟨some 21, .move (.tmp 0), 30, "region.go:148", #[⟨6, .guard⟩], some (6, true)⟩) rfl ?_
    try simp only [sxHf]
    refine tuHf (i := 10) (oi := ⟨some 22, .move (.tmp 3), 3, "region.go:148", #[⟨6, .guard⟩], some (6, true)⟩) rfl ?_
    try simp only [sxHf]
    refine tuHf (i := 11) (oi := ⟨some 23, .binOp .sub 3 (.tmp 22) (.const (.int .i64 1)) 3, 3, "region.go:148", #[⟨10, .data⟩, ⟨6, .guard⟩], some (6, true)⟩) rfl ?_
    try simp only [sxHf]
    refine tuHf (i := 12) (oi := ⟨some 24, .indexAddr 30 (.tmp 21) (.tmp 23), 0, "region.go:148", #[⟨9, .data⟩, ⟨11, .data⟩, ⟨6, .guard⟩], some (6, true)⟩) rfl ?_
    try simp only [sxHf]
    refine tuHf (i := 13) (oi := ⟨some 25, .fieldAddr 68 (.tmp 24) 3, 0, "region.go:148", #[⟨12, .data⟩, ⟨6, .guard⟩], some (6, true)⟩) rfl ?_
    try simp only [sxHf]
    refine tuHf (i := 14) (oi := ⟨some 26, .load 3 (.tmp 25), 3, "region.go:148", #[⟨13, .data⟩, ⟨6, .guard⟩], some (6, true)⟩) rfl ?_
    try simp only [sxHf]
    refine tuHf (i := 15) (oi := ⟨some 27, .binOp .leq 3 (.tmp 20) (.tmp 26) 3, 4, "region.go:148", #[⟨8, .data⟩, ⟨14, .data⟩, ⟨6, .guard⟩], some (6, true)⟩) rfl ?_
    try simp only [sxHf]
    refine tuHf (i := 16) (oi := ⟨some 28, .pick (.tmp 18) (.tmp 27) (.const (.bool false)), 4, "region.go:148", #[⟨6, .data⟩, ⟨15, .data⟩, ⟨3, .guard⟩], some (3, false)⟩) rfl ?_
    try simp only [sxHf]
    refine tkHf (i := 17) (oi := ⟨some 29, .pick (.tmp 15) (.const (.bool true)) (.tmp 28), 4, "region.go:148", #[⟨3, .data⟩, ⟨16, .data⟩], none⟩) rfl ?_
    try simp only [sxHf]
    refine wpAnyH_done (by kernel_rfl) ?_ _
    go_wp2_with fail
    go_ret
    exact ⟨false, ⟨fun h => (by cases h), fun h => absurd (h k hlt).1 (by rw [← HU.out]; exact OK.out)⟩, rfl, hHeld.2.2.2.2.2.out⟩
  ·obtain rfl : k = l.length := by omega
   go_wp2
   go_ret
   exact ⟨true, ⟨fun _ j h => HT.out j h h, fun _ => rfl⟩, rfl, HB.out⟩
end Go.Proofs.YtngddecpfhlilaaGreat
namespace Go.Proofs.YtngddecpfhlilaaGreat
def mergeGo (a b : Int) : List (Int × Int) → List Int
 | [] => [a, b]
 | q :: L => if q.1 ≤ b then mergeGo a (max b q.2) L else a :: b :: mergeGo q.1 q.2 L
def mergeI : List (Int × Int) → List Int
 | [] => []
 | q :: L => mergeGo q.1 q.2 L
end Go.Proofs.YtngddecpfhlilaaGreat
namespace Go.Proofs.YtngddecpfhlilaaGreat
structure FormAt (S : List Slab) (was : List Int) (a : Int) : Prop where
 yes : was ≠ [] → ∃ T s, S = T ++ [s] ∧ s.t = was ∧ s.x1 = a
 no : was = [] → ∀ s, S.getLast? = some s → s.x1 < a
theorem formAt_start (a : Int) : FormAt [] [] a := ⟨fun h => absurd rfl h, fun _ s h => by simp at h⟩
theorem flatS_snoc (S : List Slab) (s : Slab) : flatS (S ++ [s]) = flatS S ++ rectsOf s.x0 s.x1 s.t := by simp [flatS]
theorem rects_wide (x0 x1 b : Int) (t : List Int) : (rectsOf x0 x1 t).map (fun r => (⟨r.X0, r.Y0, b, r.Y1⟩ : Rc)) = rectsOf x0 b t := by
 simp [rectsOf, List.map_map]
theorem step_wide {S : List Slab} {was : List Int} {a b : Int} (h : FormAt S was a) (hne : was ≠ []) :
  ∃ T s, S = T ++ [s] ∧ s.t = was ∧ s.x1 = a ∧ stepF S a b was = T ++ [⟨s.x0, b, was⟩] ∧ flatS (stepF S a b was) = flatS T ++ (rectsOf s.x0 a was).map (fun r => (⟨r.X0, r.Y0, b, r.Y1⟩ : Rc)) ∧ flatS S = flatS T ++ rectsOf s.x0 a was ∧ FormAt (stepF S a b was) was b := by
 obtain ⟨T, s, rfl, e1, e2⟩ := h.yes hne
 have e : stepF (T ++ [s]) a b was = T ++ [⟨s.x0, b, was⟩] := by
  unfold stepF
  rw [if_neg hne]
  have hl : (T ++ [s]).getLast? = some s := by simp
  rw [hl]
  simp only []
  rw [if_pos ⟨e2, e1⟩, List.dropLast_concat]
 refine ⟨T, s, rfl, e1, e2, e, ?_, ?_, ?_⟩
 ·rw [e, flatS_snoc, rects_wide]
 ·rw [flatS_snoc, e2, e1]
 ·rw [e]
  exact ⟨fun _ => ⟨T, _, rfl, rfl, rfl⟩, fun h0 => absurd h0 hne⟩
theorem step_new {S : List Slab} {was c : List Int} {a b : Int} (h : FormAt S was a) (hab : a < b) (hg : Grown S a) (hc : c = [] ∨ c ≠ was) :
  stepF S a b c = (if c = [] then S else S ++ [⟨a, b, c⟩]) ∧ flatS (stepF S a b c) = flatS S ++ rectsOf a b c ∧ FormAt (stepF S a b c) c b := by
 have e : stepF S a b c = if c = [] then S else S ++ [⟨a, b, c⟩] := by
  unfold stepF
  by_cases h0 : c = []
  ·rw [if_pos h0, if_pos h0]
  ·rw [if_neg h0, if_neg h0]
   rcases List.eq_nil_or_concat S with rfl | ⟨T, s, rfl⟩
   ·rfl
   ·rw [List.concat_eq_append] at *
    have hl : (T ++ [s]).getLast? = some s := by simp
    rw [hl]
    simp only []
    rw [if_neg]
    rintro ⟨k1, k2⟩
    by_cases hw : was = []
    ·have := h.no hw s hl; omega
    ·obtain ⟨T', s', e1, e2, e3⟩ := h.yes hw
     have : s = s' := by
      have := congrArg List.getLast? e1
      simpa using this
     subst this
     rcases hc with hc | hc
     ·exact h0 hc
     ·exact hc (by rw [← k2, e2])
 refine ⟨e, ?_, ?_⟩
 ·rw [e]
  by_cases h0 : c = []
  ·rw [if_pos h0]; subst h0; simp [rectsOf, twos]
  ·rw [if_neg h0, flatS_snoc]
 ·rw [e]
  by_cases h0 : c = []
  ·rw [if_pos h0]
   refine ⟨fun k => absurd h0 k, fun _ s hs => ?_⟩
   have := hg.to s (List.mem_of_getLast? hs)
   omega
  ·rw [if_neg h0]
   exact ⟨fun _ => ⟨S, _, rfl, rfl, rfl⟩, fun k => absurd k h0⟩
theorem growF_take (c : Int → List Int) : ∀ (E : List Int) (S : List Slab) (k : Nat) (h : k + 1 < E.length), growF c S (E.take (k + 2)) = stepF (growF c S (E.take (k + 1))) E[k] E[k + 1] (c E[k]) := by
 intro E
 induction E with
 | nil => intro S k h; simp at h
 | cons a E ih =>
  intro S k h
  match E, ih, h with
  | [], _, h => simp at h
  | b :: E, ih, h =>
   cases k with
   | zero => rfl
   | succ k =>
    have := ih (stepF S a b (c a)) k (by simp at h ⊢; omega)
    simpa [growF, List.take] using this
end Go.Proofs.YtngddecpfhlilaaGreat
namespace Go.Proofs.YtngddecpfhlilaaGreat
structure MergeAt (L : List (Int × Int)) (k : Nat) (out : List Int) : Prop where
 none : k = 0 → out = []
 some : 0 < k → ∃ D a b, out = D ++ [a, b] ∧ D ++ mergeGo a b (L.drop k) = mergeI L
theorem MergeAt.start (L : List (Int × Int)) : MergeAt L 0 [] := ⟨fun _ => rfl, fun h => absurd h (Nat.lt_irrefl _)⟩
theorem MergeAt.first {L : List (Int × Int)} {out : List Int} (h : MergeAt L 0 out) (hk : 0 < L.length) : MergeAt L 1 (out ++ [L[0].1, L[0].2]) := by
 rw [h.none rfl]
 refine ⟨fun h => (by omega), fun _ => ⟨[], L[0].1, L[0].2, rfl, ?_⟩⟩
 cases L with
 | nil => simp at hk
 | cons q L => rfl
theorem MergeAt.join {L : List (Int × Int)} {k : Nat} {D : List Int} {a b : Int} (he : D ++ mergeGo a b (L.drop k) = mergeI L) (hk : k < L.length) (hle : L[k].1 ≤ b) : MergeAt L (k + 1) (D ++ [a, max b L[k].2]) := by
 refine ⟨fun h => (by omega), fun _ => ⟨D, a, max b L[k].2, rfl, ?_⟩⟩
 rw [← he, List.drop_eq_getElem_cons hk]
 show _ = D ++ (if L[k].1 ≤ b then mergeGo a (max b L[k].2) (L.drop (k + 1)) else _)
 rw [if_pos hle]
theorem MergeAt.new {L : List (Int × Int)} {k : Nat} {D : List Int} {a b : Int} (he : D ++ mergeGo a b (L.drop k) = mergeI L) (hk : k < L.length) (hle : ¬ L[k].1 ≤ b) : MergeAt L (k + 1) (D ++ [a, b] ++ [L[k].1, L[k].2]) := by
 refine ⟨fun h => (by omega), fun _ => ⟨D ++ [a, b], L[k].1, L[k].2, rfl, ?_⟩⟩
 rw [← he, List.drop_eq_getElem_cons hk]
 show _ = D ++ (if L[k].1 ≤ b then _ else a :: b :: mergeGo L[k].1 L[k].2 (L.drop (k + 1)))
 rw [if_neg hle, List.append_assoc]; rfl
theorem MergeAt.done {L : List (Int × Int)} {out : List Int} (h : MergeAt L L.length out) : out = mergeI L := by
 cases L with
 | nil => exact h.none rfl
 | cons q L =>
  obtain ⟨D, a, b, rfl, he⟩ := h.some (by simp)
  rw [← he, List.drop_length]; rfl
end Go.Proofs.YtngddecpfhlilaaGreat
namespace Go.Proofs.YtngddecpfhlilaaGreat
theorem twos_take : ∀ (m : Nat) (C : List Int) (h : 2 * m + 1 < C.length), twos (C.take (2 * m + 2)) = twos (C.take (2 * m)) ++ [(C[2 * m], C[2 * m + 1])]
 | 0, a :: b :: t, _ => rfl
 | m + 1, a :: b :: t, h => by
  have e := twos_take m t (by simp at h; omega)
  show twos (a :: b :: t.take (2 * m + 2)) = twos (a :: b :: t.take (2 * m)) ++ [_]
  show (a, b) :: twos (t.take (2 * m + 2)) = (a, b) :: twos (t.take (2 * m)) ++ [_]
  rw [e]; rfl
theorem rects_take (a b : Int) (m : Nat) (C : List Int) (h : 2 * m + 1 < C.length) : rectsOf a b (C.take (2 * m + 2)) = rectsOf a b (C.take (2 * m)) ++ [⟨a, C[2 * m], b, C[2 * m + 1]⟩] := by
 unfold rectsOf; rw [twos_take m C h]; simp
structure FmR (c : Int → List Int) (E : List Int) (k : Nat) (S : List Slab) (was : List Int) (last : Nat) : Prop where
 eq : S = growF c [] (E.take (k + 1))
 here : ∀ h : k < E.length, FormAt S was E[k] ∧ Grown S E[k]
 zero : k = 0 → was = []
 last : was ≠ [] → ∀ T s, S = T ++ [s] → last = (flatS T).length
theorem FmR.start (c : Int → List Int) (E : List Int) : FmR c E 0 [] [] 0 := by
 refine ⟨?_, fun h => ⟨formAt_start _, ⟨trivial, fun s hs => by cases hs⟩⟩, fun _ => rfl, fun h => absurd rfl h⟩
 cases E <;> rfl
section
variable {c : Int → List Int} {E : List Int} {k : Nat} {S : List Slab} {was : List Int} {last : Nat}
theorem FmR.span (hE : Asc E) (hG : InG E) (hk : k + 1 < E.length) : Span E[k] E[k + 1] := by
 have h : ∀ {t : List Int}, Asc t → ∀ {i : Nat} (h : i + 1 < t.length), t[i] < t[i + 1] := by
  intro t
  induction t with
  | nil => intro _ i h; simp at h
  | cons a t ih =>
   intro ha i h
   cases i with
   | zero => simp only [List.getElem_cons_zero, List.getElem_cons_succ]; exact ha.lt _ (List.getElem_mem _)
   | succ i => simp only [List.getElem_cons_succ]; exact ih ha.tail (by simpa using h)
 exact ⟨(hG _ (List.getElem_mem _)).1, h hE hk, (hG _ (List.getElem_mem _)).2⟩
theorem FmR.wide (h : FmR c E k S was last) (hk : k + 1 < E.length) (hE : Asc E) (hG : InG E) (hc : ∀ x, ColOk (c x)) (e : c E[k] = was) (hne : was ≠ []) :
  ∃ T R, flatS S = T ++ R ∧ last = T.length ∧ flatS (growF c [] (E.take (k + 2))) = T ++ R.map (fun r => (⟨r.X0, r.Y0, E[k + 1], r.Y1⟩ : Rc)) ∧ FmR c E (k + 1) (growF c [] (E.take (k + 2))) was last := by
 have g := growF_take c E [] k hk
 rw [← h.eq, e] at g
 obtain ⟨h1, h2⟩ := h.here (by omega)
 obtain ⟨T, s, e1, e2, e3, e4, e5, e6, e7⟩ := step_wide (b := E[k + 1]) h1 hne
 have h3 := (step_is h2 (FmR.span hE hG hk) (e ▸ hc E[k])).1
 have hl := h.last hne T s e1
 refine ⟨flatS T, rectsOf s.x0 E[k] was, e6, hl, by rw [g]; exact e5, rfl, fun _ => ?_, fun h0 => by omega, fun _ T' s' hT => ?_⟩
 ·rw [g]; exact ⟨e7, h3⟩
 ·rw [g, e4] at hT
  have : T = T' := (List.append_inj' hT rfl).1
  rw [← this]; exact hl
theorem FmR.new (h : FmR c E k S was last) (hk : k + 1 < E.length) (hE : Asc E) (hG : InG E) (hc : ∀ x, ColOk (c x)) (hn : c E[k] = [] ∨ c E[k] ≠ was) :
  flatS (growF c [] (E.take (k + 2))) = flatS S ++ rectsOf E[k] E[k + 1] (c E[k]) ∧ FmR c E (k + 1) (growF c [] (E.take (k + 2))) (c E[k]) (flatS S).length := by
 have g := growF_take c E [] k hk
 rw [← h.eq] at g
 obtain ⟨h1, h2⟩ := h.here (by omega)
 have hsp := FmR.span hE hG hk
 obtain ⟨e1, e2, e3⟩ := step_new h1 hsp.2.1 h2 hn
 have h3 := (step_is h2 hsp (hc E[k])).1
 refine ⟨by rw [g]; exact e2, rfl, fun _ => ?_, fun h0 => by omega, fun hne T' s' hT => ?_⟩
 ·rw [g]; exact ⟨e3, h3⟩
 ·rw [g, e1, if_neg hne] at hT
  have : S = T' := (List.append_inj' hT rfl).1
  rw [← this]
theorem FmR.done (h : FmR c E k S was last) (hk : E.length ≤ k + 1) : S = growF c [] E := by
 rw [h.eq, List.take_of_length_le hk]
end
end Go.Proofs.YtngddecpfhlilaaGreat
namespace Go.Proofs.YtngddecpfhlilaaGreat
open Go.RowKit Go.ChangeShapes Go.WideShapes Go.ChangeAt Go.Joins Go.Deep
theorem own : ownKnob Tryz.prog.godebug = none := by kernel_rfl
theorem laidOut : laidOutB Tryz.prog = true := by kernel_rfl
theorem cellsRect : Tryz.prog.cellsOf 68 = 4 := by kernel_rfl
theorem bounds_i64 {n : Int} (h : (Lit.int .i64 n).wf = true) : In64 n := by
 simp [Lit.wf, IntKind.min, IntKind.max, IntKind.signed, IntKind.bits] at h
 exact h
theorem add_at (b o i : Nat) : (⟨b, o, none⟩ : Addr).add i = ⟨b, o + i, none⟩ := by unfold Addr.add; split <;> simp_all
theorem list_of {α : Type} {P : Nat → α → Prop} : ∀ (n : Nat), (∀ i, i < n → ∃ x, P i x) → ∃ l : List α, l.length = n ∧ ∀ i (h : i < l.length), P i l[i]
 | 0, _ => ⟨[], rfl, fun i h => absurd h (by simp)⟩
 | n + 1, h => by
  obtain ⟨l, hl, hp⟩ := list_of n (fun i hi => h i (by omega))
  obtain ⟨x, hx⟩ := h n (by omega)
  refine ⟨l ++ [x], by simp [hl], fun i hi => ?_⟩
  by_cases e : i < l.length
  ·rw [List.getElem_append_left e]; exact hp i e
  ·simp only [List.length_append, List.length_cons, List.length_nil] at hi
   obtain rfl : i = n := by omega
   have : (l ++ [x])[i]'(by simp; omega) = x := by rw [List.getElem_append_right (by omega)]; simp [hl]
   rw [this]; exact hx
section
variable {H : Type} {enc : TypeId × Value → H} {w : World} {held : Bool}
theorem each_rect {a : Addr} {n : Nat} {cs : List Value} {y : DataW H × List MemPlace} (hc : w.cells? 0 a 4 = some cs) (ht : DataW.trod enc Tryz.prog w 0 (fun _ => true) held n 68 cs = some y) :
  ∃ x : Rc, InR x ∧ ∀ j u, [Value.int .i64 x.X0, .int .i64 x.Y0, .int .i64 x.X1, .int .i64 x.Y1][j]? = some u → w.cell? (a.add j) = some u := by
 obtain ⟨ys, n', _, _, hlen, hyl, hf⟩ := DataW.trod_struct Tryz.underlying68 ht
 obtain ⟨_, hcl, hat⟩ := World.cells?_some hc
 match cs, hcl, hat with
 | [c0, c1, c2, c3], _, hat =>
  have e3 : Tryz.prog.cellsOf 3 = 1 := by kernel_rfl
  match ys, hyl, hf with
  | [y0, y1, y2, y3], _, hf =>
   have h0 : DataW.trod enc Tryz.prog w 0 (fun _ => true) held n' 3 [c0] = some y0 := by have := hf 0 _ rfl; simpa [e3] using this
   have h1 : DataW.trod enc Tryz.prog w 0 (fun _ => true) held n' 3 [c1] = some y1 := by have := hf 1 _ rfl; simpa [e3] using this
   have h2 : DataW.trod enc Tryz.prog w 0 (fun _ => true) held n' 3 [c2] = some y2 := by have := hf 2 _ rfl; simpa [e3] using this
   have h3 : DataW.trod enc Tryz.prog w 0 (fun _ => true) held n' 3 [c3] = some y3 := by have := hf 3 _ rfl; simpa [e3] using this
   obtain ⟨A, hA, _, wA⟩ := DataW.trod_int Tryz.underlying3 h0
   obtain ⟨B, hB, _, wB⟩ := DataW.trod_int Tryz.underlying3 h1
   obtain ⟨C, hC, _, wC⟩ := DataW.trod_int Tryz.underlying3 h2
   obtain ⟨D, hD, _, wD⟩ := DataW.trod_int Tryz.underlying3 h3
   obtain rfl : c0 = .int .i64 A := by simpa using hA
   obtain rfl : c1 = .int .i64 B := by simpa using hB
   obtain rfl : c2 = .int .i64 C := by simpa using hC
   obtain rfl : c3 = .int .i64 D := by simpa using hD
   refine ⟨⟨A, B, C, D⟩, ⟨bounds_i64 wA, bounds_i64 wB, bounds_i64 wC, bounds_i64 wD⟩, fun j u hu => ?_⟩
   have hj : j < 4 := by have := (List.getElem?_eq_some_iff.1 hu).1; simpa using this
   rw [hat j hj]; exact hu
end
end Go.Proofs.YtngddecpfhlilaaGreat
namespace Go.Proofs.YtngddecpfhlilaaGreat
open Go.RowKit Go.ChangeShapes Go.WideShapes Go.ChangeAt Go.Joins Go.Deep
section
variable {H : Type} {enc : TypeId × Value → H} {w : World} {held : Bool}
end
end Go.Proofs.YtngddecpfhlilaaGreat
