/-
  Contracts of layer 13 (6): the comparisons of sides, of points and of lots, and the library's sorts of them.
  Plain model of the parts of a region: which rectangles are reached, in which order.
  Contracts of layer 13 (16): odd, over points and over ints.
-/
import Derived.Test.YtngddecpfhlilaaGreatC19
import Derived.Test.YtngddecpfhlilaaGreatC07
import Derived.Test.YtngddecpfhlilaaGreatC18
import Derived.Test.YtngddecpfhlilaaGreatWs
import Derived.Test.YtngddecpfhlilaaGreatC09
import Derived.Laws.StructEq
import Derived.BigQuiet
import Derived.Shelf.SlSortCmp.Whole1
set_option linter.unusedVariables false
set_option maxRecDepth 100000
namespace Go.Proofs.YtngddecpfhlilaaGreat
open Go.RowKit Go.Shelf Go.Lib Go.Sort
theorem tkK9 {v : Value} {P : Program} {ops : Array Oper} {Q : Exit → Act → World → Prop} {md : Region.Mode} {S : World → Prop} {i : Nat} {oi : Oper} {fuel : Nat} {listed : Array Bool} {a : Act} {w : World} (hi : ops[i]? = some oi) (h : wpAnyH P md ops Q S fuel (listed.setIfInBounds i true) (a.put oi.dst v) w) (hy : ∀ w, S w → (execOp a.eval oi).run P w = .ok (.value v) w := by (intro w hSw; (try dsimp only at hSw); go_simp); try with_reducible rfl) (hs : Region.noSelect ops = true := by kernel_rfl) (hf : Region.free md ops listed i = true := by kernel_rfl) (hr : (Region.ready md ops listed).contains i = true := by kernel_rfl) (hQ : ∀ c a w, Q (.panic c) (a.put oi.dst v) w → Q (.panic c) a w := by exact fun _ _ _ h => h) (hg : Region.wanted oi (yielded ops a.tmps) = true := by rfl) (hS : S w := by assumption) : wpAnyH P md ops Q S (fuel + 1) listed a w :=
 wpAnyH_take hi hs hf hr hQ (Or.inl ⟨hg, hy⟩) hS h
theorem sxK9 : (∀ (a : Act) (v : Value), a.put none v = a) ∧ (∀ (a : Act) (d : Tmp) (v : Value), a.put (some d) v = { a with tmps := a.tmps.setIfInBounds d v }) ∧ (∀ {α : Type} (l : List α) (i : Nat) (x : α), l.toArray.setIfInBounds i x = (l.set i x).toArray) ∧ (∀ {α : Type} (l : List α) (x y : α), (x :: l).set 0 y = y :: l) ∧ (∀ {α : Type} (l : List α) (x y : α) (n : Nat), (x :: l).set (n + 1) y = x :: l.set n y) :=
 ⟨fun _ _ => rfl, fun _ _ _ => rfl, fun _ _ _ => List.setIfInBounds_toArray .., fun _ _ _ => rfl, fun _ _ _ _ => rfl⟩
instance : Inhabited Sd := ⟨⟨0, 0, 0, 0⟩⟩
instance : Inhabited Pt := ⟨⟨0, 0⟩⟩
instance : Inhabited LtV := ⟨⟨⟨0, 0, [], []⟩, ⟨none, 0, none, 0⟩⟩⟩
def keyS (s : Sd) : Pt := ⟨s.x, s.st⟩
def keyP (p : Pt) : Pt := ⟨p.X, p.Y⟩
def encS (s : Sd) : List Value := [.int .i64 s.x, .int .i64 s.y0, .int .i64 s.y1, .int .i64 s.st]
def encPt (p : Pt) : List Value := [.int .i64 p.X, .int .i64 p.Y]
def sdcells (E : List Sd) : List Value := E.flatMap encS
def ptcells13 (E : List Pt) : List Value := E.flatMap encPt
theorem sdcells_get : ∀ (E : List Sd) (t : Nat), t < E.length * 4 → (sdcells E)[t]? = some ((encS E[t / 4]!)[t % 4]!) := by
 intro E
 induction E with
 | nil => intro t h; simp at h
 | cons e E ih =>
  intro t h
  match t with
  | 0 => rfl
  | 1 => rfl
  | 2 => rfl
  | 3 => rfl
  | t + 4 =>
   have h' : t < E.length * 4 := by simp at h; omega
   show (sdcells E)[t]? = _
   rw [ih t h', show (t + 4) / 4 = t / 4 + 1 by omega, show (t + 4) % 4 = t % 4 by omega]
   simp
theorem ptcells13_get : ∀ (E : List Pt) (t : Nat), t < E.length * 2 → (ptcells13 E)[t]? = some ((encPt E[t / 2]!)[t % 2]!) := by
 intro E
 induction E with
 | nil => intro t h; simp at h
 | cons e E ih =>
  intro t h
  match t with
  | 0 => rfl
  | 1 => rfl
  | t + 2 =>
   have h' : t < E.length * 2 := by simp at h; omega
   show (ptcells13 E)[t]? = _
   rw [ih t h', show (t + 2) / 2 = t / 2 + 1 by omega, show (t + 2) % 2 = t % 2 by omega]
   simp
theorem tvcells_get : ∀ (E : List LtV) (t : Nat), t < E.length * 4 → (tvcells E)[t]? = some ((tvc E[t / 4]!)[t % 4]!) := by
 intro E
 induction E with
 | nil => intro t h; simp at h
 | cons e E ih =>
  intro t h
  match t with
  | 0 => rfl
  | 1 => rfl
  | 2 => rfl
  | 3 => rfl
  | t + 4 =>
   have h' : t < E.length * 4 := by simp at h; omega
   show (tvcells E)[t]? = _
   rw [ih t h', show (t + 4) / 4 = t / 4 + 1 by omega, show (t + 4) % 4 = t % 4 by omega]
   simp
def CqO (o b : Nat) (p q : Pt) (W w : World) : Prop := w.cell? ⟨b, 0, none⟩ = some (.int .i64 p.X) ∧ w.cell? ⟨b, o, none⟩ = some (.int .i64 p.Y) ∧ w.cell? ⟨b + 1, 0, none⟩ = some (.int .i64 q.X) ∧ w.cell? ⟨b + 1, o, none⟩ = some (.int .i64 q.Y) ∧ b < w.heap.size ∧ b + 1 < w.heap.size ∧ Hid (CmpG W w)
theorem CqO.go {o b : Nat} {p q : Pt} {W w w' : World} (h : CqO o b p q W w) (hb : Below w.heap.size w w') (hc : CmpG W w') : CqO o b p q W w' := by
 obtain ⟨x, y, u, v, l1, l2, _⟩ := h
 exact ⟨(hb.cell (p := ⟨b, 0, none⟩) l1).trans x, (hb.cell (p := ⟨b, o, none⟩) l1).trans y, (hb.cell (p := ⟨b + 1, 0, none⟩) l2).trans u, (hb.cell (p := ⟨b + 1, o, none⟩) l2).trans v, Nat.lt_of_lt_of_le l1 hb.size, Nat.lt_of_lt_of_le l2 hb.size, Lib.hid hc⟩
theorem CqO.drewN {o b : Nat} {p q : Pt} {W w : World} (h : CqO o b p q W w) (n : Nat) : CqO o b p q W (w.drewN n) := h.go (below_drewN (Below.refl _ _) n) (h.2.2.2.2.2.2.out.drewN n)
theorem CqO.alloc {o b : Nat} {p q : Pt} {W w : World} (h : CqO o b p q W w) (x : Obj) : CqO o b p q W (w.alloc x) := h.go ((Below.refl _ _).alloc (Nat.le_refl _) x) (h.2.2.2.2.2.2.out.alloc x)
set_option maxHeartbeats 8000000 in
theorem apC_any (x y : Sd) (w : World) : Calls Tryz.prog 105 #[.agg #[.int .i64 x.x, .int .i64 x.y0, .int .i64 x.y1, .int .i64 x.st], .agg #[.int .i64 y.x, .int .i64 y.y0, .int .i64 y.y1, .int .i64 y.st]] w fun e w' => e = .returned (.int .i64 (cmpP (keyS x) (keyS y))) ∧ CmpG w w' := by
 obtain ⟨p, hp⟩ : ∃ p, p = keyS x := ⟨_, rfl⟩
 obtain ⟨q, hq⟩ : ∃ q, q = keyS y := ⟨_, rfl⟩
 rw [← hp, ← hq]
 obtain ⟨pX, hpX⟩ : ∃ z, z = x.x := ⟨_, rfl⟩
 obtain ⟨pY, hpY⟩ : ∃ z, z = x.st := ⟨_, rfl⟩
 obtain ⟨qX, hqX⟩ : ∃ z, z = y.x := ⟨_, rfl⟩
 obtain ⟨qY, hqY⟩ : ∃ z, z = y.st := ⟨_, rfl⟩
 have e1 : p.X = pX := by rw [hp, hpX]; rfl
 have e2 : p.Y = pY := by rw [hp, hpY]; rfl
 have e3 : q.X = qX := by rw [hq, hqX]; rfl
 have e4 : q.Y = qY := by rw [hq, hqY]; rfl
 rw [← hpX, ← hpY, ← hqX, ← hqY, ← e1, ← e2, ← e3, ← e4]
 clear hpX hpY hqX hqY e1 e2 e3 e4 hp hq
 unfold cmpP
 have hc1 := fun W' => Go.Proofs.Tryz.cmp_Compare_int p.X q.X W'
 have hc2 := fun W' => Go.Proofs.Tryz.cmp_Compare_int p.Y q.Y W'
 generalize Lib.compareInt p.X q.X = r1 at *
 generalize Lib.compareInt p.Y q.Y = r2 at *
 have E0 : Hid (CqO 3 w.heap.size p q w ((w.alloc (.cells #[.int .i64 p.X, .int .i64 x.y0, .int .i64 x.y1, .int .i64 p.Y] 113)).alloc (.cells #[.int .i64 q.X, .int .i64 y.y0, .int .i64 y.y1, .int .i64 q.Y] 113))) := Lib.hid (by
  refine ⟨by simp, by simp, by simp, by simp, by simp <;> omega, by simp, Lib.hid (((CmpG.refl w).alloc _).alloc _)⟩)
 go_enter Tryz.func105, Tryz.ntmps105
 go_wp2_with fail
 generalize World.alloc (World.alloc w _) _ = wB at *
 generalize w.heap.size = g at *
 refine wp_region_held_drew (S := fun w' => w'.cell? ⟨g, 0, none⟩ = some (.int .i64 p.X) ∧ w'.cell? ⟨g, 3, none⟩ = some (.int .i64 p.Y) ∧ w'.cell? ⟨g + 1, 0, none⟩ = some (.int .i64 q.X) ∧ w'.cell? ⟨g + 1, 3, none⟩ = some (.int .i64 q.Y) ∧ g < w'.heap.size ∧ g + 1 < w'.heap.size ∧ Hid (CmpG w w')) (by kernel_rfl) ?_ (fun hHeld => ?_)
 ·exact CqO.drewN E0.out 1
 refine tkK9 (i := 0) (oi := ⟨some 5, .fieldAddr 113 (.tmp 2) 0, 0, "cells.go:46", #[], none⟩) rfl ?_
 try simp only [sxK9]
 refine tkK9 (i := 1) (oi := ⟨some 6, .load 3 (.tmp 5), 3, "cells.go:46", #[⟨0, .data⟩], none⟩) rfl ?_
 try simp only [sxK9]
 refine tkK9 (i := 2) (oi := ⟨some 7, .fieldAddr 113 (.tmp 3) 0, 0, "cells.go:46", #[], none⟩) rfl ?_
 try simp only [sxK9]
 refine tkK9 (i := 3) (oi := ⟨some 8, .load 3 (.tmp 7), 3, "cells.go:46", #[⟨2, .data⟩], none⟩) rfl ?_
 try simp only [sxK9]
 refine tkK9 (i := 5) (oi := ⟨some 10, .fieldAddr 113 (.tmp 2) 3, 0, "cells.go:46", #[], none⟩) rfl ?_
 try simp only [sxK9]
 refine tkK9 (i := 6) (oi := ⟨some 11, .load 3 (.tmp 10), 3, "cells.go:46", #[⟨5, .data⟩], none⟩) rfl ?_
 try simp only [sxK9]
 refine tkK9 (i := 7) (oi := ⟨some 12, .fieldAddr 113 (.tmp 3) 3, 0, "cells.go:46", #[], none⟩) rfl ?_
 try simp only [sxK9]
 refine tkK9 (i := 8) (oi := ⟨some 13, .load 3 (.tmp 12), 3, "cells.go:46", #[⟨7, .data⟩], none⟩) rfl ?_
 try simp only [sxK9]
 refine wpAnyH_ready (rs := [4]) (by kernel_rfl) (by simp) ?_
 refine AllReadyH.cons (o := ⟨some 9, .call { callee := .value (.func 107), args := #[.tmp 6, .tmp 8], argTypes := #[3, 3] }, 3, "cells.go:46", #[⟨1, .data⟩, ⟨3, .data⟩], none⟩) rfl (fun Kx hKx => ?_) AllReadyH.nil
 go_simp
 go_at_call 107
 refine (hc1 _).mono ?_
 rintro e w' ⟨rfl, hb⟩
 subst hb
 try go_wp2_with fail
 refine hKx.out _ _ hHeld (fun hHeld2 => ?_)
 clear hKx Kx hHeld
 have hHeld := hHeld2; clear hHeld2
 try simp only [sxK9]
 refine wpAnyH_ready (rs := [9]) (by kernel_rfl) (by simp) ?_
 refine AllReadyH.cons (o := ⟨some 14, .call { callee := .value (.func 107), args := #[.tmp 11, .tmp 13], argTypes := #[3, 3] }, 3, "cells.go:46", #[⟨6, .data⟩, ⟨8, .data⟩, ⟨4, .chain⟩], none⟩) rfl (fun Kx hKx => ?_) AllReadyH.nil
 go_simp
 go_at_call 107
 refine (hc2 _).mono ?_
 rintro e w' ⟨rfl, hb⟩
 subst hb
 try go_wp2_with fail
 refine hKx.out _ _ hHeld (fun hHeld2 => ?_)
 clear hKx Kx hHeld
 have hHeld := hHeld2; clear hHeld2
 try simp only [sxK9]
 refine wpAnyH_ready (rs := [10]) (by kernel_rfl) (by simp) ?_
 refine AllReadyH.cons (o := ⟨some 15, .buildSlice 31 2 #[(0, .tmp 9), (1, .tmp 14)], 31, "cells.go:46", #[⟨4, .data⟩, ⟨9, .data⟩], none⟩) rfl (fun Kx hKx => ?_) AllReadyH.nil
 go_simp
 refine hKx.out _ _ (show CqO 3 g p q w (World.alloc wB.drew (.cells #[.int .i64 r1, .int .i64 r2] 3)) from CqO.alloc hHeld _) (fun hHeld2 => ?_)
 clear hKx Kx hHeld
 have hHeld := hHeld2; clear hHeld2
 try simp only [sxK9]
 refine wpAnyH_ready (rs := [11]) (by kernel_rfl) (by simp) ?_
 refine AllReadyH.cons (o := ⟨some 16, .call { callee := .value (.func 106), args := #[.tmp 15], argTypes := #[31] }, 3, "cells.go:46", #[⟨10, .data⟩, ⟨9, .chain⟩], none⟩) rfl (fun Kx hKx => ?_) AllReadyH.nil
 go_simp
 go_at_call 106
 refine (or_any _ r1 r2 _ (by simp) (by simp) (by simp)).mono ?_
 rintro e w' ⟨rfl, hb⟩
 subst hb
 try go_wp2_with fail
 refine hKx.out _ _ hHeld (fun hHeld2 => ?_)
 clear hKx Kx hHeld
 have hHeld := hHeld2; clear hHeld2
 try simp only [sxK9]
 refine tkK9 (i := 12) (oi := ⟨some 4, .assign (.tmp 16), 3, "cells.go:46", #[⟨11, .data⟩, ⟨11, .chain⟩, ⟨0, .phase⟩, ⟨1, .phase⟩, ⟨2, .phase⟩, ⟨3, .phase⟩, ⟨4, .phase⟩, ⟨5, .phase⟩, ⟨6, .phase⟩, ⟨7, .phase⟩, ⟨8, .phase⟩, ⟨9, .phase⟩, ⟨10, .phase⟩, ⟨11, .phase⟩], none⟩) rfl ?_
 try simp only [sxK9]
 refine wpAnyH_done (by kernel_rfl) ?_ _
 have FIN := hHeld.2.2.2.2.2.2
 clear hHeld
 go_wp2_with fail
 go_ret
 exact ⟨rfl, FIN.out⟩
set_option maxHeartbeats 8000000 in
theorem formC_any (x y : Pt) (w : World) : Calls Tryz.prog 138 #[.agg #[.int .i64 x.X, .int .i64 x.Y], .agg #[.int .i64 y.X, .int .i64 y.Y]] w fun e w' => e = .returned (.int .i64 (cmpP (keyP x) (keyP y))) ∧ CmpG w w' := by
 obtain ⟨p, hp⟩ : ∃ p, p = keyP x := ⟨_, rfl⟩
 obtain ⟨q, hq⟩ : ∃ q, q = keyP y := ⟨_, rfl⟩
 rw [← hp, ← hq]
 obtain ⟨pX, hpX⟩ : ∃ z, z = x.X := ⟨_, rfl⟩
 obtain ⟨pY, hpY⟩ : ∃ z, z = x.Y := ⟨_, rfl⟩
 obtain ⟨qX, hqX⟩ : ∃ z, z = y.X := ⟨_, rfl⟩
 obtain ⟨qY, hqY⟩ : ∃ z, z = y.Y := ⟨_, rfl⟩
 have e1 : p.X = pX := by rw [hp, hpX]; rfl
 have e2 : p.Y = pY := by rw [hp, hpY]; rfl
 have e3 : q.X = qX := by rw [hq, hqX]; rfl
 have e4 : q.Y = qY := by rw [hq, hqY]; rfl
 rw [← hpX, ← hpY, ← hqX, ← hqY, ← e1, ← e2, ← e3, ← e4]
 clear hpX hpY hqX hqY e1 e2 e3 e4 hp hq
 unfold cmpP
 have hc1 := fun W' => Go.Proofs.Tryz.cmp_Compare_int p.X q.X W'
 have hc2 := fun W' => Go.Proofs.Tryz.cmp_Compare_int p.Y q.Y W'
 generalize Lib.compareInt p.X q.X = r1 at *
 generalize Lib.compareInt p.Y q.Y = r2 at *
 have E0 : Hid (CqO 1 w.heap.size p q w ((w.alloc (.cells #[.int .i64 p.X, .int .i64 p.Y] 146)).alloc (.cells #[.int .i64 q.X, .int .i64 q.Y] 146))) := Lib.hid (by
  refine ⟨by simp, by simp, by simp, by simp, by simp <;> omega, by simp, Lib.hid (((CmpG.refl w).alloc _).alloc _)⟩)
 go_enter Tryz.func138, Tryz.ntmps138
 go_wp2_with fail
 generalize World.alloc (World.alloc w _) _ = wB at *
 generalize w.heap.size = g at *
 refine wp_region_held_drew (S := fun w' => w'.cell? ⟨g, 0, none⟩ = some (.int .i64 p.X) ∧ w'.cell? ⟨g, 1, none⟩ = some (.int .i64 p.Y) ∧ w'.cell? ⟨g + 1, 0, none⟩ = some (.int .i64 q.X) ∧ w'.cell? ⟨g + 1, 1, none⟩ = some (.int .i64 q.Y) ∧ g < w'.heap.size ∧ g + 1 < w'.heap.size ∧ Hid (CmpG w w')) (by kernel_rfl) ?_ (fun hHeld => ?_)
 ·exact CqO.drewN E0.out 1
 refine tkK9 (i := 0) (oi := ⟨some 5, .fieldAddr 146 (.tmp 2) 0, 0, "cells.go:94", #[], none⟩) rfl ?_
 try simp only [sxK9]
 refine tkK9 (i := 1) (oi := ⟨some 6, .load 3 (.tmp 5), 3, "cells.go:94", #[⟨0, .data⟩], none⟩) rfl ?_
 try simp only [sxK9]
 refine tkK9 (i := 2) (oi := ⟨some 7, .fieldAddr 146 (.tmp 3) 0, 0, "cells.go:94", #[], none⟩) rfl ?_
 try simp only [sxK9]
 refine tkK9 (i := 3) (oi := ⟨some 8, .load 3 (.tmp 7), 3, "cells.go:94", #[⟨2, .data⟩], none⟩) rfl ?_
 try simp only [sxK9]
 refine tkK9 (i := 5) (oi := ⟨some 10, .fieldAddr 146 (.tmp 2) 1, 0, "cells.go:94", #[], none⟩) rfl ?_
 try simp only [sxK9]
 refine tkK9 (i := 6) (oi := ⟨some 11, .load 3 (.tmp 10), 3, "cells.go:94", #[⟨5, .data⟩], none⟩) rfl ?_
 try simp only [sxK9]
 refine tkK9 (i := 7) (oi := ⟨some 12, .fieldAddr 146 (.tmp 3) 1, 0, "cells.go:94", #[], none⟩) rfl ?_
 try simp only [sxK9]
 refine tkK9 (i := 8) (oi := ⟨some 13, .load 3 (.tmp 12), 3, "cells.go:94", #[⟨7, .data⟩], none⟩) rfl ?_
 try simp only [sxK9]
 refine wpAnyH_ready (rs := [4]) (by kernel_rfl) (by simp) ?_
 refine AllReadyH.cons (o := ⟨some 9, .call { callee := .value (.func 107), args := #[.tmp 6, .tmp 8], argTypes := #[3, 3] }, 3, "cells.go:94", #[⟨1, .data⟩, ⟨3, .data⟩], none⟩) rfl (fun Kx hKx => ?_) AllReadyH.nil
 go_simp
 go_at_call 107
 refine (hc1 _).mono ?_
 rintro e w' ⟨rfl, hb⟩
 subst hb
 try go_wp2_with fail
 refine hKx.out _ _ hHeld (fun hHeld2 => ?_)
 clear hKx Kx hHeld
 have hHeld := hHeld2; clear hHeld2
 try simp only [sxK9]
 refine wpAnyH_ready (rs := [9]) (by kernel_rfl) (by simp) ?_
 refine AllReadyH.cons (o := ⟨some 14, .call { callee := .value (.func 107), args := #[.tmp 11, .tmp 13], argTypes := #[3, 3] }, 3, "cells.go:94", #[⟨6, .data⟩, ⟨8, .data⟩, ⟨4, .chain⟩], none⟩) rfl (fun Kx hKx => ?_) AllReadyH.nil
 go_simp
 go_at_call 107
 refine (hc2 _).mono ?_
 rintro e w' ⟨rfl, hb⟩
 subst hb
 try go_wp2_with fail
 refine hKx.out _ _ hHeld (fun hHeld2 => ?_)
 clear hKx Kx hHeld
 have hHeld := hHeld2; clear hHeld2
 try simp only [sxK9]
 refine wpAnyH_ready (rs := [10]) (by kernel_rfl) (by simp) ?_
 refine AllReadyH.cons (o := ⟨some 15, .buildSlice 31 2 #[(0, .tmp 9), (1, .tmp 14)], 31, "cells.go:94", #[⟨4, .data⟩, ⟨9, .data⟩], none⟩) rfl (fun Kx hKx => ?_) AllReadyH.nil
 go_simp
 refine hKx.out _ _ (show CqO 1 g p q w (World.alloc wB.drew (.cells #[.int .i64 r1, .int .i64 r2] 3)) from CqO.alloc hHeld _) (fun hHeld2 => ?_)
 clear hKx Kx hHeld
 have hHeld := hHeld2; clear hHeld2
 try simp only [sxK9]
 refine wpAnyH_ready (rs := [11]) (by kernel_rfl) (by simp) ?_
 refine AllReadyH.cons (o := ⟨some 16, .call { callee := .value (.func 106), args := #[.tmp 15], argTypes := #[31] }, 3, "cells.go:94", #[⟨10, .data⟩, ⟨9, .chain⟩], none⟩) rfl (fun Kx hKx => ?_) AllReadyH.nil
 go_simp
 go_at_call 106
 refine (or_any _ r1 r2 _ (by simp) (by simp) (by simp)).mono ?_
 rintro e w' ⟨rfl, hb⟩
 subst hb
 try go_wp2_with fail
 refine hKx.out _ _ hHeld (fun hHeld2 => ?_)
 clear hKx Kx hHeld
 have hHeld := hHeld2; clear hHeld2
 try simp only [sxK9]
 refine tkK9 (i := 12) (oi := ⟨some 4, .assign (.tmp 16), 3, "cells.go:94", #[⟨11, .data⟩, ⟨11, .chain⟩, ⟨0, .phase⟩, ⟨1, .phase⟩, ⟨2, .phase⟩, ⟨3, .phase⟩, ⟨4, .phase⟩, ⟨5, .phase⟩, ⟨6, .phase⟩, ⟨7, .phase⟩, ⟨8, .phase⟩, ⟨9, .phase⟩, ⟨10, .phase⟩, ⟨11, .phase⟩], none⟩) rfl ?_
 try simp only [sxK9]
 refine wpAnyH_done (by kernel_rfl) ?_ _
 have FIN := hHeld.2.2.2.2.2.2
 clear hHeld
 go_wp2_with fail
 go_ret
 exact ⟨rfl, FIN.out⟩
set_option maxHeartbeats 2000000 in
theorem sortSd_any (B g cap : Nat) (E : List Sd) (w : World) (h : w.ownsRow B 113 4 (.slice (some ⟨g, 0, none⟩) E.length cap) E.length (sdcells E)) (hl : E.length ≤ 1099511627776) :
  Calls Tryz.prog 104 #[.slice (some ⟨g, 0, none⟩) E.length cap, .func (.func 105) #[] #[]] w fun e w' => e = .returned (.tuple #[]) ∧ ∃ E' : List Sd, E.Perm E' ∧ E'.Pairwise (fun x y => ¬ PLt (keyS y) (keyS x)) ∧ (∀ t, t < E'.length * 4 → w'.cell? ⟨g, t, none⟩ = (sdcells E')[t]?) ∧ w.grownBy w' (some g) := by
 have hg : g < w.heap.size := (h.lt g rfl).2
 have eg : ∀ args w, (callFunc 105 args).run Tryz.prog w = .ok (.enter 105 args) w := enters_of Tryz.func105 (by kernel_rfl) rfl
 have hH : HoldsK encS 4 w g 0 E.toArray := fun j hj => by
  have hj' : j < E.length * 4 := by simpa using hj
  refine ⟨?_, h.frozenAt _⟩
  rw [Nat.zero_add, h.cellAt j hj', sdcells_get E j hj', get_flatK _ _ _ _ (by simpa using hj')]
  simp [id]
 have hcmp : CmpLays Tryz.prog 105 #[] encS 4 (fun x y : Sd => cmpP (keyS x) (keyS y)) g 0 E.toArray.size w := fun _ _ _ _ x y => apC_any x y _
 have hcon := AnyQ.slices_SortFunc Go.Proofs.Tryz.laysSlF06_f104 4 Tryz.isAgg113 Tryz.sizeOf113 encS (fun _ => rfl) (fun x v hv => by simp [encS] at hv; rcases hv with rfl | rfl | rfl | rfl <;> rfl) (fun x y : Sd => cmpP (keyS x) (keyS y)) (swoP keyS) 105 #[] g 0 cap E.toArray w eg hcmp hH hg (by simp; omega)
 change Calls Tryz.prog 104 _ _ _ at hcon
 rw [show E.toArray.size = E.length from by simp] at hcon
 refine hcon.mono ?_
 rintro e w' ⟨rfl, d', n, os, hp, hs, rfl⟩
 obtain ⟨p1, _, p3⟩ := hp
 have hlen : d'.size = E.length := by simpa using p1
 have e1 : (d'.extract 0 E.length).toList = d'.toList := by rw [← hlen]; simp
 have e2 : (E.toArray.extract 0 E.length).toList = E := by simp
 rw [e1, e2] at p3
 have hHold : HoldsK encS 4 (sortWorldK encS 4 w g 0 n d' os) g 0 d' := holdsK_grow _ _ _ _ _ _ _ (by simp [putRowK]; exact hg) (holdsK_putRowK _ _ _ _ _ _ _ (holdsK_ahead _ _ _ _ _ _ _ hH) (by simp [hlen]))
 refine ⟨rfl, d'.toList, p3.symm, ?_, fun t ht => ?_, grownBy_sort⟩
 ·refine List.pairwise_iff_getElem.2 (fun i j hi hj hij => ?_)
  simp only [Array.length_toList] at hi hj
  have := hs i j (Nat.zero_le _) hij (by omega)
  rw [getElem!_pos _ j hj, getElem!_pos _ i hi] at this
  rw [ltP] at this
  simpa using this
 ·simp only [Array.length_toList] at ht
  have c := (hHold t (by simp; exact ht)).1
  rw [Nat.zero_add, get_flatK _ _ _ _ ht] at c
  rw [c, sdcells_get d'.toList t (by simpa using ht)]
  have h3 : t / 4 < d'.size := by omega
  simp [h3]
def keyL (x : LtV) : Int := x.t.id
theorem cmpI_lt (x y : Int) : Lib.compareInt x y < 0 ↔ x < y := by unfold Lib.compareInt; split <;> (try split) <;> omega
theorem ltI {α : Type} (key : α → Int) (x y : α) : ltOf (fun x y : α => Lib.compareInt (key x) (key y)) x y = decide (key x < key y) := by
 unfold ltOf
 by_cases h : key x < key y
 ·simp [h, (cmpI_lt _ _).2 h]
 ·have hn : ¬ Lib.compareInt (key x) (key y) < 0 := fun k => h ((cmpI_lt _ _).1 k)
  simp [h]
  omega
theorem swoK {α : Type} (key : α → Int) : SWO (ltOf fun x y : α => Lib.compareInt (key x) (key y)) where
 irrefl x := by rw [ltI, decide_eq_false_iff_not]; omega
 trans x y z h1 h2 := by rw [ltI, decide_eq_true_eq] at *; omega
 ntrans x y z h1 h2 := by rw [ltI, decide_eq_false_iff_not] at *; omega
theorem chC_any (x y : LtV) (w : World) : Calls Tryz.prog 135 #[.agg #[.int .i64 x.t.id, .int .i64 x.t.ow, .slice x.p.A x.t.ar.length x.p.c, .slice x.p.B x.t.fr.length x.p.d], .agg #[.int .i64 y.t.id, .int .i64 y.t.ow, .slice y.p.A y.t.ar.length y.p.c, .slice y.p.B y.t.fr.length y.p.d]] w fun e w' => e = .returned (.int .i64 (Lib.compareInt (keyL x) (keyL y))) ∧ CmpG w w' := by
 unfold keyL
 have hc := fun W' => Go.Proofs.Tryz.cmp_Compare_int x.t.id y.t.id W'
 generalize Lib.compareInt x.t.id y.t.id = r at *
 go_enter Tryz.func135, Tryz.ntmps135
 go_wp2_with (go_at_call 107; refine (hc _).mono ?_; rintro e w' ⟨rfl, hb⟩; subst hb)
 go_ret
 refine ⟨rfl, ?_⟩
 first | exact ((CmpG.refl w).alloc _).alloc _ | exact (((CmpG.refl w).alloc _).alloc _).drewN _
set_option maxHeartbeats 2000000 in
theorem sortLt_any (B g cap : Nat) (E : List LtV) (w : World) (h : w.ownsRow B 40 4 (.slice (some ⟨g, 0, none⟩) E.length cap) E.length (tvcells E)) (hl : E.length ≤ 1099511627776) :
  Calls Tryz.prog 134 #[.slice (some ⟨g, 0, none⟩) E.length cap, .func (.func 135) #[] #[]] w fun e w' => e = .returned (.tuple #[]) ∧ ∃ E' : List LtV, E.Perm E' ∧ E'.Pairwise (fun x y => keyL x ≤ keyL y) ∧ (∀ t, t < E'.length * 4 → w'.cell? ⟨g, t, none⟩ = (tvcells E')[t]?) ∧ w.grownBy w' (some g) := by
 have hg : g < w.heap.size := (h.lt g rfl).2
 have eg : ∀ args w, (callFunc 135 args).run Tryz.prog w = .ok (.enter 135 args) w := enters_of Tryz.func135 (by kernel_rfl) rfl
 have hH : HoldsK tvc 4 w g 0 E.toArray := fun j hj => by
  have hj' : j < E.length * 4 := by simpa using hj
  refine ⟨?_, h.frozenAt _⟩
  rw [Nat.zero_add, h.cellAt j hj', tvcells_get E j hj', get_flatK _ _ _ _ (by simpa using hj')]
  simp [id]
 have hcmp : CmpLays Tryz.prog 135 #[] tvc 4 (fun x y : LtV => Lib.compareInt (keyL x) (keyL y)) g 0 E.toArray.size w := fun _ _ _ _ x y => chC_any x y _
 have hcon := AnyQ.slices_SortFunc Go.Proofs.Tryz.laysSlF06_f134 4 Tryz.isAgg40 Tryz.sizeOf40 tvc (fun _ => rfl) (fun x v hv => by simp [tvc] at hv; rcases hv with rfl | rfl | rfl | rfl <;> rfl) (fun x y : LtV => Lib.compareInt (keyL x) (keyL y)) (swoK keyL) 135 #[] g 0 cap E.toArray w eg hcmp hH hg (by simp; omega)
 change Calls Tryz.prog 134 _ _ _ at hcon
 rw [show E.toArray.size = E.length from by simp] at hcon
 refine hcon.mono ?_
 rintro e w' ⟨rfl, d', n, os, hp, hs, rfl⟩
 obtain ⟨p1, _, p3⟩ := hp
 have hlen : d'.size = E.length := by simpa using p1
 have e1 : (d'.extract 0 E.length).toList = d'.toList := by rw [← hlen]; simp
 have e2 : (E.toArray.extract 0 E.length).toList = E := by simp
 rw [e1, e2] at p3
 have hHold : HoldsK tvc 4 (sortWorldK tvc 4 w g 0 n d' os) g 0 d' := holdsK_grow _ _ _ _ _ _ _ (by simp [putRowK]; exact hg) (holdsK_putRowK _ _ _ _ _ _ _ (holdsK_ahead _ _ _ _ _ _ _ hH) (by simp [hlen]))
 refine ⟨rfl, d'.toList, p3.symm, ?_, fun t ht => ?_, grownBy_sort⟩
 ·refine List.pairwise_iff_getElem.2 (fun i j hi hj hij => ?_)
  simp only [Array.length_toList] at hi hj
  have := hs i j (Nat.zero_le _) hij (by omega)
  rw [getElem!_pos _ j hj, getElem!_pos _ i hi] at this
  rw [ltI] at this
  simpa using this
 ·simp only [Array.length_toList] at ht
  have c := (hHold t (by simp; exact ht)).1
  rw [Nat.zero_add, get_flatK _ _ _ _ ht] at c
  rw [c, tvcells_get d'.toList t (by simpa using ht)]
  have h3 : t / 4 < d'.size := by omega
  simp [h3]
theorem cmpI_any (x y : Int) (w : World) : Calls Tryz.prog 107 #[.int .i64 x, .int .i64 y] w fun e w' => e = .returned (.int .i64 (Lib.compareInt x y)) ∧ w' = w := Go.Proofs.Tryz.cmp_Compare_int x y w
end Go.Proofs.YtngddecpfhlilaaGreat
namespace Go.Proofs.YtngddecpfhlilaaGreat
theorem getD_in {α : Type} (l : List α) (d : α) {i : Nat} (h : i < l.length) : l.getD i d = l[i] := by simp [h]
theorem getD_out {α : Type} (l : List α) (d : α) {i : Nat} (h : l.length ≤ i) : l.getD i d = d := by simp [h]
abbrev CSt := List Bool × List Rc
def lookI (a : List Rc) (u : Rc) (i : Nat) (s : CSt) : CSt := if s.1.getD i true = false ∧ TouchR u (a.getD i zR) then (s.1.set i true, s.2 ++ [a.getD i zR]) else s
def lookN (a : List Rc) (u : Rc) : Nat → CSt → CSt
 | 0, s => s
 | k + 1, s => lookI a u k (lookN a u k s)
def connF (a : List Rc) : Nat → Nat → CSt → CSt
 | 0, _, s => s
 | f + 1, n, s => if n < s.2.length then connF a f (n + 1) (lookN a (s.2.getD n zR) a.length s) else s
def connR (a : List Rc) (n : Nat) (s : CSt) : CSt := connF a (a.length + 1 - n) n s
theorem connR_step {a : List Rc} {n : Nat} {s : CSt} (h : n < s.2.length) (hs : s.2.length ≤ a.length) : connR a n s = connR a (n + 1) (lookN a (s.2.getD n zR) a.length s) := by
 unfold connR
 rw [show a.length + 1 - n = (a.length + 1 - (n + 1)) + 1 by omega]
 show (if n < s.2.length then _ else _) = _
 rw [if_pos h]
theorem connR_end {a : List Rc} {n : Nat} {s : CSt} (h : ¬ n < s.2.length) : connR a n s = s := by
 unfold connR
 cases a.length + 1 - n with
 | zero => rfl
 | succ f => show (if n < s.2.length then _ else _) = _; rw [if_neg h]
def left (R : List Bool) : Nat := R.count false
theorem left_set {R : List Bool} {i : Nat} (h : R.getD i true = false) : left (R.set i true) + 1 = left R := by
 have hi : i < R.length := by
  by_cases c : i < R.length
  ·exact c
  ·rw [getD_out _ _ (by omega)] at h; cases h
 have e : R[i] = false := by rw [getD_in _ _ hi] at h; exact h
 unfold left
 have hpos : 0 < R.count false := List.count_pos_iff.2 (e ▸ List.getElem_mem hi)
 rw [List.count_set hi, e]
 simp
 omega
def CInv (a : List Rc) (s : CSt) : Prop := s.1.length = a.length ∧ s.2.length + left s.1 ≤ a.length
theorem look_inv {a : List Rc} {u : Rc} {i : Nat} {s : CSt} (h : CInv a s) : CInv a (lookI a u i s) := by
 unfold lookI
 split
 ·next c =>
  have := left_set c.1
  obtain ⟨h1, h2⟩ := h
  refine ⟨by simp [h1], ?_⟩
  show (s.2 ++ [_]).length + left (s.1.set i true) ≤ a.length
  rw [List.length_append, List.length_singleton]
  omega
 ·exact h
theorem lookN_inv {a : List Rc} {u : Rc} {s : CSt} (h : CInv a s) : ∀ k, CInv a (lookN a u k s)
 | 0 => h
 | k + 1 => look_inv (lookN_inv h k)
theorem look_grow {a : List Rc} {u : Rc} {i : Nat} {s : CSt} : ∃ P, (lookI a u i s).2 = s.2 ++ P := by
 unfold lookI
 split
 ·exact ⟨_, rfl⟩
 ·exact ⟨[], by simp⟩
theorem lookN_grow {a : List Rc} {u : Rc} {s : CSt} : ∀ k, ∃ P, (lookN a u k s).2 = s.2 ++ P
 | 0 => ⟨[], by simp [lookN]⟩
 | k + 1 => by
  obtain ⟨P, hP⟩ := lookN_grow (a := a) (u := u) (s := s) k
  obtain ⟨Q, hQ⟩ := look_grow (a := a) (u := u) (i := k) (s := lookN a u k s)
  exact ⟨P ++ Q, by show (lookI a u k (lookN a u k s)).2 = _; rw [hQ, hP, List.append_assoc]⟩
def connM (a : List Rc) (i : Nat) (R : List Bool) : CSt := connR a 0 (R.set i true, [a.getD i zR])
theorem conn_start {a : List Rc} {i : Nat} {R : List Bool} (hR : R.length = a.length) (h : R.getD i true = false) : CInv a (R.set i true, [a.getD i zR]) := by
 have := left_set h
 have h2 : left R ≤ R.length := List.count_le_length
 exact ⟨by simp [hR], by simp; omega⟩
theorem connF_inv {a : List Rc} : ∀ (f n : Nat) (s : CSt), CInv a s → CInv a (connF a f n s)
 | 0, _, _, h => h
 | f + 1, n, s, h => by
  show CInv a (if n < s.2.length then _ else _)
  split
  ·exact connF_inv f (n + 1) _ (lookN_inv h _)
  ·exact h
theorem connM_len {a : List Rc} {i : Nat} {R : List Bool} (hR : R.length = a.length) (h : R.getD i true = false) : (connM a i R).1.length = a.length ∧ (connM a i R).2.length ≤ a.length := by
 have := connF_inv (a.length + 1 - 0) 0 _ (conn_start hR h)
 exact ⟨this.1, Nat.le_trans (Nat.le_add_right _ _) this.2⟩
def partsN (a : List Rc) : Nat → List Bool × List (List Rc)
 | 0 => (List.replicate a.length false, [])
 | k + 1 => if (partsN a k).1.getD k true = false then ((connM a k (partsN a k).1).1, (partsN a k).2 ++ [(connM a k (partsN a k).1).2]) else partsN a k
theorem partsN_len (a : List Rc) : ∀ k, (partsN a k).1.length = a.length
 | 0 => by simp [partsN]
 | k + 1 => by
  unfold partsN
  split
  ·next c => exact (connM_len (partsN_len a k) c).1
  ·exact partsN_len a k
theorem partsN_le (a : List Rc) : ∀ k, (partsN a k).2.length ≤ k
 | 0 => by simp [partsN]
 | k + 1 => by
  unfold partsN
  split
  ·next c => simp; exact partsN_le a k
  ·exact Nat.le_succ_of_le (partsN_le a k)
section
variable {dx dy : Int} {a : List Rc} (ha : ∀ r ∈ a, ROk r) (hm : MvOk dx dy a)
include ha hm
end
end Go.Proofs.YtngddecpfhlilaaGreat
namespace Go.Proofs.YtngddecpfhlilaaGreat
open Go.RowKit Go.Shelf Go.Lib Go.Sort
theorem heap_put13 {α : Type} [Inhabited α] {enc : α → Value} {w : World} {g n : Nat} {os : Array Obj} {cur : Array Value} {e : TypeId} (d : Array α) (hb : w.heap[g]? = some (.cells cur e (0, 0))) :
  ∃ cur', (Sort.grow (putRow enc (Sort.ahead w n) g 0 d) os).heap[g]? = some (.cells cur' e (0, 0)) ∧ cur'.size = cur.size := by
 have hg : g < w.heap.size := (Array.getElem?_eq_some_iff.1 hb).1
 refine ⟨putCells enc 0 d cur, ?_, by simp [putCells]⟩
 rw [heap_grow_old _ _ (by simpa [putRow, mapBlock, Sort.ahead] using hg)]
 simp [putRow, mapBlock, Sort.ahead, Array.getElem?_modify, hb, onCells]
theorem take_cells {w : World} {g : Nat} {cur : Array Value} {e : TypeId} {xs : List Value} (hb : w.heap[g]? = some (.cells cur e (0, 0))) (hs : xs.length ≤ cur.size) (h : ∀ t, t < xs.length → w.cell? ⟨g, t, none⟩ = xs[t]?) : cur.toList.take xs.length = xs := by
 apply List.ext_getElem?
 intro t
 rw [List.getElem?_take]
 split
 ·rename_i ht
  rw [← h t ht, Lib.cell_of_heap hb]
  simp
 ·rename_i ht
  rw [List.getElem?_eq_none (by omega)]
def prc (p : Int × Int) : List Value := [.int .i64 p.1, .int .i64 p.2]
def prcells (L : List (Int × Int)) : List Value := L.flatMap prc
theorem prcells_len (L : List (Int × Int)) : (prcells L).length = L.length * 2 := by
 induction L with
 | nil => rfl
 | cons e E ih => show (_ :: _ :: prcells E).length = _; simp [ih]; omega
theorem prcells_append (E F : List (Int × Int)) : prcells (E ++ F) = prcells E ++ prcells F := by simp [prcells]
theorem prcells_at : ∀ (L : List (Int × Int)) (j : Nat) (h : j < L.length), (prcells L)[j * 2]? = some (.int .i64 L[j].1) ∧ (prcells L)[j * 2 + 1]? = some (.int .i64 L[j].2) := by
 intro L
 induction L with
 | nil => intro j h; exact absurd h (by simp)
 | cons t L ih =>
  intro j h
  cases j with
  | zero => exact ⟨rfl, rfl⟩
  | succ j =>
   have := ih j (by simp at h; omega)
   rw [show (j + 1) * 2 = j * 2 + 1 + 1 by omega]
   exact this
theorem icells_len13 (L : List Int) : (icells L).length = L.length * 1 := by simp [icells]
theorem icells_at13 (L : List Int) (j : Nat) (h : j < L.length) : (icells L)[j * 1]? = some (.int .i64 L[j]) := by simp [icells, h]
def pr (p : Pt) : Int × Int := (p.X, p.Y)
def rp (p : Int × Int) : Pt := ⟨p.1, p.2⟩
theorem pr_rp (L : List (Int × Int)) : (L.map rp).map pr = L := by
 rw [List.map_map]
 have : pr ∘ rp = id := rfl
 rw [this, List.map_id]
theorem prc_pt (L : List Pt) : prcells (L.map pr) = ptcells13 L := by
 unfold prcells ptcells13
 rw [List.flatMap_map]
 rfl
theorem ptc_rp (L : List (Int × Int)) : ptcells13 (L.map rp) = prcells L := by rw [← prc_pt, pr_rp]
def ltPr (p q : Int × Int) : Prop := p.1 < q.1 ∨ (p.1 = q.1 ∧ p.2 < q.2)
def SoPt (g cap : Nat) (R : List (Int × Int)) (w w' : World) : Prop := ∃ T cur, T.Perm R ∧ T.Pairwise (fun a b => a = b ∨ ltPr a b) ∧ w'.heap[g]? = some (.cells cur 146 (0, 0)) ∧ cur.size = cap * 2 ∧ cur.toList.take (T.length * 2) = prcells T ∧ w.grownBy w' (some g)
set_option maxHeartbeats 2000000 in
theorem soPt_any (B g cap : Nat) (R : List (Int × Int)) (w : World) (h : w.ownsRow B 146 2 (.slice (some ⟨g, 0, none⟩) R.length cap) R.length (prcells R)) (hl : R.length ≤ 1099511627776) :
  Calls Tryz.prog 171 #[.slice (some ⟨g, 0, none⟩) R.length cap, .func (.func 138) #[] #[]] w fun e w' => e = .returned (.tuple #[]) ∧ SoPt g cap R w w' := by
 obtain ⟨E, hE⟩ : ∃ E : List Pt, E = R.map rp := ⟨_, rfl⟩
 have hEl : E.length = R.length := by rw [hE]; simp
 have hER : E.map pr = R := by rw [hE]; exact pr_rp R
 have hh : w.ownsRow B 146 2 (.slice (some ⟨g, 0, none⟩) E.length cap) E.length (ptcells13 E) := by rw [hEl, hE, ptc_rp]; exact h
 have hg : g < w.heap.size := (h.lt g rfl).2
 obtain ⟨cur, hcur, hcs, hnc⟩ : ∃ cur, w.heap[g]? = some (.cells cur 146 (0, 0)) ∧ cur.size = cap * 2 ∧ R.length ≤ cap := by
  rcases h.2 with ⟨e, _⟩ | ⟨g2, c2, cur, e, _, h1, h2, _, h3, _⟩
  ·cases e
  ·injection e with e1 e2 e3
   simp only [Option.some.injEq, Addr.mk.injEq, and_true] at e1
   subst e1; subst e3
   exact ⟨cur, h1, h3, h2⟩
 have eg : ∀ args w, (callFunc 138 args).run Tryz.prog w = .ok (.enter 138 args) w := enters_of Tryz.func138 (by kernel_rfl) rfl
 have hH : HoldsK encPt 2 w g 0 E.toArray := fun j hj => by
  have hj' : j < E.length * 2 := by simpa using hj
  refine ⟨?_, hh.frozenAt _⟩
  rw [Nat.zero_add, hh.cellAt j hj', ptcells13_get E j hj', get_flatK _ _ _ _ (by simpa using hj')]
  simp [id]
 have hcmp : CmpLays Tryz.prog 138 #[] encPt 2 (fun x y : Pt => cmpP (keyP x) (keyP y)) g 0 E.toArray.size w := fun _ _ _ _ x y => formC_any x y _
 have hcon := AnyQ.slices_SortFunc Go.Proofs.Tryz.laysSlF06_f171 2 Tryz.isAgg146 Tryz.sizeOf146 encPt (fun _ => rfl) (fun x v hv => by simp [encPt] at hv; rcases hv with rfl | rfl <;> rfl) (fun x y : Pt => cmpP (keyP x) (keyP y)) (swoP keyP) 138 #[] g 0 cap E.toArray w eg hcmp hH hg (by simp; omega)
 change Calls Tryz.prog 171 _ _ _ at hcon
 rw [show E.toArray.size = R.length from by simp [hEl]] at hcon
 refine hcon.mono ?_
 rintro e w' ⟨rfl, d', n, os, hp, hs, rfl⟩
 obtain ⟨p1, _, p3⟩ := hp
 have hlen : d'.size = E.length := by simpa using p1
 have e1 : (d'.extract 0 R.length).toList = d'.toList := by rw [← hEl, ← hlen]; simp
 have e2 : (E.toArray.extract 0 R.length).toList = E := by rw [← hEl]; simp
 rw [e1, e2] at p3
 have hHold : HoldsK encPt 2 (sortWorldK encPt 2 w g 0 n d' os) g 0 d' := holdsK_grow _ _ _ _ _ _ _ (by simp [putRowK]; exact hg) (holdsK_putRowK _ _ _ _ _ _ _ (holdsK_ahead _ _ _ _ _ _ _ hH) (by simp [hlen]))
 obtain ⟨cur', hc1, hc2⟩ := heap_put13 (enc := id) (n := n) (os := os) (flatK encPt 2 d') hcur
 have hT : (d'.toList.map pr).length = R.length := by simp [hlen, hEl]
 refine ⟨rfl, d'.toList.map pr, cur', by rw [← hER]; exact p3.map pr, List.pairwise_map.2 ?_, hc1, by rw [hc2, hcs], ?_, grownBy_sort⟩
 ·refine List.pairwise_iff_getElem.2 (fun i j hi hj hij => ?_)
  simp only [Array.length_toList] at hi hj
  have := hs i j (Nat.zero_le _) hij (by omega)
  rw [getElem!_pos _ j hj, getElem!_pos _ i hi] at this
  rw [ltP, decide_eq_false_iff_not] at this
  unfold PLt keyP at this
  simp only [Array.getElem_toList]
  unfold pr ltPr
  rcases Int.lt_trichotomy d'[i].X d'[j].X with c | c | c
  ·exact .inr (.inl c)
  ·rcases Int.lt_trichotomy d'[i].Y d'[j].Y with c2 | c2 | c2
   ·exact .inr (.inr ⟨c, c2⟩)
   ·exact .inl (by rw [c, c2])
   ·exact absurd (Or.inr ⟨c.symm, c2⟩) this
  ·exact absurd (Or.inl c) this
 ·have e3 : (prcells (d'.toList.map pr)).length = (d'.toList.map pr).length * 2 := prcells_len _
  rw [← e3]
  refine take_cells (w := sortWorldK encPt 2 w g 0 n d' os) hc1 (by rw [e3, hT, hc2, hcs]; omega) (fun t ht => ?_)
  rw [e3, hT] at ht
  have c := (hHold t (by simp; omega)).1
  rw [Nat.zero_add, get_flatK _ _ _ _ (by omega)] at c
  rw [c, prc_pt, ptcells13_get d'.toList t (by simp; omega)]
  have h3 : t / 2 < d'.size := by omega
  simp [h3]
def SoIn (g cap : Nat) (R : List Int) (w w' : World) : Prop := ∃ T cur, T.Perm R ∧ T.Pairwise (fun a b => a = b ∨ a < b) ∧ w'.heap[g]? = some (.cells cur 3 (0, 0)) ∧ cur.size = cap * 1 ∧ cur.toList.take (T.length * 1) = icells T ∧ w.grownBy w' (some g)
set_option maxHeartbeats 2000000 in
theorem soIn_any (B g cap : Nat) (R : List Int) (w : World) (h : w.ownsRow B 3 1 (.slice (some ⟨g, 0, none⟩) R.length cap) R.length (icells R)) (hl : R.length ≤ 1099511627776) :
  Calls Tryz.prog 172 #[.slice (some ⟨g, 0, none⟩) R.length cap, .func (.func 107) #[] #[]] w fun e w' => e = .returned (.tuple #[]) ∧ SoIn g cap R w w' := by
 have hg : g < w.heap.size := (h.lt g rfl).2
 obtain ⟨cur, hcur, hcs, hnc⟩ : ∃ cur, w.heap[g]? = some (.cells cur 3 (0, 0)) ∧ cur.size = cap * 1 ∧ R.length ≤ cap := by
  rcases h.2 with ⟨e, _⟩ | ⟨g2, c2, cur, e, _, h1, h2, _, h3, _⟩
  ·cases e
  ·injection e with e1 e2 e3
   simp only [Option.some.injEq, Addr.mk.injEq, and_true] at e1
   subst e1; subst e3
   exact ⟨cur, h1, h3, h2⟩
 have eg : ∀ args w, (callFunc 107 args).run Tryz.prog w = .ok (.enter 107 args) w := enters_of Tryz.func107 (by kernel_rfl) rfl
 have hH : Holds (Value.int .i64) w g 0 R.toArray := fun j hj => by
  have hj' : j < R.length := by simpa using hj
  refine ⟨?_, h.frozenAt _⟩
  rw [Nat.zero_add, h.cellAt j (by omega)]
  simp [icells, hj']
 have hcmp : CmpLays1 Tryz.prog 107 #[] (Value.int .i64) (fun x y : Int => Lib.compareInt x y) g 0 R.toArray.size w := fun m os dk hdk x y => (cmpI_any x y _).mono (fun e w' h => ⟨h.1, 0, #[], by rw [h.2]; simp [World.drewN, Sort.grow]⟩)
 have hcon := Any.slices_SortFunc (P := Tryz.prog) (ρ := Tryz.laysSlF06_f172_ren) { Go.Proofs.Tryz.laysSlF06_f172 with a24 := Tryz.isAgg3, z24 := Tryz.sizeOf3 } (Value.int .i64) (fun x => rfl) (fun x y : Int => Lib.compareInt x y) (swoK id) 107 #[] g 0 cap R.toArray w eg hcmp hH hg (by simp; omega)
 change Calls Tryz.prog 172 _ _ _ at hcon
 rw [show R.toArray.size = R.length from by simp] at hcon
 refine hcon.mono ?_
 rintro e w' ⟨rfl, d', n, os, hp, hs, rfl⟩
 obtain ⟨p1, _, p3⟩ := hp
 have hlen : d'.size = R.length := by simpa using p1
 have e1 : (d'.extract 0 R.length).toList = d'.toList := by rw [← hlen]; simp
 have e2 : (R.toArray.extract 0 R.length).toList = R := by simp
 rw [e1, e2] at p3
 have hHold : Holds (Value.int .i64) (sortWorld (Value.int .i64) w g 0 n d' os) g 0 d' := holds_grow _ _ _ _ _ _ (by simpa using hg) (holds_putRow _ _ _ _ R.toArray _ (holds_ahead _ _ _ _ _ _ hH) (by simp [hlen]))
 obtain ⟨cur', hc1, hc2⟩ := heap_put13 (enc := Value.int .i64) (n := n) (os := os) d' hcur
 refine ⟨rfl, d'.toList, cur', p3, ?_, hc1, by rw [hc2, hcs], ?_, grownBy_sort⟩
 ·refine List.pairwise_iff_getElem.2 (fun i j hi hj hij => ?_)
  simp only [Array.length_toList] at hi hj
  have := hs i j (Nat.zero_le _) hij (by omega)
  rw [getElem!_pos _ j hj, getElem!_pos _ i hi] at this
  have h2 : ¬ d'[j] < d'[i] := by
   have h3 := ltI (fun x : Int => x) d'[j] d'[i]
   rw [show ltOf (fun x y : Int => Lib.compareInt x y) d'[j] d'[i] = decide (d'[j] < d'[i]) from h3, decide_eq_false_iff_not] at this
   exact this
  simp only [Array.getElem_toList]
  omega
 ·have e3 : (icells d'.toList).length = d'.toList.length * 1 := icells_len13 _
  rw [← e3]
  refine take_cells (w := sortWorld (Value.int .i64) w g 0 n d' os) hc1 (by rw [e3, hc2, hcs]; simp [hlen]; omega) (fun t ht => ?_)
  rw [e3] at ht
  have ht2 : t < d'.size := by simpa using ht
  have c := (hHold t ht2).1
  rw [Nat.zero_add] at c
  rw [c]
  simp [icells, ht2]
end Go.Proofs.YtngddecpfhlilaaGreat
