/-
  Contracts of layer 13 (30): the reference's Same.
-/
import Derived.Test.YtngddecpfhlilaaGreatC34
import Derived.Test.YtngddecpfhlilaaGreatC01
import Derived.BigQuiet
import Derived.Deep.RegionHeld3
set_option linter.unusedVariables false
set_option maxRecDepth 100000
namespace Go.Proofs.YtngddecpfhlilaaGreat
open Go.RowKit
theorem tkLN {v : Value} {P : Program} {ops : Array Oper} {Q : Exit → Act → World → Prop} {md : Region.Mode} {S : World → Prop} {i : Nat} {oi : Oper} {fuel : Nat} {listed : Array Bool} {a : Act} {w : World} (hi : ops[i]? = some oi) (h : wpAnyH P md ops Q S fuel (listed.setIfInBounds i true) (a.put oi.dst v) w) (hy : ∀ w, S w → (execOp a.eval oi).run P w = .ok (.value v) w := by (intro w hSw; (try dsimp only at hSw); go_simp); try with_reducible rfl) (hs : Region.noSelect ops = true := by kernel_rfl) (hf : Region.free md ops listed i = true := by kernel_rfl) (hr : (Region.ready md ops listed).contains i = true := by kernel_rfl) (hQ : ∀ c a w, Q (.panic c) (a.put oi.dst v) w → Q (.panic c) a w := by exact fun _ _ _ h => h) (hg : Region.wanted oi (yielded ops a.tmps) = true := by rfl) (hS : S w := by assumption) : wpAnyH P md ops Q S (fuel + 1) listed a w :=
 wpAnyH_take hi hs hf hr hQ (Or.inl ⟨hg, hy⟩) hS h
theorem tuLN {P : Program} {ops : Array Oper} {Q : Exit → Act → World → Prop} {md : Region.Mode} {S : World → Prop} {i : Nat} {oi : Oper} {fuel : Nat} {listed : Array Bool} {a : Act} {w : World} (hi : ops[i]? = some oi) (h : wpAnyH P md ops Q S fuel (listed.setIfInBounds i true) (a.put oi.dst undef) w) (hs : Region.noSelect ops = true := by kernel_rfl) (hf : Region.free md ops listed i = true := by kernel_rfl) (hr : (Region.ready md ops listed).contains i = true := by kernel_rfl) (hQ : ∀ c a w, Q (.panic c) (a.put oi.dst undef) w → Q (.panic c) a w := by exact fun _ _ _ h => h) (hg : Region.wanted oi (yielded ops a.tmps) = false := by rfl) (hS : S w := by assumption) : wpAnyH P md ops Q S (fuel + 1) listed a w :=
 wpAnyH_take hi hs hf hr hQ (Or.inr ⟨hg, rfl⟩) hS h
theorem sxLN : (∀ (a : Act) (v : Value), a.put none v = a) ∧ (∀ (a : Act) (d : Tmp) (v : Value), a.put (some d) v = { a with tmps := a.tmps.setIfInBounds d v }) ∧ (∀ {α : Type} (l : List α) (i : Nat) (x : α), l.toArray.setIfInBounds i x = (l.set i x).toArray) ∧ (∀ {α : Type} (l : List α) (x y : α), (x :: l).set 0 y = y :: l) ∧ (∀ {α : Type} (l : List α) (x y : α) (n : Nat), (x :: l).set (n + 1) y = x :: l.set n y) :=
 ⟨fun _ _ => rfl, fun _ _ _ => rfl, fun _ _ _ => List.setIfInBounds_toArray .., fun _ _ _ => rfl, fun _ _ _ _ => rfl⟩
noncomputable def sameB13 (a b : List Lt) : Bool := @decide (a = b) (Classical.propDecidable _)
theorem sameB13_no {a b : List Lt} (h : a ≠ b) : sameB13 a b = false := @decide_eq_false _ (Classical.propDecidable _) h
theorem sameB13_yes {a b : List Lt} (h : a = b) : sameB13 a b = true := @decide_eq_true _ (Classical.propDecidable _) h
def Sm13 (b1 o1 b2 o2 : Nat) (v1 w1 x1 y1 v2 w2 x2 y2 : Value) (w' : World) : Prop := w'.cell? ⟨b1, o1, none⟩ = some v1 ∧ w'.cell? ⟨b1, o1 + 1, none⟩ = some w1 ∧ w'.cell? ⟨b1, o1 + 2, none⟩ = some x1 ∧ w'.cell? ⟨b1, o1 + 3, none⟩ = some y1 ∧ w'.cell? ⟨b2, o2, none⟩ = some v2 ∧ w'.cell? ⟨b2, o2 + 1, none⟩ = some w2 ∧ w'.cell? ⟨b2, o2 + 2, none⟩ = some x2 ∧ w'.cell? ⟨b2, o2 + 3, none⟩ = some y2 ∧ b1 < w'.heap.size ∧ b2 < w'.heap.size
theorem Sm13.go {b1 o1 b2 o2 : Nat} {v1 w1 x1 y1 v2 w2 x2 y2 : Value} {w w' : World} (h : Sm13 b1 o1 b2 o2 v1 w1 x1 y1 v2 w2 x2 y2 w) (hb : Below w.heap.size w w') : Sm13 b1 o1 b2 o2 v1 w1 x1 y1 v2 w2 x2 y2 w' := by
 obtain ⟨h0, h1, h2, h3, k0, k1, k2, k3, l1, l2⟩ := h
 have wc := fun o => hb.cell (p := ⟨b1, o, none⟩) l1
 have wd := fun o => hb.cell (p := ⟨b2, o, none⟩) l2
 exact ⟨(wc _).trans h0, (wc _).trans h1, (wc _).trans h2, (wc _).trans h3, (wd _).trans k0, (wd _).trans k1, (wd _).trans k2, (wd _).trans k3, Nat.lt_of_lt_of_le l1 hb.size, Nat.lt_of_lt_of_le l2 hb.size⟩
set_option maxHeartbeats 32000000 in
theorem msame_any (A1 : Option Addr) (c1 : Nat) (A2 : Option Addr) (c2 : Nat) (a b : List Lt) (w : World) (ha : LtIn w A1 c1 a) (hb : LtIn w A2 c2 b) : Calls Tryz.prog 14 #[.slice A1 a.length c1, .slice A2 b.length c2] w (BlIs (sameB13 a b) w) := by
 have HA := Lib.hid ha; have HBB := Lib.hid hb; clear ha hb
 have hla := HA.out.len
 have hlb := HBB.out.len
 by_cases hn : a.length = b.length
 ·have HNO : Hid (∀ k (h1 : k < a.length) (h2 : k < b.length), a[k] ≠ b[k] → sameB13 a b = false) := Lib.hid (fun k h1 h2 hne => sameB13_no (fun e => hne (by subst e; rfl)))
  have HYES : Hid ((∀ j (h1 : j < a.length) (h2 : j < b.length), a[j] = b[j]) → sameB13 a b = true) := Lib.hid (fun h => sameB13_yes (List.ext_getElem hn (fun j h1 h2 => h j h1 h2)))
  generalize sameB13 a b = X at *
  obtain ⟨n, hna⟩ : ∃ n, n = a.length := ⟨_, rfl⟩
  rw [← hna] at hn ⊢
  rw [← hn]
  have HNA := Lib.hid hna.symm; have HNB := Lib.hid hn.symm
  have hnn : n ≤ 1099511627776 := by omega
  clear hna hn hla hlb
  go_enter Tryz.func14, Tryz.ntmps14
  go_wp2_with fail
  go_loopw [5] (fun i wr => ∃ (k : Nat), k ≤ n ∧ i = .int .i64 k ∧ Hid (∀ j (h1 : j < a.length) (h2 : j < b.length), j < k → a[j] = b[j]) ∧ Hid (Below w.heap.size w wr)) (fun i _ => n - (intOf i).toNat)
  case atStart => exact ⟨0, Nat.zero_le _, rfl, Lib.hid (fun j h1 h2 h => by omega), Lib.hid (Below.refl _ _)⟩
  case round =>
   obtain ⟨k, hk, rfl, HN, HB⟩ := hrel
   by_cases hlt : k < n
   ·have hk1 : k < a.length := by rw [HNA.out]; exact hlt
    have hk2 : k < b.length := by rw [HNB.out]; exact hlt
    obtain ⟨b1, o1, p1, rfl, hb1, hc1, hi1⟩ := HA.out.at_ hk1
    obtain ⟨b2, o2, p2, rfl, hb2, hc2, hi2⟩ := HBB.out.at_ hk2
    obtain ⟨x0, x1, x2, x3⟩ := hc1.below hb1 HB.out
    obtain ⟨y0, y1, y2, y3⟩ := hc2.below hb2 HB.out
    have n0 : (0 : Int) ≤ (k : Int) := by omega
    have n1' : (k : Int) < (n : Int) := by omega
    have HNE := Lib.hid (HNO.out k hk1 hk2)
    have HNX : Hid (a[k] = b[k] → ∀ j (h1 : j < a.length) (h2 : j < b.length), j < k + 1 → a[j] = b[j]) := Lib.hid (fun he j h1 h2 hj => by
     by_cases e : j = k
     ·subst e; exact he
     ·exact HN.out j h1 h2 (by omega))
    have HI1 := Lib.hid (fun w' (hb : Below w.heap.size w w') => hi1.below hb)
    have HI2 := Lib.hid (fun w' (hb : Below w.heap.size w w') => hi2.below hb)
    have HVS := Lib.hid (fun w' (hb : Below w.heap.size w w') => vsame_any p1.A p1.c p2.A p2.c a[k].ar b[k].ar w' (hi1.ar.below hb).row (hi2.ar.below hb).row hi1.ar.len hi2.ar.len)
    have hbw1 := Nat.lt_of_lt_of_le hb1 HB.out.size
    have hbw2 := Nat.lt_of_lt_of_le hb2 HB.out.size
    have HS0 := Lib.hid (fun w' (hb : Below w.heap.size w w') => (⟨hc1.below hb1 hb, hc2.below hb2 hb, Nat.lt_of_lt_of_le hb1 hb.size, Nat.lt_of_lt_of_le hb2 hb.size⟩ : LtC w' b1 (o1 + k * 4) a[k] p1 ∧ LtC w' b2 (o2 + k * 4) b[k] p2 ∧ b1 < w'.heap.size ∧ b2 < w'.heap.size))
    unfold LtC at HS0
    clear hc1 hc2 hi1 hi2 HN hb1 hb2 HNO
    generalize a[k] = t at *
    generalize b[k] = u at *
    obtain ⟨id1, ow1, ar1, fr1⟩ := t
    obtain ⟨id2, ow2, ar2, fr2⟩ := u
    obtain ⟨PA1, PC1, PB1, PD1⟩ := p1
    obtain ⟨PA2, PC2, PB2, PD2⟩ := p2
    simp only at x0 x1 x2 x3 y0 y1 y2 y3 HVS HNE HNX HS0
    obtain ⟨n1, hn1⟩ : ∃ n, n = ar1.length := ⟨_, rfl⟩
    obtain ⟨n2, hn2⟩ : ∃ n, n = ar2.length := ⟨_, rfl⟩
    obtain ⟨f1, hf1⟩ : ∃ n, n = fr1.length := ⟨_, rfl⟩
    obtain ⟨f2, hf2⟩ : ∃ n, n = fr2.length := ⟨_, rfl⟩
    rw [← hn1] at x2 HVS; rw [← hn2] at y2 HVS; rw [← hf1] at x3; rw [← hf2] at y3
    rw [← hn1, ← hn2, ← hf1, ← hf2] at HS0
    have HF1 := Lib.hid hf1; have HF2 := Lib.hid hf2
    have HSM : Hid (Sm13 b1 (o1 + k * 4) b2 (o2 + k * 4) (.int .i64 id1) (.int .i64 ow1) (.slice PA1 n1 PC1) (.slice PB1 f1 PD1) (.int .i64 id2) (.int .i64 ow2) (.slice PA2 n2 PC2) (.slice PB2 f2 PD2) wr) := Lib.hid ⟨x0, x1, x2, x3, y0, y1, y2, y3, hbw1, hbw2⟩
    clear hn1 hn2 hf1 hf2 x0 x1 x2 x3 y0 y1 y2 y3 hbw1 hbw2
    go_wp2_with fail
    by_cases d0 : id1 = id2
    ·by_cases d1 : ow1 = ow2
     ·have D0 := Lib.hid d0; have D1 := Lib.hid d1
      have e0 : (id1 != id2) = false := by simpa using d0
      have e1 : (ow1 != ow2) = false := by simpa using d1
      have HN2 := Lib.hid (fun (d2 : ar1 ≠ ar2) => HNE.out (fun e => d2 (Lt.mk.inj e).2.2.1))
      have HN3 := Lib.hid (fun (d3 : f1 ≠ f2) => HNE.out (fun e => d3 (by rw [HF1.out, HF2.out, (Lt.mk.inj e).2.2.2])))
      have HDS : Hid (decide (ar1 = ar2) = decide (ar1 = ar2)) := Lib.hid rfl
      generalize hds : decide (ar1 = ar2) = ds at HVS
      replace HDS := Lib.hid hds
      clear d0 d1 hds
      refine wp_region_held_drew (S := fun w' => w'.cell? ⟨b1, o1 + k * 4, none⟩ = some (.int .i64 id1) ∧ w'.cell? ⟨b1, o1 + k * 4 + 1, none⟩ = some (.int .i64 ow1) ∧ w'.cell? ⟨b1, o1 + k * 4 + 2, none⟩ = some (.slice PA1 n1 PC1) ∧ w'.cell? ⟨b1, o1 + k * 4 + 3, none⟩ = some (.slice PB1 f1 PD1) ∧ w'.cell? ⟨b2, o2 + k * 4, none⟩ = some (.int .i64 id2) ∧ w'.cell? ⟨b2, o2 + k * 4 + 1, none⟩ = some (.int .i64 ow2) ∧ w'.cell? ⟨b2, o2 + k * 4 + 2, none⟩ = some (.slice PA2 n2 PC2) ∧ w'.cell? ⟨b2, o2 + k * 4 + 3, none⟩ = some (.slice PB2 f2 PD2) ∧ b1 < w'.heap.size ∧ b2 < w'.heap.size) (by kernel_rfl) ?_ (fun hHeld => ?_)
      ·exact HSM.out.go (below_drewN (Below.refl _ _) 1)
      refine tkLN (i := 0) (oi := ⟨some 18, .move (.tmp 0), 22, "ref.go:281", #[], none⟩) rfl ?_
      try simp only [sxLN]
      refine tkLN (i := 1) (oi := ⟨some 19, .move (.tmp 5), 3, "ref.go:281", #[], none⟩) rfl ?_
      try simp only [sxLN]
      refine tkLN (i := 2) (oi := ⟨some 20, .indexAddr 22 (.tmp 18) (.tmp 19), 0, "ref.go:281", #[⟨0, .data⟩, ⟨1, .data⟩], none⟩) rfl ?_
      try simp only [sxLN]
      refine tkLN (i := 3) (oi := ⟨some 21, .fieldAddr 40 (.tmp 20) 0, 0, "ref.go:281", #[⟨2, .data⟩], none⟩) rfl ?_
      try simp only [sxLN]
      refine tkLN (i := 4) (oi := ⟨some 22, .load 3 (.tmp 21), 3, "ref.go:281", #[⟨3, .data⟩], none⟩) rfl ?_
      try simp only [sxLN]
      refine tkLN (i := 5) (oi := ⟨some 23, .move (.tmp 1), 22, "ref.go:281", #[], none⟩) rfl ?_
      try simp only [sxLN]
      refine tkLN (i := 6) (oi := ⟨some 24, .move (.tmp 5), 3, "ref.go:281", #[], none⟩) rfl ?_
      try simp only [sxLN]
      refine tkLN (i := 7) (oi := ⟨some 25, .indexAddr 22 (.tmp 23) (.tmp 24), 0, "ref.go:281", #[⟨5, .data⟩, ⟨6, .data⟩], none⟩) rfl ?_
      try simp only [sxLN]
      refine tkLN (i := 8) (oi := ⟨some 26, .fieldAddr 40 (.tmp 25) 0, 0, "ref.go:281", #[⟨7, .data⟩], none⟩) rfl ?_
      try simp only [sxLN]
      refine tkLN (i := 9) (oi := ⟨some 27, .load 3 (.tmp 26), 3, "ref.go:281", #[⟨8, .data⟩], none⟩) rfl ?_
      try simp only [sxLN]
      refine tkLN (i := 10) (oi := ⟨some 28, .binOp .neq 3 (.tmp 22) (.tmp 27) 3, 4, "ref.go:281", #[⟨4, .data⟩, ⟨9, .data⟩], none⟩) rfl ?_
      try simp only [sxLN]
      refine tkLN (i := 11) (oi := ⟨some 29, .move (.tmp 28), 4, "ref.go:281", #[⟨10, .data⟩], none⟩) rfl ?_
      try simp only [sxLN]
      refine tkLN (i := 12) (oi := ⟨some 30, .move (.tmp 0), 22, "ref.go:281", #[⟨11, .guard⟩], some (11, false)⟩) rfl ?_
      try simp only [sxLN]
      refine tkLN (i := 13) (oi := ⟨some 31, .move (.tmp 5), 3, "ref.go:281", #[⟨11, .guard⟩], some (11, false)⟩) rfl ?_
      try simp only [sxLN]
      refine tkLN (i := 14) (oi := ⟨some 32, .indexAddr 22 (.tmp 30) (.tmp 31), 0, "ref.go:281", #[⟨12, .data⟩, ⟨13, .data⟩, ⟨11, .guard⟩], some (11, false)⟩) rfl ?_
      try simp only [sxLN]
      refine tkLN (i := 15) (oi := ⟨some 33, .fieldAddr 40 (.tmp 32) 1, 0, "ref.go:281", #[⟨14, .data⟩, ⟨11, .guard⟩], some (11, false)⟩) rfl ?_
      try simp only [sxLN]
      refine tkLN (i := 16) (oi := ⟨some 34, .load 3 (.tmp 33), 3, "ref.go:281", #[⟨15, .data⟩, ⟨11, .guard⟩], some (11, false)⟩) rfl ?_
      try simp only [sxLN]
      refine tkLN (i := 17) (oi := ⟨some 35, .move (.tmp 1), 22, "ref.go:281", #[⟨11, .guard⟩], some (11, false)⟩) rfl ?_
      try simp only [sxLN]
      refine tkLN (i := 18) (oi := ⟨some 36, .move (.tmp 5), 3, "ref.go:281", #[⟨11, .guard⟩], some (11, false)⟩) rfl ?_
      try simp only [sxLN]
      refine tkLN (i := 19) (oi := ⟨some 37, .indexAddr 22 (.tmp 35) (.tmp 36), 0, "ref.go:281", #[⟨17, .data⟩, ⟨18, .data⟩, ⟨11, .guard⟩], some (11, false)⟩) rfl ?_
      try simp only [sxLN]
      refine tkLN (i := 20) (oi := ⟨some 38, .fieldAddr 40 (.tmp 37) 1, 0, "ref.go:281", #[⟨19, .data⟩, ⟨11, .guard⟩], some (11, false)⟩) rfl ?_
      try simp only [sxLN]
      refine tkLN (i := 21) (oi := ⟨some 39, .load 3 (.tmp 38), 3, "ref.go:281", #[⟨20, .data⟩, ⟨11, .guard⟩], some (11, false)⟩) rfl ?_
      try simp only [sxLN]
      refine tkLN (i := 22) (oi := ⟨some 40, .binOp .neq 3 (.tmp 34) (.tmp 39) 3, 4, "ref.go:281", #[⟨16, .data⟩, ⟨21, .data⟩, ⟨11, .guard⟩], some (11, false)⟩) rfl ?_
      try simp only [sxLN]
      refine tkLN (i := 23) (oi := ⟨some 41, .pick (.tmp 29) (.const (.bool true)) (.tmp 40), 4, "ref.go:281", #[⟨11, .data⟩, ⟨22, .data⟩], none⟩) rfl ?_
      try simp only [sxLN]
      refine tkLN (i := 24) (oi := ⟨some 42, .move (.tmp 41), 4, "ref.go:281", #[⟨23, .data⟩, ⟨11, .chain⟩], none⟩) rfl ?_
      try simp only [sxLN]
      refine tkLN (i := 25) (oi := ⟨some 43, .move (.tmp 0), 22, "ref.go:281", #[⟨24, .guard⟩], some (24, false)⟩) rfl ?_
      try simp only [sxLN]
      refine tkLN (i := 26) (oi := ⟨some 44, .move (.tmp 5), 3, "ref.go:281", #[⟨24, .guard⟩], some (24, false)⟩) rfl ?_
      try simp only [sxLN]
      refine tkLN (i := 27) (oi := ⟨some 45, .indexAddr 22 (.tmp 43) (.tmp 44), 0, "ref.go:281", #[⟨25, .data⟩, ⟨26, .data⟩, ⟨24, .guard⟩], some (24, false)⟩) rfl ?_
      try simp only [sxLN]
      refine tkLN (i := 28) (oi := ⟨some 46, .fieldAddr 40 (.tmp 45) 2, 0, "ref.go:281", #[⟨27, .data⟩, ⟨24, .guard⟩], some (24, false)⟩) rfl ?_
      try simp only [sxLN]
      refine tkLN (i := 29) (oi := ⟨some 47, .load 30 (.tmp 46), 30, "ref.go:281", #[⟨28, .data⟩, ⟨24, .guard⟩], some (24, false)⟩) rfl ?_
      try simp only [sxLN]
      refine tkLN (i := 30) (oi := ⟨some 48, .move (.tmp 1), 22, "ref.go:281", #[⟨24, .guard⟩], some (24, false)⟩) rfl ?_
      try simp only [sxLN]
      refine tkLN (i := 31) (oi := ⟨some 49, .move (.tmp 5), 3, "ref.go:281", #[⟨24, .guard⟩], some (24, false)⟩) rfl ?_
      try simp only [sxLN]
      refine tkLN (i := 32) (oi := ⟨some 50, .indexAddr 22 (.tmp 48) (.tmp 49), 0, "ref.go:281", #[⟨30, .data⟩, ⟨31, .data⟩, ⟨24, .guard⟩], some (24, false)⟩) rfl ?_
      try simp only [sxLN]
      refine tkLN (i := 33) (oi := ⟨some 51, .fieldAddr 40 (.tmp 50) 2, 0, "ref.go:281", #[⟨32, .data⟩, ⟨24, .guard⟩], some (24, false)⟩) rfl ?_
      try simp only [sxLN]
      refine tkLN (i := 34) (oi := ⟨some 52, .load 30 (.tmp 51), 30, "ref.go:281", #[⟨33, .data⟩, ⟨24, .guard⟩], some (24, false)⟩) rfl ?_
      try simp only [sxLN]
      refine wpAnyH_ready (rs := [35]) (by kernel_rfl) (by simp) ?_
      refine AllReadyH.cons (o := ⟨some 53, .call { callee := .value (.func 47), args := #[.tmp 47, .tmp 52], argTypes := #[30, 30] }, 4, "ref.go:281", #[⟨29, .data⟩, ⟨34, .data⟩, ⟨24, .chain⟩, ⟨24, .guard⟩], some (24, false)⟩) rfl (fun K hK => ?_) AllReadyH.nil
      go_simp
      go_at_call 47
      refine (HVS.out _ (HB.out.trans ((below_drewN (Below.refl wr.heap.size wr) 1).mono HB.out.size))).mono ?_
      rintro e w' ⟨rfl, hb⟩
      have HB5 := Lib.hid ((HB.out.trans ((below_drewN (Below.refl wr.heap.size wr) 1).mono HB.out.size)).trans (hb.mono (HB.out.trans ((below_drewN (Below.refl wr.heap.size wr) 1).mono HB.out.size)).size))
      try go_wp2_with fail
      refine hK.out _ _ (Sm13.go ‹_› hb) (fun hHeld2 => ?_)
      clear hK K hHeld hb
      have hHeld := hHeld2; clear hHeld2
      try simp only [sxLN]
      cases ds
      case false =>
       have HV := Lib.hid (HN2.out (of_decide_eq_false HDS.out))
       refine tkLN (i := 36) (oi := ⟨some 54, .unOp .not 4 (.tmp 53), 4, "ref.go:281", #[⟨35, .data⟩, ⟨24, .guard⟩], some (24, false)⟩) rfl ?_
       try simp only [sxLN]
       refine tkLN (i := 37) (oi := ⟨some 55, .pick (.tmp 42) (.const (.bool true)) (.tmp 54), 4, "ref.go:281", #[⟨24, .data⟩, ⟨36, .data⟩], none⟩) rfl ?_
       try simp only [sxLN]
       refine tkLN (i := 38) (oi := ⟨some 56, .move (.tmp 55), 4, "ref.go:281", #[⟨37, .data⟩, ⟨35, .chain⟩], none⟩) rfl ?_
       try simp only [sxLN]
       refine tuLN (i := 39) (oi := ⟨some 57, .move (.tmp 0), 22, "ref.go:281", #[⟨38, .guard⟩], some (38, false)⟩) rfl ?_
       try simp only [sxLN]
       refine tuLN (i := 40) (oi := ⟨some 58, .move (.tmp 5), 3, "ref.go:281", #[⟨38, .guard⟩], some (38, false)⟩) rfl ?_
       try simp only [sxLN]
       refine tuLN (i := 41) (oi := ⟨some 59, .indexAddr 22 (.tmp 57) (.tmp 58), 0, "ref.go:281", #[⟨39, .data⟩, ⟨40, .data⟩, ⟨38, .guard⟩], some (38, false)⟩) rfl ?_
       try simp only [sxLN]
       refine tuLN (i := 42) (oi := ⟨some 60, .fieldAddr 40 (.tmp 59) 3, 0, "ref.go:281", #[⟨41, .data⟩, ⟨38, .guard⟩], some (38, false)⟩) rfl ?_
       try simp only [sxLN]
       refine tuLN (i := 43) (oi := ⟨some 61, .load 31 (.tmp 60), 31, "ref.go:281", #[⟨42, .data⟩, ⟨38, .guard⟩], some (38, false)⟩) rfl ?_
       try simp only [sxLN]
       refine tuLN (i := 44) (oi := ⟨some 62, .call { callee := .builtin .len, args := #[.tmp 61], argTypes := #[31] }, 3, "ref.go:281", #[⟨43, .data⟩, ⟨38, .guard⟩], some (38, false)⟩) rfl ?_
       try simp only [sxLN]
       refine tuLN (i := 45) (oi := ⟨some 63, .move (.tmp 1), 22, "ref.go:281", #[⟨38, .guard⟩], some (38, false)⟩) rfl ?_
       try simp only [sxLN]
       refine tuLN (i := 46) (oi := ⟨some 64, .move (.tmp 5), 3, "ref.go:281", #[⟨38, .guard⟩], some (38, false)⟩) rfl ?_
       try simp only [sxLN]
       refine tuLN (i := 47) (oi := ⟨some 65, .indexAddr 22 (.tmp 63) (.tmp 64), 0, "ref.go:281", #[⟨45, .data⟩, ⟨46, .data⟩, ⟨38, .guard⟩], some (38, false)⟩) rfl ?_
       try simp only [sxLN]
       refine tuLN (i := 48) (oi := ⟨some 66, .fieldAddr 40 (.tmp 65) 3, 0, "ref.go:281", #[⟨47, .data⟩, ⟨38, .guard⟩], some (38, false)⟩) rfl ?_
       try simp only [sxLN]
       refine tuLN (i := 49) (oi := ⟨some 67, .load 31 (.tmp 66), 31, "ref.go:281", #[⟨48, .data⟩, ⟨38, .guard⟩], some (38, false)⟩) rfl ?_
       try simp only [sxLN]
       refine tuLN (i := 50) (oi := ⟨some 68, .call { callee := .builtin .len, args := #[.tmp 67], argTypes := #[31] }, 3, "ref.go:281", #[⟨49, .data⟩, ⟨38, .guard⟩], some (38, false)⟩) rfl ?_
       try simp only [sxLN]
       refine tuLN (i := 51) (oi := ⟨some 69, .binOp .neq 3 (.tmp 62) (.tmp 68) 3, 4, "ref.go:281", #[⟨44, .data⟩, ⟨50, .data⟩, ⟨38, .guard⟩], some (38, false)⟩) rfl ?_
       try simp only [sxLN]
       refine tkLN (i := 52) (oi := ⟨some 70, .pick (.tmp 56) (.const (.bool true)) (.tmp 69), 4, "ref.go:281", #[⟨38, .data⟩, ⟨51, .data⟩], none⟩) rfl ?_
       try simp only [sxLN]
       refine wpAnyH_done (by kernel_rfl) ?_ _
       go_wp2_with fail
       go_ret
       rw [HV.out]; exact ⟨rfl, HB5.out⟩
      have D2 := Lib.hid (of_decide_eq_true HDS.out)
      refine tkLN (i := 36) (oi := ⟨some 54, .unOp .not 4 (.tmp 53), 4, "ref.go:281", #[⟨35, .data⟩, ⟨24, .guard⟩], some (24, false)⟩) rfl ?_
      try simp only [sxLN]
      refine tkLN (i := 37) (oi := ⟨some 55, .pick (.tmp 42) (.const (.bool true)) (.tmp 54), 4, "ref.go:281", #[⟨24, .data⟩, ⟨36, .data⟩], none⟩) rfl ?_
      try simp only [sxLN]
      refine tkLN (i := 38) (oi := ⟨some 56, .move (.tmp 55), 4, "ref.go:281", #[⟨37, .data⟩, ⟨35, .chain⟩], none⟩) rfl ?_
      try simp only [sxLN]
      refine tkLN (i := 39) (oi := ⟨some 57, .move (.tmp 0), 22, "ref.go:281", #[⟨38, .guard⟩], some (38, false)⟩) rfl ?_
      try simp only [sxLN]
      refine tkLN (i := 40) (oi := ⟨some 58, .move (.tmp 5), 3, "ref.go:281", #[⟨38, .guard⟩], some (38, false)⟩) rfl ?_
      try simp only [sxLN]
      refine tkLN (i := 41) (oi := ⟨some 59, .indexAddr 22 (.tmp 57) (.tmp 58), 0, "ref.go:281", #[⟨39, .data⟩, ⟨40, .data⟩, ⟨38, .guard⟩], some (38, false)⟩) rfl ?_
      try simp only [sxLN]
      refine tkLN (i := 42) (oi := ⟨some 60, .fieldAddr 40 (.tmp 59) 3, 0, "ref.go:281", #[⟨41, .data⟩, ⟨38, .guard⟩], some (38, false)⟩) rfl ?_
      try simp only [sxLN]
      refine tkLN (i := 43) (oi := ⟨some 61, .load 31 (.tmp 60), 31, "ref.go:281", #[⟨42, .data⟩, ⟨38, .guard⟩], some (38, false)⟩) rfl ?_
      try simp only [sxLN]
      refine tkLN (i := 44) (oi := ⟨some 62, .call { callee := .builtin .len, args := #[.tmp 61], argTypes := #[31] }, 3, "ref.go:281", #[⟨43, .data⟩, ⟨38, .guard⟩], some (38, false)⟩) rfl ?_
      try simp only [sxLN]
      refine tkLN (i := 45) (oi := ⟨some 63, .move (.tmp 1), 22, "ref.go:281", #[⟨38, .guard⟩], some (38, false)⟩) rfl ?_
      try simp only [sxLN]
      refine tkLN (i := 46) (oi := ⟨some 64, .move (.tmp 5), 3, "ref.go:281", #[⟨38, .guard⟩], some (38, false)⟩) rfl ?_
      try simp only [sxLN]
      refine tkLN (i := 47) (oi := ⟨some 65, .indexAddr 22 (.tmp 63) (.tmp 64), 0, "ref.go:281", #[⟨45, .data⟩, ⟨46, .data⟩, ⟨38, .guard⟩], some (38, false)⟩) rfl ?_
      try simp only [sxLN]
      refine tkLN (i := 48) (oi := ⟨some 66, .fieldAddr 40 (.tmp 65) 3, 0, "ref.go:281", #[⟨47, .data⟩, ⟨38, .guard⟩], some (38, false)⟩) rfl ?_
      try simp only [sxLN]
      refine tkLN (i := 49) (oi := ⟨some 67, .load 31 (.tmp 66), 31, "ref.go:281", #[⟨48, .data⟩, ⟨38, .guard⟩], some (38, false)⟩) rfl ?_
      try simp only [sxLN]
      refine tkLN (i := 50) (oi := ⟨some 68, .call { callee := .builtin .len, args := #[.tmp 67], argTypes := #[31] }, 3, "ref.go:281", #[⟨49, .data⟩, ⟨38, .guard⟩], some (38, false)⟩) rfl ?_
      try simp only [sxLN]
      by_cases d3 : f1 = f2
      ·have D3 := Lib.hid d3
       have e3 : ((f1 : Int) != (f2 : Int)) = false := by simp; omega
       clear d3
       refine tkLN (i := 51) (oi := ⟨some 69, .binOp .neq 3 (.tmp 62) (.tmp 68) 3, 4, "ref.go:281", #[⟨44, .data⟩, ⟨50, .data⟩, ⟨38, .guard⟩], some (38, false)⟩) rfl ?_
       try simp only [sxLN]
       refine tkLN (i := 52) (oi := ⟨some 70, .pick (.tmp 56) (.const (.bool true)) (.tmp 69), 4, "ref.go:281", #[⟨38, .data⟩, ⟨51, .data⟩], none⟩) rfl ?_
       try simp only [sxLN]
       refine wpAnyH_done (by kernel_rfl) ?_ _
       clear HVS HSM e0 e1 e3
       have hf1 : f1 ≤ 1099511627776 := by rw [HF1.out]; exact (HI1.out w (Below.refl _ _)).fr.len
       go_wp2_with fail
       go_loopw [6] (fun i wr => ∃ (j : Nat), j ≤ f1 ∧ i = .int .i64 j ∧ Hid (∀ t (h1 : t < fr1.length) (h2 : t < fr2.length), t < j → fr1[t] = fr2[t]) ∧ Hid (Below w.heap.size w wr)) (fun i _ => f1 - (intOf i).toNat)
       case atStart => exact ⟨0, Nat.zero_le _, rfl, Lib.hid (fun t h1 h2 h => by omega), HB5⟩
       case round =>
        clear HB5 HB
        obtain ⟨j, hj, rfl, HM, HB⟩ := hrel
        obtain ⟨⟨x0, x1, x2, x3⟩, ⟨y0, y1, y2, y3⟩, l1, l2⟩ := HS0.out _ HB.out
        by_cases hjt : j < f1
        ·have hj1 : j < fr1.length := by rw [← HF1.out]; exact hjt
         have hj2 : j < fr2.length := by rw [← HF2.out, ← D3.out]; exact hjt
         have hj3 : j < f2 := by rw [← D3.out]; exact hjt
         obtain ⟨g1, q1, hp1, hg1, hv1⟩ := (HI1.out _ HB.out).fr.row (show 0 < fr1.length by omega)
         obtain ⟨g2, q2, hp2, hg2, hv2⟩ := (HI2.out _ HB.out).fr.row (show 0 < fr2.length by omega)
         simp only at hp1 hp2
         subst hp1 hp2
         have z1 := hv1 j hj1
         have z2 := hv2 j hj2
         simp only at z1 z2
         have HNO2 : Hid (fr1[j] ≠ fr2[j] → X = false) := Lib.hid (fun c => HNE.out (fun e => c (by have := (Lt.mk.inj e).2.2.2; subst this; rfl)))
         have HMX : Hid (fr1[j] = fr2[j] → ∀ t (h1 : t < fr1.length) (h2 : t < fr2.length), t < j + 1 → fr1[t] = fr2[t]) := Lib.hid (fun he t h1 h2 ht => by
          by_cases e : t = j
          ·subst e; exact he
          ·exact HM.out t h1 h2 (by omega))
         have j0 : (0 : Int) ≤ (j : Int) := by omega
         have j1 : (j : Int) < (f1 : Int) := by omega
         have j2 : (j : Int) < (f2 : Int) := by omega
         clear hv1 hv2 HM
         generalize fr1[j] = v1 at *
         generalize fr2[j] = v2 at *
         clear hj1 hj2 hj3
         by_cases c : v1 = v2
         ·have HM2 := Lib.hid (HMX.out c)
          have e4 : (v1 != v2) = false := by simpa using c
          clear HMX HNO2 c
          go_wp2_with fail
          go_quiet (fail)
          go_wp2_with fail
          go_roundw
          case rel => exact ⟨j + 1, by omega, by go_num, HM2, Lib.hid (by (repeat' first | exact Below.refl _ _ | assumption | (apply below_drewN) | (refine Below.setCell ?_ (by (try simp); (try omega)) _) | (refine Below.alloc ?_ (by (try simp); (try omega)) _) | (refine Below.trans ?_ (Below.mono (Hid.out (by assumption)) (by (try simp); (try omega))))))⟩
          case measure => simp [intOf]; omega
         ·have HV := Lib.hid (HNO2.out c)
          have e4 : (v1 != v2) = true := by simpa using c
          clear HMX HNO2 c
          go_wp2_with fail
          go_quiet (fail)
          go_wp2_with fail
          go_ret
          rw [HV.out]; exact ⟨rfl, by (repeat' first | exact Below.refl _ _ | assumption | (apply below_drewN) | (refine Below.setCell ?_ (by (try simp); (try omega)) _) | (refine Below.alloc ?_ (by (try simp); (try omega)) _) | (refine Below.trans ?_ (Below.mono (Hid.out (by assumption)) (by (try simp); (try omega)))))⟩
        ·obtain rfl : j = f1 := by omega
         have HM2 := Lib.hid (HNX.out (by
          have hfr : fr1 = fr2 := List.ext_getElem (by rw [← HF1.out, ← HF2.out, D3.out]) (fun t h1 h2 => HM.out t h1 h2 (by rw [HF1.out]; exact h1))
          rw [D0.out, D1.out, D2.out, hfr]))
         clear HM
         go_wp2_with fail
         go_roundw
         case rel => exact ⟨k + 1, by omega, by go_num, HM2, Lib.hid (by (repeat' first | exact Below.refl _ _ | assumption | (apply below_drewN) | (refine Below.setCell ?_ (by (try simp); (try omega)) _) | (refine Below.alloc ?_ (by (try simp); (try omega)) _) | (refine Below.trans ?_ (Below.mono (Hid.out (by assumption)) (by (try simp); (try omega))))))⟩
         case measure => simp [intOf]; omega
      ·have HV := Lib.hid (HN3.out d3)
       have e3 : ((f1 : Int) != (f2 : Int)) = true := by simp; omega
       clear d3
       refine tkLN (i := 51) (oi := ⟨some 69, .binOp .neq 3 (.tmp 62) (.tmp 68) 3, 4, "ref.go:281", #[⟨44, .data⟩, ⟨50, .data⟩, ⟨38, .guard⟩], some (38, false)⟩) rfl ?_
       try simp only [sxLN]
       refine tkLN (i := 52) (oi := ⟨some 70, .pick (.tmp 56) (.const (.bool true)) (.tmp 69), 4, "ref.go:281", #[⟨38, .data⟩, ⟨51, .data⟩], none⟩) rfl ?_
       try simp only [sxLN]
       refine wpAnyH_done (by kernel_rfl) ?_ _
       go_wp2_with fail
       go_ret
       rw [HV.out]; exact ⟨rfl, HB5.out⟩
     ·have HV := Lib.hid (HNE.out (fun e => d1 (Lt.mk.inj e).2.1))
      have e0 : (id1 != id2) = false := by simpa using d0
      have e1 : (ow1 != ow2) = true := by simpa using d1
      clear d0 d1
      obtain ⟨x0, x1, x2, x3, y0, y1, y2, y3, l1, l2⟩ := HSM.out
      go_quiet (fail)
      go_wp2_with fail
      go_ret
      rw [HV.out]; exact ⟨rfl, HB.out.trans ((below_drewN (Below.refl _ _) _).mono HB.out.size)⟩
    ·have HV := Lib.hid (HNE.out (fun e => d0 (Lt.mk.inj e).1))
     have e0 : (id1 != id2) = true := by simpa using d0
     clear d0
     obtain ⟨x0, x1, x2, x3, y0, y1, y2, y3, l1, l2⟩ := HSM.out
     go_quiet (fail)
     go_wp2_with fail
     go_ret
     rw [HV.out]; exact ⟨rfl, HB.out.trans ((below_drewN (Below.refl _ _) _).mono HB.out.size)⟩
   ·obtain rfl : k = n := by omega
    have HV := Lib.hid (HYES.out (fun j h1 h2 => HN.out j h1 h2 (by rw [← HNA.out]; exact h1)))
    go_wp2_with fail
    go_ret
    rw [HV.out]; exact ⟨rfl, HB.out⟩
 ·have HV := Lib.hid (sameB13_no (a := a) (b := b) (fun e => hn (by rw [e])))
  have e0 : ((a.length : Int) != (b.length : Int)) = true := by simp; omega
  have HN := Lib.hid hn; clear hn
  go_enter Tryz.func14, Tryz.ntmps14
  go_wp2_with fail
  go_ret
  rw [HV.out]; exact ⟨rfl, Below.refl _ _⟩
end Go.Proofs.YtngddecpfhlilaaGreat
