/-
  Contracts of the program's layer 6 (3): Right.
-/
import Derived.Test.YtngddecpfhlilaaGreatC04
import Derived.Test.YtngddecpfhlilaaGreatC05
set_option linter.unusedVariables false
set_option maxRecDepth 100000
namespace Go.Proofs.YtngddecpfhlilaaGreat
open Go.RowKit
theorem tkHg {v : Value} {P : Program} {ops : Array Oper} {Q : Exit → Act → World → Prop} {md : Region.Mode} {S : World → Prop} {i : Nat} {oi : Oper} {fuel : Nat} {listed : Array Bool} {a : Act} {w : World} (hi : ops[i]? = some oi) (h : wpAnyH P md ops Q S fuel (listed.setIfInBounds i true) (a.put oi.dst v) w) (hy : ∀ w, S w → (execOp a.eval oi).run P w = .ok (.value v) w := by (intro w hSw; (try dsimp only at hSw); go_simp); try with_reducible rfl) (hs : Region.noSelect ops = true := by kernel_rfl) (hf : Region.free md ops listed i = true := by kernel_rfl) (hr : (Region.ready md ops listed).contains i = true := by kernel_rfl) (hQ : ∀ c a w, Q (.panic c) (a.put oi.dst v) w → Q (.panic c) a w := by exact fun _ _ _ h => h) (hg : Region.wanted oi (yielded ops a.tmps) = true := by rfl) (hS : S w := by assumption) : wpAnyH P md ops Q S (fuel + 1) listed a w :=
 wpAnyH_take hi hs hf hr hQ (Or.inl ⟨hg, hy⟩) hS h
theorem tuHg {P : Program} {ops : Array Oper} {Q : Exit → Act → World → Prop} {md : Region.Mode} {S : World → Prop} {i : Nat} {oi : Oper} {fuel : Nat} {listed : Array Bool} {a : Act} {w : World} (hi : ops[i]? = some oi) (h : wpAnyH P md ops Q S fuel (listed.setIfInBounds i true) (a.put oi.dst undef) w) (hs : Region.noSelect ops = true := by kernel_rfl) (hf : Region.free md ops listed i = true := by kernel_rfl) (hr : (Region.ready md ops listed).contains i = true := by kernel_rfl) (hQ : ∀ c a w, Q (.panic c) (a.put oi.dst undef) w → Q (.panic c) a w := by exact fun _ _ _ h => h) (hg : Region.wanted oi (yielded ops a.tmps) = false := by rfl) (hS : S w := by assumption) : wpAnyH P md ops Q S (fuel + 1) listed a w :=
 wpAnyH_take hi hs hf hr hQ (Or.inr ⟨hg, rfl⟩) hS h
theorem sxHg : (∀ (a : Act) (v : Value), a.put none v = a) ∧ (∀ (a : Act) (d : Tmp) (v : Value), a.put (some d) v = { a with tmps := a.tmps.setIfInBounds d v }) ∧ (∀ {α : Type} (l : List α) (i : Nat) (x : α), l.toArray.setIfInBounds i x = (l.set i x).toArray) ∧ (∀ {α : Type} (l : List α) (x y : α), (x :: l).set 0 y = y :: l) ∧ (∀ {α : Type} (l : List α) (x y : α) (n : Nat), (x :: l).set (n + 1) y = x :: l.set n y) :=
 ⟨fun _ _ => rfl, fun _ _ _ => rfl, fun _ _ _ => List.setIfInBounds_toArray .., fun _ _ _ => rfl, fun _ _ _ _ => rfl⟩
def K2 (b1 o1 b2 o2 : Nat) (x y : Int) (w0 w : World) : Prop := w.cell? ⟨b2, o2, none⟩ = some (.int .i64 y) ∧ w.cell? ⟨b1, o1 + 2, none⟩ = some (.int .i64 x) ∧ b2 < w.heap.size ∧ b1 < w.heap.size ∧ Hid (Below w0.heap.size w0 w)
theorem K2.go {b1 o1 b2 o2 : Nat} {x y : Int} {w0 w w' : World} (h : K2 b1 o1 b2 o2 x y w0 w) (hb : Below w.heap.size w w') : K2 b1 o1 b2 o2 x y w0 w' := by
 obtain ⟨h0, h1, h2, h3, h4⟩ := h
 exact ⟨(hb.cell (p := ⟨b2, o2, none⟩) h2).trans h0, (hb.cell (p := ⟨b1, o1 + 2, none⟩) h3).trans h1, Nat.lt_of_lt_of_le h2 hb.size, Nat.lt_of_lt_of_le h3 hb.size, Lib.hid (h4.out.trans (hb.mono h4.out.size))⟩
theorem K2.drewN {b1 o1 b2 o2 : Nat} {x y : Int} {w0 w : World} (h : K2 b1 o1 b2 o2 x y w0 w) (n : Nat) : K2 b1 o1 b2 o2 x y w0 (w.drewN n) := h.go (below_drewN (Below.refl _ _) n)
def K1 (b2 : Nat) (w0 w : World) : Prop := b2 < w.heap.size ∧ Hid (Below w0.heap.size w0 w)
theorem K1.go {b2 : Nat} {w0 w w' : World} (h : K1 b2 w0 w) (hb : Below w.heap.size w w') : K1 b2 w0 w' := ⟨Nat.lt_of_lt_of_le h.1 hb.size, Lib.hid (h.2.out.trans (hb.mono h.2.out.size))⟩
theorem K1.drewN {b2 : Nat} {w0 w : World} (h : K1 b2 w0 w) (n : Nat) : K1 b2 w0 (w.drewN n) := h.go (below_drewN (Below.refl _ _) n)
theorem giscol_yes (A : Option Addr) (cap : Nat) (l : List Rc) (w0 : World) (h1 : RRow w0 A l) (hl : l.length ≤ 1099511627776) (h : IsColP l) : Calls Tryz.prog 124 #[.slice A l.length cap] w0 (BlIs true w0) :=
 (giscol_any A cap l w0 h1 hl).mono fun e w' ⟨b, hb, h'⟩ => by obtain rfl := hb.2 h; exact h'
theorem giscol_no (A : Option Addr) (cap : Nat) (l : List Rc) (w0 : World) (h1 : RRow w0 A l) (hl : l.length ≤ 1099511627776) (h : ¬ IsColP l) : Calls Tryz.prog 124 #[.slice A l.length cap] w0 (BlIs false w0) :=
 (giscol_any A cap l w0 h1 hl).mono fun e w' ⟨b, hb, h'⟩ => by
  cases b with
  | false => exact h'
  | true => exact absurd (hb.1 rfl) h
def RegP (l : List Rc) : Prop := IsForm l ∧ l.length ≤ 200
def RightIs (l : List Rc) (w : World) (e : Ending) (w' : World) : Prop := ∃ b : Bool, (b = true ↔ RegP l) ∧ BlIs b w e w'
theorem not_reg {l L : List Rc} {k n : Nat} (h : RightAt l k L) (hk : k < l.length) (hn : FirstAt (l.drop k) n)
  (hbad : ¬ IsColP ((l.drop k).take n) ∨ ∃ (h1 : 0 < L.length) (h2 : 0 < ((l.drop k).take n).length), ((l.drop k).take n)[0].X0 < L[0].X1 ∨ contB L ((l.drop k).take n) L[0].X1 ((l.drop k).take n)[0].X0 = true) : ¬ RegP l := by
 rintro ⟨hf, _⟩
 obtain ⟨t, ht, e, hs⟩ := h.form hk hn hf
 rcases hbad with hb | ⟨h1, h2, hb⟩
 ·exact hb (by rw [e]; exact rects_col ht.x _ ht.ev ht.asc ht.gr)
 ·obtain ⟨S, g1, g2, g3, g4⟩ := h.ex
  rcases g4 with ⟨_, rfl⟩ | ⟨S', s, rfl, rfl⟩
  ·simp at h1
  ·have hso := g1.each s (by simp)
   obtain ⟨q1, q2⟩ := hs s hso rfl
   have e1 := (rects_x (List.getElem_mem h1)).2
   have e2 : (((l.drop k).take n)[0]).X0 = t.x0 := by
    have m := List.getElem_mem h2
    obtain ⟨r, hr⟩ : ∃ r, r = ((l.drop k).take n)[0] := ⟨_, rfl⟩
    rw [← hr] at m ⊢
    rw [e] at m
    exact (rects_x m).1
   rw [e1, e2] at hb
   rcases hb with hb | hb
   ·omega
   ·unfold contB at hb
    rw [Bool.and_eq_true, decide_eq_true_eq, e, yys_rects hso.ev ht.ev] at hb
    exact q2 hb.1 hb.2
set_option maxHeartbeats 16000000 in
theorem gright_any (A : Option Addr) (cap : Nat) (l : List Rc) (w : World) (h1 : RRow w A l) (hl : l.length ≤ 1099511627776) (hcap : l.length ≤ cap) (hcap2 : cap ≤ 9223372036854775807) :
  Calls Tryz.prog 66 #[.slice A l.length cap] w (RightIs l w) := by
 by_cases hbig : 200 < l.length
 ·have hb : (200 : Int) < (l.length : Int) := by omega
  have HN : Hid (¬ RegP l) := Lib.hid (fun h => by have := h.2; omega)
  clear hbig h1
  go_enter Tryz.func66, Tryz.ntmps66
  go_wp2
  go_ret
  exact ⟨false, ⟨fun h => (by cases h), fun h => absurd h HN.out⟩, rfl, by (repeat' first | exact Below.refl _ _ | assumption | (apply below_drewN) | (refine Below.setCell ?_ (by (try simp); (try omega)) _) | (refine Below.alloc ?_ (by (try simp); (try omega)) _) | (refine Below.trans ?_ (Below.mono (Hid.out (by assumption)) (by (try simp); (try omega)))))⟩
 ·have hb : ¬ (200 : Int) < (l.length : Int) := by omega
  have HL : Hid (l.length ≤ 200) := Lib.hid (by omega)
  have H1 := Lib.hid h1
  have HB0 := Lib.hid (Below.refl w.heap.size w)
  clear hbig h1
  go_enter Tryz.func66, Tryz.ntmps66
  go_wp2
  go_loopw [0, 3, 4] (fun a la _ wr => ∃ (k : Nat) (A' : Option Addr) (c' : Nat) (D L : List Rc) (AL : Option Addr) (cL : Nat), a = .slice A' D.length c' ∧ la = .slice AL L.length cL ∧ Hid (D = l.drop k) ∧ Hid (k ≤ l.length) ∧ Hid (RightAt l k L) ∧ Hid (RRow wr A' D) ∧ Hid (RRow wr AL L) ∧ D.length ≤ c' ∧ c' ≤ 9223372036854775807 ∧ L.length ≤ 200 ∧ Hid (L = [] → AL = none) ∧ Hid (Below w.heap.size w wr)) (fun a _ _ _ => (match a with | .slice _ n _ => n | _ => 0))
  case atStart => exact ⟨0, A, cap, l, [], none, 0, rfl, rfl, Lib.hid rfl, Lib.hid (Nat.zero_le _), Lib.hid (RightAt.start l), H1, Lib.hid (RRow.nil _ _), hcap, hcap2, by simp, Lib.hid (fun _ => rfl), HB0⟩
  case round =>
   clear HB0 H1 hcap hcap2 hb hl
   obtain ⟨k, A', c', D, L, AL, cL, rfl, rfl, HD, HK, HR, HRD, HRL, hc1, hc2, hLl, HLN, HB⟩ := hrel
   have hDl : D.length ≤ 200 := by have := HD.out; rw [this, List.length_drop]; have := HL.out; omega
   by_cases hD : 0 < D.length
   ·have g0 : (0 : Int) < (D.length : Int) := by omega
    have HF := Lib.hid (gfirst_any A' c' D wr HRD.out hD (by omega) hc1)
    obtain ⟨b2, o2, rfl, hb2, hv2⟩ := HRD.out hD
    have hkl : Hid (k < l.length) := Lib.hid (by have := HD.out; rw [this, List.length_drop] at hD; omega)
    clear hv2
    go_wp2_with fail
    refine HF.out.mono ?_
    rintro e w1 ⟨n, q, hF, rfl, rfl⟩
    obtain ⟨R, hR⟩ : ∃ R, R = D.take n := ⟨_, rfl⟩
    have hn : n = R.length := by rw [hR, List.length_take]; have := hF.le; omega
    have HRR := Lib.hid (RRow.below (by rw [hR]; exact HRD.out.take n : RRow wr _ R) (below_drewN (Below.refl _ _) q))
    have hn0 := hF.pos
    have hnD := hF.le
    have HF2 := Lib.hid hF; clear hF HF
    have HRe := Lib.hid hR; clear hR
    subst hn
    have r0 : (0 : Int) < (R.length : Int) := by omega
    have HB1 := Lib.hid (HB.out.trans ((below_drewN (Below.refl wr.heap.size wr) q).mono HB.out.size))
    have hb2 : b2 < (wr.drewN q).heap.size := hb2
    have HRD1 := Lib.hid (HRD.out.below (below_drewN (Below.refl _ _) q))
    have HRL1 := Lib.hid (HRL.out.below (below_drewN (Below.refl _ _) q))
    have BAD : Hid (∀ _ : (¬ IsColP R ∨ ∃ (h1 : 0 < L.length) (h2 : 0 < R.length), R[0].X0 < L[0].X1 ∨ contB L R L[0].X1 R[0].X0 = true), ¬ RegP l) := Lib.hid (fun hb => not_reg HR.out hkl.out (by rw [← HD.out]; exact HF2.out) (by rw [← HD.out, ← HRe.out]; exact hb))
    have GOOD : Hid (∀ (_ : IsColP R) (_ : ∀ (h1 : 0 < L.length) (h2 : 0 < R.length), L[0].X1 ≤ R[0].X0 ∧ contB L R L[0].X1 R[0].X0 = false), RightAt l (k + R.length) R) := Lib.hid (fun hc hb => by
     have := RightAt.step HR.out (n := R.length) (by rw [← HD.out]; exact HF2.out) hkl.out (by rw [← HD.out, ← HRe.out]; exact hc) (by rw [← HD.out, ← HRe.out]; exact hb)
     rw [← HD.out, ← HRe.out] at this; exact this)
    have NEXT : Hid (D.drop R.length = l.drop (k + R.length)) := Lib.hid (by rw [HD.out, List.drop_drop])
    have hk2 : Hid (k + R.length ≤ l.length) := Lib.hid (by have := congrArg List.length HD.out; rw [List.length_drop] at this; omega)
    clear HRD HRL HB HF2 HRe HD HK hkl HR
    generalize hwq : wr.drewN q = wq at *
    clear hwq
    have HC0 := Lib.hid (fun w' => fun (hb : Below wq.heap.size wq w') => giscol_any (some ⟨b2, o2, none⟩) c' R w' (HRR.out.below hb) (by omega))
    have HXB := Lib.hid (RRow.some HRR.out)
    obtain ⟨x0, x1, x2, x3⟩ := (HXB.out hn0).2 0 hn0
    simp only [Nat.zero_mul, Nat.add_zero] at x0
    clear x1 x2 x3 HXB
    by_cases hcol : IsColP R
    ·have HCY := Lib.hid (fun w' => fun (hb : Below wq.heap.size wq w') => giscol_yes (some ⟨b2, o2, none⟩) c' R w' (HRR.out.below hb) (by omega) hcol)
     by_cases hL : L = []
     ·subst hL
      obtain rfl := HLN.out rfl
      have E0 : Hid (K1 b2 wq wq) := Lib.hid ⟨hb2, Lib.hid (Below.refl _ _)⟩
      have G2 := Lib.hid (GOOD.out hcol (fun h1 => absurd h1 (by simp)))
      clear HC0 GOOD BAD HRL1 HLN hcol
      go_wp2_with fail
      refine wp_region_held_drew (S := fun w' => b2 < w'.heap.size ∧ Hid (Below wq.heap.size wq w')) (by kernel_rfl) ?_ (fun hHeld => ?_)
      ·exact K1.drewN E0.out 1
      refine tkHg (i := 0) (oi := ⟨some 13, .move (.tmp 4), 30, "region.go:34", #[], none⟩) rfl ?_
      try simp only [sxHg]
      refine wpAnyH_ready (rs := [1]) (by kernel_rfl) (by simp) ?_
      refine AllReadyH.cons (o := ⟨some 14, .call { callee := .value (.func 124), args := #[.tmp 13], argTypes := #[30] }, 4, "region.go:34", #[⟨0, .data⟩], none⟩) rfl (fun K hK => ?_) AllReadyH.nil
      go_simp
      go_at_call 124
      refine (HCY.out _ (by first | exact hHeld.2.2.2.2.out | exact hHeld.2.out)).mono ?_
      rintro e w' ⟨rfl, hb⟩
      try go_wp2_with fail
      refine hK.out _ _ (K1.go ‹_› hb) (fun hHeld2 => ?_)
      clear hK K hHeld hb
      have hHeld := hHeld2; clear hHeld2
      try simp only [sxHg]
      refine tkHg (i := 2) (oi := ⟨some 15, .unOp .not 4 (.tmp 14), 4, "region.go:34", #[⟨1, .data⟩], none⟩) rfl ?_
      try simp only [sxHg]
      refine tkHg (i := 3) (oi := ⟨some 16, .move (.tmp 15), 4, "region.go:34", #[⟨2, .data⟩, ⟨1, .chain⟩], none⟩) rfl ?_
      try simp only [sxHg]
      refine tkHg (i := 4) (oi := ⟨some 17, .move (.tmp 3), 30, "region.go:34", #[⟨3, .guard⟩], some (3, false)⟩) rfl ?_
      try simp only [sxHg]
      refine tkHg (i := 5) (oi := ⟨some 18, .binOp .neq 30 (.tmp 17) (.const (.slice none 0 0)) 30, 4, "region.go:34", #[⟨4, .data⟩, ⟨3, .guard⟩], some (3, false)⟩) rfl ?_
      try simp only [sxHg]
      refine tkHg (i := 6) (oi := ⟨some 19, .move (.tmp 18), 4, "region.go:34", #[⟨5, .data⟩, ⟨3, .chain⟩, ⟨3, .guard⟩], some (3, false)⟩) rfl ?_
      try simp only [sxHg]
      refine tuHg (i := 7) (oi := ⟨some 20, .move (.tmp 4), 30, "region.go:34", #[⟨6, .guard⟩], some (6, true)⟩) rfl ?_
      try simp only [sxHg]
      refine tuHg (i := 8) (oi := ⟨some 21, .indexAddr 30 (.tmp 20) (.const (.int .i64 0)), 0, "region.go:34", #[⟨7, .data⟩, ⟨6, .guard⟩], some (6, true)⟩) rfl ?_
      try simp only [sxHg]
      refine tuHg (i := 9) (oi := ⟨some 22, .fieldAddr 68 (.tmp 21) 0, 0, "region.go:34", #[⟨8, .data⟩, ⟨6, .guard⟩], some (6, true)⟩) rfl ?_
      try simp only [sxHg]
      refine tuHg (i := 10) (oi := ⟨some 23, .load 3 (.tmp 22), 3, "region.go:34", #[⟨9, .data⟩, ⟨6, .guard⟩], some (6, true)⟩) rfl ?_
      try simp only [sxHg]
      refine tuHg (i := 11) (oi := ⟨some 24, .move (.tmp 3), 30, "region.go:34", #[⟨6, .guard⟩], some (6, true)⟩) rfl ?_
      try simp only [sxHg]
      refine tuHg (i := 12) (oi := ⟨some 25, .indexAddr 30 (.tmp 24) (.const (.int .i64 0)), 0, "region.go:34", #[⟨11, .data⟩, ⟨6, .guard⟩], some (6, true)⟩) rfl ?_
      try simp only [sxHg]
      refine tuHg (i := 13) (oi := ⟨some 26, .fieldAddr 68 (.tmp 25) 2, 0, "region.go:34", #[⟨12, .data⟩, ⟨6, .guard⟩], some (6, true)⟩) rfl ?_
      try simp only [sxHg]
      refine tuHg (i := 14) (oi := ⟨some 27, .load 3 (.tmp 26), 3, "region.go:34", #[⟨13, .data⟩, ⟨6, .guard⟩], some (6, true)⟩) rfl ?_
      try simp only [sxHg]
      refine tuHg (i := 15) (oi := ⟨some 28, .binOp .lss 3 (.tmp 23) (.tmp 27) 3, 4, "region.go:34", #[⟨10, .data⟩, ⟨14, .data⟩, ⟨6, .guard⟩], some (6, true)⟩) rfl ?_
      try simp only [sxHg]
      refine tuHg (i := 16) (oi := ⟨some 29, .move (.tmp 28), 4, "region.go:34", #[⟨15, .data⟩, ⟨6, .chain⟩, ⟨6, .guard⟩], some (6, true)⟩) rfl ?_
      try simp only [sxHg]
      refine tuHg (i := 17) (oi := ⟨some 30, .move (.tmp 3), 30, "region.go:34", #[⟨16, .guard⟩], some (16, false)⟩) rfl ?_
      try simp only [sxHg]
      refine tuHg (i := 18) (oi := ⟨some 31, .move (.tmp 4), 30, "region.go:34", #[⟨16, .guard⟩], some (16, false)⟩) rfl ?_
      try simp only [sxHg]
      refine tuHg (i := 19) (oi := ⟨some 32, .call { callee := .value (.func 125), args := #[.tmp 30, .tmp 31], argTypes := #[30, 30] }, 4, "region.go:34", #[⟨17, .data⟩, ⟨18, .data⟩, ⟨16, .chain⟩, ⟨16, .guard⟩], some (16, false)⟩) rfl ?_
      try simp only [sxHg]
      refine tuHg (i := 20) (oi := ⟨some 33, .pick (.tmp 29) (.const (.bool true)) (.tmp 32), 4, "region.go:34", #[⟨16, .data⟩, ⟨19, .data⟩, ⟨6, .guard⟩], some (6, true)⟩) rfl ?_
      try simp only [sxHg]
      refine tkHg (i := 21) (oi := ⟨some 34, .pick (.tmp 19) (.tmp 33) (.const (.bool false)), 4, "region.go:34", #[⟨6, .data⟩, ⟨20, .data⟩, ⟨3, .guard⟩], some (3, false)⟩) rfl ?_
      try simp only [sxHg]
      refine tkHg (i := 22) (oi := ⟨some 35, .pick (.tmp 16) (.const (.bool true)) (.tmp 34), 4, "region.go:34", #[⟨3, .data⟩, ⟨21, .data⟩], none⟩) rfl ?_
      try simp only [sxHg]
      refine wpAnyH_done (by kernel_rfl) ?_ _
      rename_i w5
      have HH := hHeld.2
      have HRR5 := Lib.hid (HRR.out.below HH.out)
      have HRD5 := Lib.hid (HRD1.out.below HH.out)
      have HB5 := Lib.hid (HB1.out.trans (HH.out.mono HB1.out.size))
      clear hHeld E0 HH
      by_cases hfull : R.length = c'
      ·have s1 : ((R.length : Nat) : Int) ≤ (D.length : Int) := by omega
       have s2 : ((D.length : Nat) : Int) ≤ (c' : Int) := by omega
       have hDR : D.length = R.length := by omega
       have HZ : Hid (D.drop R.length = []) := Lib.hid (List.drop_eq_nil_of_le (by omega))
       have HFU := Lib.hid hfull; clear hfull hDR
       have FU : c' = R.length := HFU.out.symm
       subst FU
       go_wp2_with fail
       go_quiet (fail)
       go_wp2_with fail
       go_roundw
       case rel => exact ⟨k + R.length, some ⟨b2, o2, none⟩, 0, D.drop R.length, R, _, _, by rw [HZ.out]; rfl, rfl, NEXT, hk2, G2, Lib.hid (by rw [HZ.out]; exact RRow.nil _ _), Lib.hid (HRR5.out.below (below_drewN (Below.refl _ _) _)), by rw [List.length_drop]; omega, by omega, by omega, Lib.hid (fun h => absurd hn0 (by rw [h]; simp)), Lib.hid (below_drewN HB5.out _)⟩
       case measure => simp; omega
      ·have s1 : ((R.length : Nat) : Int) ≤ (D.length : Int) := by omega
       have s2 : ((D.length : Nat) : Int) ≤ (c' : Int) := by omega
       go_wp2_with fail
       go_quiet (fail)
       go_wp2_with fail
       go_roundw
       case rel => exact ⟨k + R.length, _, _, D.drop R.length, R, _, _, by rw [List.length_drop], rfl, NEXT, hk2, G2, Lib.hid ((HRD5.out.drop R.length).below (below_drewN (Below.refl _ _) _)), Lib.hid (HRR5.out.below (below_drewN (Below.refl _ _) _)), by rw [List.length_drop]; omega, by omega, by omega, Lib.hid (fun h => absurd hn0 (by rw [h]; simp)), Lib.hid (below_drewN HB5.out _)⟩
       case measure => simp; omega
     ·have l0 : 0 < L.length := List.length_pos_iff.2 hL
      obtain ⟨b1, o1, rfl, hb1, hv1⟩ := HRL1.out l0
      obtain ⟨y0, y1, y2, y3⟩ := hv1 0 l0
      simp only [Nat.zero_mul, Nat.add_zero] at y2
      clear y0 y1 y3 hv1
      have r1 : (0 : Int) < (L.length : Int) := by omega
      have HCC := Lib.hid (fun w' => fun (hb : Below wq.heap.size wq w') => gcont_any (some ⟨b1, o1, none⟩) cL (some ⟨b2, o2, none⟩) c' L R w' (HRL1.out.below hb) (HRR.out.below hb) (by omega) (by omega) l0 hn0)
      have BAD1 : Hid (R[0].X0 < L[0].X1 → ¬ RegP l) := Lib.hid (fun h => BAD.out (Or.inr ⟨l0, hn0, Or.inl h⟩))
      have BAD2 : Hid (contB L R L[0].X1 R[0].X0 = true → ¬ RegP l) := Lib.hid (fun h => BAD.out (Or.inr ⟨l0, hn0, Or.inr h⟩))
      have GOOD2 : Hid (L[0].X1 ≤ R[0].X0 → contB L R L[0].X1 R[0].X0 = false → RightAt l (k + R.length) R) := Lib.hid (fun h1 h2 => GOOD.out hcol (fun _ _ => ⟨h1, h2⟩))
      clear BAD GOOD HC0 hcol HLN HRL1 hL
      generalize contB L R L[0].X1 R[0].X0 = cb at *
      generalize L[0].X1 = x at *
      generalize R[0].X0 = y at *
      have E0 : Hid (K2 b1 o1 b2 o2 x y wq wq) := Lib.hid ⟨x0, y2, hb2, hb1, Lib.hid (Below.refl _ _)⟩
      by_cases hlt : y < x
      ·have d0 : decide (y < x) = true := decide_eq_true hlt
       have NO := Lib.hid (BAD1.out hlt)
       clear BAD1 BAD2 GOOD2 hlt HCC
       go_wp2_with fail
       refine wp_region_held_drew (S := fun w' => w'.cell? ⟨b2, o2, none⟩ = some (.int .i64 y) ∧ w'.cell? ⟨b1, o1 + 2, none⟩ = some (.int .i64 x) ∧ b2 < w'.heap.size ∧ b1 < w'.heap.size ∧ Hid (Below wq.heap.size wq w')) (by kernel_rfl) ?_ (fun hHeld => ?_)
       ·exact K2.drewN E0.out 1
       refine tkHg (i := 0) (oi := ⟨some 13, .move (.tmp 4), 30, "region.go:34", #[], none⟩) rfl ?_
       try simp only [sxHg]
       refine wpAnyH_ready (rs := [1]) (by kernel_rfl) (by simp) ?_
       refine AllReadyH.cons (o := ⟨some 14, .call { callee := .value (.func 124), args := #[.tmp 13], argTypes := #[30] }, 4, "region.go:34", #[⟨0, .data⟩], none⟩) rfl (fun K hK => ?_) AllReadyH.nil
       go_simp
       go_at_call 124
       refine (HCY.out _ (by first | exact hHeld.2.2.2.2.out | exact hHeld.2.out)).mono ?_
       rintro e w' ⟨rfl, hb⟩
       try go_wp2_with fail
       refine hK.out _ _ (K2.go ‹_› hb) (fun hHeld2 => ?_)
       clear hK K hHeld hb
       have hHeld := hHeld2; clear hHeld2
       try simp only [sxHg]
       refine tkHg (i := 2) (oi := ⟨some 15, .unOp .not 4 (.tmp 14), 4, "region.go:34", #[⟨1, .data⟩], none⟩) rfl ?_
       try simp only [sxHg]
       refine tkHg (i := 3) (oi := ⟨some 16, .move (.tmp 15), 4, "region.go:34", #[⟨2, .data⟩, ⟨1, .chain⟩], none⟩) rfl ?_
       try simp only [sxHg]
       refine tkHg (i := 4) (oi := ⟨some 17, .move (.tmp 3), 30, "region.go:34", #[⟨3, .guard⟩], some (3, false)⟩) rfl ?_
       try simp only [sxHg]
       refine tkHg (i := 5) (oi := ⟨some 18, .binOp .neq 30 (.tmp 17) (.const (.slice none 0 0)) 30, 4, "region.go:34", #[⟨4, .data⟩, ⟨3, .guard⟩], some (3, false)⟩) rfl ?_
       try simp only [sxHg]
       refine tkHg (i := 6) (oi := ⟨some 19, .move (.tmp 18), 4, "region.go:34", #[⟨5, .data⟩, ⟨3, .chain⟩, ⟨3, .guard⟩], some (3, false)⟩) rfl ?_
       try simp only [sxHg]
       refine tkHg (i := 7) (oi := ⟨some 20, .move (.tmp 4), 30, "region.go:34", #[⟨6, .guard⟩], some (6, true)⟩) rfl ?_
       try simp only [sxHg]
       refine tkHg (i := 8) (oi := ⟨some 21, .indexAddr 30 (.tmp 20) (.const (.int .i64 0)), 0, "region.go:34", #[⟨7, .data⟩, ⟨6, .guard⟩], some (6, true)⟩) rfl ?_
       try simp only [sxHg]
       refine tkHg (i := 9) (oi := ⟨some 22, .fieldAddr 68 (.tmp 21) 0, 0, "region.go:34", #[⟨8, .data⟩, ⟨6, .guard⟩], some (6, true)⟩) rfl ?_
       try simp only [sxHg]
       refine tkHg (i := 10) (oi := ⟨some 23, .load 3 (.tmp 22), 3, "region.go:34", #[⟨9, .data⟩, ⟨6, .guard⟩], some (6, true)⟩) rfl ?_
       try simp only [sxHg]
       refine tkHg (i := 11) (oi := ⟨some 24, .move (.tmp 3), 30, "region.go:34", #[⟨6, .guard⟩], some (6, true)⟩) rfl ?_
       try simp only [sxHg]
       refine tkHg (i := 12) (oi := ⟨some 25, .indexAddr 30 (.tmp 24) (.const (.int .i64 0)), 0, "region.go:34", #[⟨11, .data⟩, ⟨6, .guard⟩], some (6, true)⟩) rfl ?_
       try simp only [sxHg]
       refine tkHg (i := 13) (oi := ⟨some 26, .fieldAddr 68 (.tmp 25) 2, 0, "region.go:34", #[⟨12, .data⟩, ⟨6, .guard⟩], some (6, true)⟩) rfl ?_
       try simp only [sxHg]
       refine tkHg (i := 14) (oi := ⟨some 27, .load 3 (.tmp 26), 3, "region.go:34", #[⟨13, .data⟩, ⟨6, .guard⟩], some (6, true)⟩) rfl ?_
       try simp only [sxHg]
       refine tkHg (i := 15) (oi := ⟨some 28, .binOp .lss 3 (.tmp 23) (.tmp 27) 3, 4, "region.go:34", #[⟨10, .data⟩, ⟨14, .data⟩, ⟨6, .guard⟩], some (6, true)⟩) rfl ?_
       try simp only [sxHg]
       refine tkHg (i := 16) (oi := ⟨some 29, .move (.tmp 28), 4, "region.go:34", #[⟨15, .data⟩, ⟨6, .chain⟩, ⟨6, .guard⟩], some (6, true)⟩) rfl ?_
       try simp only [sxHg]
       refine tuHg (i := 17) (oi := ⟨some 30, .move (.tmp 3), 30, "region.go:34", #[⟨16, .guard⟩], some (16, false)⟩) rfl ?_
       try simp only [sxHg]
       refine tuHg (i := 18) (oi := ⟨some 31, .move (.tmp 4), 30, "region.go:34", #[⟨16, .guard⟩], some (16, false)⟩) rfl ?_
       try simp only [sxHg]
       refine tuHg (i := 19) (oi := ⟨some 32, .call { callee := .value (.func 125), args := #[.tmp 30, .tmp 31], argTypes := #[30, 30] }, 4, "region.go:34", #[⟨17, .data⟩, ⟨18, .data⟩, ⟨16, .chain⟩, ⟨16, .guard⟩], some (16, false)⟩) rfl ?_
       try simp only [sxHg]
       refine tkHg (i := 20) (oi := ⟨some 33, .pick (.tmp 29) (.const (.bool true)) (.tmp 32), 4, "region.go:34", #[⟨16, .data⟩, ⟨19, .data⟩, ⟨6, .guard⟩], some (6, true)⟩) rfl ?_
       try simp only [sxHg]
       refine tkHg (i := 21) (oi := ⟨some 34, .pick (.tmp 19) (.tmp 33) (.const (.bool false)), 4, "region.go:34", #[⟨6, .data⟩, ⟨20, .data⟩, ⟨3, .guard⟩], some (3, false)⟩) rfl ?_
       try simp only [sxHg]
       refine tkHg (i := 22) (oi := ⟨some 35, .pick (.tmp 16) (.const (.bool true)) (.tmp 34), 4, "region.go:34", #[⟨3, .data⟩, ⟨21, .data⟩], none⟩) rfl ?_
       try simp only [sxHg]
       refine wpAnyH_done (by kernel_rfl) ?_ _
       go_wp2_with fail
       go_ret
       exact ⟨false, ⟨fun h => (by cases h), fun h => absurd h NO.out⟩, rfl, HB1.out.trans (hHeld.2.2.2.2.out.mono HB1.out.size)⟩
      ·have d0 : decide (y < x) = false := decide_eq_false hlt
       have hle : x ≤ y := by omega
       cases cb with
       | true =>
        have NO := Lib.hid (BAD2.out rfl)
        clear BAD1 BAD2 GOOD2 hlt hle
        go_wp2_with fail
        refine wp_region_held_drew (S := fun w' => w'.cell? ⟨b2, o2, none⟩ = some (.int .i64 y) ∧ w'.cell? ⟨b1, o1 + 2, none⟩ = some (.int .i64 x) ∧ b2 < w'.heap.size ∧ b1 < w'.heap.size ∧ Hid (Below wq.heap.size wq w')) (by kernel_rfl) ?_ (fun hHeld => ?_)
        ·exact K2.drewN E0.out 1
        refine tkHg (i := 0) (oi := ⟨some 13, .move (.tmp 4), 30, "region.go:34", #[], none⟩) rfl ?_
        try simp only [sxHg]
        refine wpAnyH_ready (rs := [1]) (by kernel_rfl) (by simp) ?_
        refine AllReadyH.cons (o := ⟨some 14, .call { callee := .value (.func 124), args := #[.tmp 13], argTypes := #[30] }, 4, "region.go:34", #[⟨0, .data⟩], none⟩) rfl (fun K hK => ?_) AllReadyH.nil
        go_simp
        go_at_call 124
        refine (HCY.out _ (by first | exact hHeld.2.2.2.2.out | exact hHeld.2.out)).mono ?_
        rintro e w' ⟨rfl, hb⟩
        try go_wp2_with fail
        refine hK.out _ _ (K2.go ‹_› hb) (fun hHeld2 => ?_)
        clear hK K hHeld hb
        have hHeld := hHeld2; clear hHeld2
        try simp only [sxHg]
        refine tkHg (i := 2) (oi := ⟨some 15, .unOp .not 4 (.tmp 14), 4, "region.go:34", #[⟨1, .data⟩], none⟩) rfl ?_
        try simp only [sxHg]
        refine tkHg (i := 3) (oi := ⟨some 16, .move (.tmp 15), 4, "region.go:34", #[⟨2, .data⟩, ⟨1, .chain⟩], none⟩) rfl ?_
        try simp only [sxHg]
        refine tkHg (i := 4) (oi := ⟨some 17, .move (.tmp 3), 30, "region.go:34", #[⟨3, .guard⟩], some (3, false)⟩) rfl ?_
        try simp only [sxHg]
        refine tkHg (i := 5) (oi := ⟨some 18, .binOp .neq 30 (.tmp 17) (.const (.slice none 0 0)) 30, 4, "region.go:34", #[⟨4, .data⟩, ⟨3, .guard⟩], some (3, false)⟩) rfl ?_
        try simp only [sxHg]
        refine tkHg (i := 6) (oi := ⟨some 19, .move (.tmp 18), 4, "region.go:34", #[⟨5, .data⟩, ⟨3, .chain⟩, ⟨3, .guard⟩], some (3, false)⟩) rfl ?_
        try simp only [sxHg]
        refine tkHg (i := 7) (oi := ⟨some 20, .move (.tmp 4), 30, "region.go:34", #[⟨6, .guard⟩], some (6, true)⟩) rfl ?_
        try simp only [sxHg]
        refine tkHg (i := 8) (oi := ⟨some 21, .indexAddr 30 (.tmp 20) (.const (.int .i64 0)), 0, "region.go:34", #[⟨7, .data⟩, ⟨6, .guard⟩], some (6, true)⟩) rfl ?_
        try simp only [sxHg]
        refine tkHg (i := 9) (oi := ⟨some 22, .fieldAddr 68 (.tmp 21) 0, 0, "region.go:34", #[⟨8, .data⟩, ⟨6, .guard⟩], some (6, true)⟩) rfl ?_
        try simp only [sxHg]
        refine tkHg (i := 10) (oi := ⟨some 23, .load 3 (.tmp 22), 3, "region.go:34", #[⟨9, .data⟩, ⟨6, .guard⟩], some (6, true)⟩) rfl ?_
        try simp only [sxHg]
        refine tkHg (i := 11) (oi := ⟨some 24, .move (.tmp 3), 30, "region.go:34", #[⟨6, .guard⟩], some (6, true)⟩) rfl ?_
        try simp only [sxHg]
        refine tkHg (i := 12) (oi := ⟨some 25, .indexAddr 30 (.tmp 24) (.const (.int .i64 0)), 0, "region.go:34", #[⟨11, .data⟩, ⟨6, .guard⟩], some (6, true)⟩) rfl ?_
        try simp only [sxHg]
        refine tkHg (i := 13) (oi := ⟨some 26, .fieldAddr 68 (.tmp 25) 2, 0, "region.go:34", #[⟨12, .data⟩, ⟨6, .guard⟩], some (6, true)⟩) rfl ?_
        try simp only [sxHg]
        refine tkHg (i := 14) (oi := ⟨some 27, .load 3 (.tmp 26), 3, "region.go:34", #[⟨13, .data⟩, ⟨6, .guard⟩], some (6, true)⟩) rfl ?_
        try simp only [sxHg]
        refine tkHg (i := 15) (oi := ⟨some 28, .binOp .lss 3 (.tmp 23) (.tmp 27) 3, 4, "region.go:34", #[⟨10, .data⟩, ⟨14, .data⟩, ⟨6, .guard⟩], some (6, true)⟩) rfl ?_
        try simp only [sxHg]
        refine tkHg (i := 16) (oi := ⟨some 29, .move (.tmp 28), 4, "region.go:34", #[⟨15, .data⟩, ⟨6, .chain⟩, ⟨6, .guard⟩], some (6, true)⟩) rfl ?_
        try simp only [sxHg]
        refine tkHg (i := 17) (oi := ⟨some 30, .move (.tmp 3), 30, "region.go:34", #[⟨16, .guard⟩], some (16, false)⟩) rfl ?_
        try simp only [sxHg]
        refine tkHg (i := 18) (oi := ⟨some 31, .move (.tmp 4), 30, "region.go:34", #[⟨16, .guard⟩], some (16, false)⟩) rfl ?_
        try simp only [sxHg]
        refine wpAnyH_ready (rs := [19]) (by kernel_rfl) (by simp) ?_
        refine AllReadyH.cons (o := ⟨some 32, .call { callee := .value (.func 125), args := #[.tmp 30, .tmp 31], argTypes := #[30, 30] }, 4, "region.go:34", #[⟨17, .data⟩, ⟨18, .data⟩, ⟨16, .chain⟩, ⟨16, .guard⟩], some (16, false)⟩) rfl (fun K hK => ?_) AllReadyH.nil
        go_simp
        go_at_call 125
        refine (HCC.out _ hHeld.2.2.2.2.out).mono ?_
        rintro e w' ⟨rfl, hb⟩
        try go_wp2_with fail
        refine hK.out _ _ (K2.go ‹_› hb) (fun hHeld2 => ?_)
        clear hK K hHeld hb
        have hHeld := hHeld2; clear hHeld2
        try simp only [sxHg]
        refine tkHg (i := 20) (oi := ⟨some 33, .pick (.tmp 29) (.const (.bool true)) (.tmp 32), 4, "region.go:34", #[⟨16, .data⟩, ⟨19, .data⟩, ⟨6, .guard⟩], some (6, true)⟩) rfl ?_
        try simp only [sxHg]
        refine tkHg (i := 21) (oi := ⟨some 34, .pick (.tmp 19) (.tmp 33) (.const (.bool false)), 4, "region.go:34", #[⟨6, .data⟩, ⟨20, .data⟩, ⟨3, .guard⟩], some (3, false)⟩) rfl ?_
        try simp only [sxHg]
        refine tkHg (i := 22) (oi := ⟨some 35, .pick (.tmp 16) (.const (.bool true)) (.tmp 34), 4, "region.go:34", #[⟨3, .data⟩, ⟨21, .data⟩], none⟩) rfl ?_
        try simp only [sxHg]
        refine wpAnyH_done (by kernel_rfl) ?_ _
        go_wp2_with fail
        go_ret
        exact ⟨false, ⟨fun h => (by cases h), fun h => absurd h NO.out⟩, rfl, HB1.out.trans (hHeld.2.2.2.2.out.mono HB1.out.size)⟩
       | false =>
        have G2 := Lib.hid (GOOD2.out hle rfl)
        clear BAD1 BAD2 GOOD2 hlt hle
        go_wp2_with fail
        refine wp_region_held_drew (S := fun w' => w'.cell? ⟨b2, o2, none⟩ = some (.int .i64 y) ∧ w'.cell? ⟨b1, o1 + 2, none⟩ = some (.int .i64 x) ∧ b2 < w'.heap.size ∧ b1 < w'.heap.size ∧ Hid (Below wq.heap.size wq w')) (by kernel_rfl) ?_ (fun hHeld => ?_)
        ·exact K2.drewN E0.out 1
        refine tkHg (i := 0) (oi := ⟨some 13, .move (.tmp 4), 30, "region.go:34", #[], none⟩) rfl ?_
        try simp only [sxHg]
        refine wpAnyH_ready (rs := [1]) (by kernel_rfl) (by simp) ?_
        refine AllReadyH.cons (o := ⟨some 14, .call { callee := .value (.func 124), args := #[.tmp 13], argTypes := #[30] }, 4, "region.go:34", #[⟨0, .data⟩], none⟩) rfl (fun K hK => ?_) AllReadyH.nil
        go_simp
        go_at_call 124
        refine (HCY.out _ (by first | exact hHeld.2.2.2.2.out | exact hHeld.2.out)).mono ?_
        rintro e w' ⟨rfl, hb⟩
        try go_wp2_with fail
        refine hK.out _ _ (K2.go ‹_› hb) (fun hHeld2 => ?_)
        clear hK K hHeld hb
        have hHeld := hHeld2; clear hHeld2
        try simp only [sxHg]
        refine tkHg (i := 2) (oi := ⟨some 15, .unOp .not 4 (.tmp 14), 4, "region.go:34", #[⟨1, .data⟩], none⟩) rfl ?_
        try simp only [sxHg]
        refine tkHg (i := 3) (oi := ⟨some 16, .move (.tmp 15), 4, "region.go:34", #[⟨2, .data⟩, ⟨1, .chain⟩], none⟩) rfl ?_
        try simp only [sxHg]
        refine tkHg (i := 4) (oi := ⟨some 17, .move (.tmp 3), 30, "region.go:34", #[⟨3, .guard⟩], some (3, false)⟩) rfl ?_
        try simp only [sxHg]
        refine tkHg (i := 5) (oi := ⟨some 18, .binOp .neq 30 (.tmp 17) (.const (.slice none 0 0)) 30, 4, "region.go:34", #[⟨4, .data⟩, ⟨3, .guard⟩], some (3, false)⟩) rfl ?_
        try simp only [sxHg]
        refine tkHg (i := 6) (oi := ⟨some 19, .move (.tmp 18), 4, "region.go:34", #[⟨5, .data⟩, ⟨3, .chain⟩, ⟨3, .guard⟩], some (3, false)⟩) rfl ?_
        try simp only [sxHg]
        refine tkHg (i := 7) (oi := ⟨some 20, .move (.tmp 4), 30, "region.go:34", #[⟨6, .guard⟩], some (6, true)⟩) rfl ?_
        try simp only [sxHg]
        refine tkHg (i := 8) (oi := ⟨some 21, .indexAddr 30 (.tmp 20) (.const (.int .i64 0)), 0, "region.go:34", #[⟨7, .data⟩, ⟨6, .guard⟩], some (6, true)⟩) rfl ?_
        try simp only [sxHg]
        refine tkHg (i := 9) (oi := ⟨some 22, .fieldAddr 68 (.tmp 21) 0, 0, "region.go:34", #[⟨8, .data⟩, ⟨6, .guard⟩], some (6, true)⟩) rfl ?_
        try simp only [sxHg]
        refine tkHg (i := 10) (oi := ⟨some 23, .load 3 (.tmp 22), 3, "region.go:34", #[⟨9, .data⟩, ⟨6, .guard⟩], some (6, true)⟩) rfl ?_
        try simp only [sxHg]
        refine tkHg (i := 11) (oi := ⟨some 24, .move (.tmp 3), 30, "region.go:34", #[⟨6, .guard⟩], some (6, true)⟩) rfl ?_
        try simp only [sxHg]
        refine tkHg (i := 12) (oi := ⟨some 25, .indexAddr 30 (.tmp 24) (.const (.int .i64 0)), 0, "region.go:34", #[⟨11, .data⟩, ⟨6, .guard⟩], some (6, true)⟩) rfl ?_
        try simp only [sxHg]
        refine tkHg (i := 13) (oi := ⟨some 26, .fieldAddr 68 (.tmp 25) 2, 0, "region.go:34", #[⟨12, .data⟩, ⟨6, .guard⟩], some (6, true)⟩) rfl ?_
        try simp only [sxHg]
        refine tkHg (i := 14) (oi := ⟨some 27, .load 3 (.tmp 26), 3, "region.go:34", #[⟨13, .data⟩, ⟨6, .guard⟩], some (6, true)⟩) rfl ?_
        try simp only [sxHg]
        refine tkHg (i := 15) (oi := ⟨some 28, .binOp .lss 3 (.tmp 23) (.tmp 27) 3, 4, "region.go:34", #[⟨10, .data⟩, ⟨14, .data⟩, ⟨6, .guard⟩], some (6, true)⟩) rfl ?_
        try simp only [sxHg]
        refine tkHg (i := 16) (oi := ⟨some 29, .move (.tmp 28), 4, "region.go:34", #[⟨15, .data⟩, ⟨6, .chain⟩, ⟨6, .guard⟩], some (6, true)⟩) rfl ?_
        try simp only [sxHg]
        refine tkHg (i := 17) (oi := ⟨some 30, .move (.tmp 3), 30, "region.go:34", #[⟨16, .guard⟩], some (16, false)⟩) rfl ?_
        try simp only [sxHg]
        refine tkHg (i := 18) (oi := ⟨some 31, .move (.tmp 4), 30, "region.go:34", #[⟨16, .guard⟩], some (16, false)⟩) rfl ?_
        try simp only [sxHg]
        refine wpAnyH_ready (rs := [19]) (by kernel_rfl) (by simp) ?_
        refine AllReadyH.cons (o := ⟨some 32, .call { callee := .value (.func 125), args := #[.tmp 30, .tmp 31], argTypes := #[30, 30] }, 4, "region.go:34", #[⟨17, .data⟩, ⟨18, .data⟩, ⟨16, .chain⟩, ⟨16, .guard⟩], some (16, false)⟩) rfl (fun K hK => ?_) AllReadyH.nil
        go_simp
        go_at_call 125
        refine (HCC.out _ hHeld.2.2.2.2.out).mono ?_
        rintro e w' ⟨rfl, hb⟩
        try go_wp2_with fail
        refine hK.out _ _ (K2.go ‹_› hb) (fun hHeld2 => ?_)
        clear hK K hHeld hb
        have hHeld := hHeld2; clear hHeld2
        try simp only [sxHg]
        refine tkHg (i := 20) (oi := ⟨some 33, .pick (.tmp 29) (.const (.bool true)) (.tmp 32), 4, "region.go:34", #[⟨16, .data⟩, ⟨19, .data⟩, ⟨6, .guard⟩], some (6, true)⟩) rfl ?_
        try simp only [sxHg]
        refine tkHg (i := 21) (oi := ⟨some 34, .pick (.tmp 19) (.tmp 33) (.const (.bool false)), 4, "region.go:34", #[⟨6, .data⟩, ⟨20, .data⟩, ⟨3, .guard⟩], some (3, false)⟩) rfl ?_
        try simp only [sxHg]
        refine tkHg (i := 22) (oi := ⟨some 35, .pick (.tmp 16) (.const (.bool true)) (.tmp 34), 4, "region.go:34", #[⟨3, .data⟩, ⟨21, .data⟩], none⟩) rfl ?_
        try simp only [sxHg]
        refine wpAnyH_done (by kernel_rfl) ?_ _
        rename_i w5
        have HH := hHeld.2.2.2.2
        have HRR5 := Lib.hid (HRR.out.below HH.out)
        have HRD5 := Lib.hid (HRD1.out.below HH.out)
        have HB5 := Lib.hid (HB1.out.trans (HH.out.mono HB1.out.size))
        clear hHeld E0 HH
        by_cases hfull : R.length = c'
        ·have s1 : ((R.length : Nat) : Int) ≤ (D.length : Int) := by omega
         have s2 : ((D.length : Nat) : Int) ≤ (c' : Int) := by omega
         have hDR : D.length = R.length := by omega
         have HZ : Hid (D.drop R.length = []) := Lib.hid (List.drop_eq_nil_of_le (by omega))
         have HFU := Lib.hid hfull; clear hfull hDR
         have FU : c' = R.length := HFU.out.symm
         subst FU
         go_wp2_with fail
         go_quiet (fail)
         go_wp2_with fail
         go_roundw
         case rel => exact ⟨k + R.length, some ⟨b2, o2, none⟩, 0, D.drop R.length, R, _, _, by rw [HZ.out]; rfl, rfl, NEXT, hk2, G2, Lib.hid (by rw [HZ.out]; exact RRow.nil _ _), Lib.hid (HRR5.out.below (below_drewN (Below.refl _ _) _)), by rw [List.length_drop]; omega, by omega, by omega, Lib.hid (fun h => absurd hn0 (by rw [h]; simp)), Lib.hid (below_drewN HB5.out _)⟩
         case measure => simp; omega
        ·have s1 : ((R.length : Nat) : Int) ≤ (D.length : Int) := by omega
         have s2 : ((D.length : Nat) : Int) ≤ (c' : Int) := by omega
         go_wp2_with fail
         go_quiet (fail)
         go_wp2_with fail
         go_roundw
         case rel => exact ⟨k + R.length, _, _, D.drop R.length, R, _, _, by rw [List.length_drop], rfl, NEXT, hk2, G2, Lib.hid ((HRD5.out.drop R.length).below (below_drewN (Below.refl _ _) _)), Lib.hid (HRR5.out.below (below_drewN (Below.refl _ _) _)), by rw [List.length_drop]; omega, by omega, by omega, Lib.hid (fun h => absurd hn0 (by rw [h]; simp)), Lib.hid (below_drewN HB5.out _)⟩
         case measure => simp; omega
    ·have HCN := Lib.hid (fun w' => fun (hb : Below wq.heap.size wq w') => giscol_no (some ⟨b2, o2, none⟩) c' R w' (HRR.out.below hb) (by omega) hcol)
     have E0 : Hid (K1 b2 wq wq) := Lib.hid ⟨hb2, Lib.hid (Below.refl _ _)⟩
     have NO := Lib.hid (BAD.out (Or.inl hcol))
     clear HC0 GOOD BAD HRL1 HLN hcol
     go_wp2_with fail
     refine wp_region_held_drew (S := fun w' => b2 < w'.heap.size ∧ Hid (Below wq.heap.size wq w')) (by kernel_rfl) ?_ (fun hHeld => ?_)
     ·exact K1.drewN E0.out 1
     refine tkHg (i := 0) (oi := ⟨some 13, .move (.tmp 4), 30, "region.go:34", #[], none⟩) rfl ?_
     try simp only [sxHg]
     refine wpAnyH_ready (rs := [1]) (by kernel_rfl) (by simp) ?_
     refine AllReadyH.cons (o := ⟨some 14, .call { callee := .value (.func 124), args := #[.tmp 13], argTypes := #[30] }, 4, "region.go:34", #[⟨0, .data⟩], none⟩) rfl (fun K hK => ?_) AllReadyH.nil
     go_simp
     go_at_call 124
     refine (HCN.out _ hHeld.2.out).mono ?_
     rintro e w' ⟨rfl, hb⟩
     try go_wp2_with fail
     refine hK.out _ _ (K1.go ‹_› hb) (fun hHeld2 => ?_)
     clear hK K hHeld hb
     have hHeld := hHeld2; clear hHeld2
     try simp only [sxHg]
     refine tkHg (i := 2) (oi := ⟨some 15, .unOp .not 4 (.tmp 14), 4, "region.go:34", #[⟨1, .data⟩], none⟩) rfl ?_
     try simp only [sxHg]
     refine tkHg (i := 3) (oi := ⟨some 16, .move (.tmp 15), 4, "region.go:34", #[⟨2, .data⟩, ⟨1, .chain⟩], none⟩) rfl ?_
     try simp only [sxHg]
     refine tuHg (i := 4) (oi := ⟨some 17, .move (.tmp 3), 30, "region.go:34", #[⟨3, .guard⟩], some (3, false)⟩) rfl ?_
     try simp only [sxHg]
     refine tuHg (i := 5) (oi := ⟨some 18, .binOp .neq 30 (.tmp 17) (.const (.slice none 0 0)) 30, 4, "region.go:34", #[⟨4, .data⟩, ⟨3, .guard⟩], some (3, false)⟩) rfl ?_
     try simp only [sxHg]
     refine tuHg (i := 6) (oi := ⟨some 19, .move (.tmp 18), 4, "region.go:34", #[⟨5, .data⟩, ⟨3, .chain⟩, ⟨3, .guard⟩], some (3, false)⟩) rfl ?_
     try simp only [sxHg]
     refine tuHg (i := 7) (oi := ⟨some 20, .move (.tmp 4), 30, "region.go:34", #[⟨6, .guard⟩], some (6, true)⟩) rfl ?_
     try simp only [sxHg]
     refine tuHg (i := 8) (oi := ⟨some 21, .indexAddr 30 (.tmp 20) (.const (.int .i64 0)), 0, "region.go:34", #[⟨7, .data⟩, ⟨6, .guard⟩], some (6, true)⟩) rfl ?_
     try simp only [sxHg]
     refine tuHg (i := 9) (oi := ⟨some 22, .fieldAddr 68 (.tmp 21) 0, 0, "region.go:34", #[⟨8, .data⟩, ⟨6, .guard⟩], some (6, true)⟩) rfl ?_
     try simp only [sxHg]
     refine tuHg (i := 10) (oi := ⟨some 23, .load 3 (.tmp 22), 3, "region.go:34", #[⟨9, .data⟩, ⟨6, .guard⟩], some (6, true)⟩) rfl ?_
     try simp only [sxHg]
     refine tuHg (i := 11) (oi := ⟨some 24, .move (.tmp 3), 30, "region.go:34", #[⟨6, .guard⟩], some (6, true)⟩) rfl ?_
     try simp only [sxHg]
     refine tuHg (i := 12) (oi := ⟨some 25, .indexAddr 30 (.tmp 24) (.const (.int .i64 0)), 0, "region.go:34", #[⟨11, .data⟩, ⟨6, .guard⟩], some (6, true)⟩) rfl ?_
     try simp only [sxHg]
     refine tuHg (i := 13) (oi := ⟨some 26, .fieldAddr 68 (.tmp 25) 2, 0, "region.go:34", #[⟨12, .data⟩, ⟨6, .guard⟩], some (6, true)⟩) rfl ?_
     try simp only [sxHg]
     refine tuHg (i := 14) (oi := ⟨some 27, .load 3 (.tmp 26), 3, "region.go:34", #[⟨13, .data⟩, ⟨6, .guard⟩], some (6, true)⟩) rfl ?_
     try simp only [sxHg]
     refine tuHg (i := 15) (oi := ⟨some 28, .binOp .lss 3 (.tmp 23) (.tmp 27) 3, 4, "region.go:34", #[⟨10, .data⟩, ⟨14, .data⟩, ⟨6, .guard⟩], some (6, true)⟩) rfl ?_
     try simp only [sxHg]
     refine tuHg (i := 16) (oi := ⟨some 29, .move (.tmp 28), 4, "region.go:34", #[⟨15, .data⟩, ⟨6, .chain⟩, ⟨6, .guard⟩], some (6, true)⟩) rfl ?_
     try simp only [sxHg]
     refine tuHg (i := 17) (oi := ⟨some 30, .move (.tmp 3), 30, "region.go:34", #[⟨16, .guard⟩], some (16, false)⟩) rfl ?_
     try simp only [sxHg]
     refine tuHg (i := 18) (oi := ⟨some 31, .move (.tmp 4), 30, "region.go:34", #[⟨16, .guard⟩], some (16, false)⟩) rfl ?_
     try simp only [sxHg]
     refine tuHg (i := 19) (oi := ⟨some 32, .call { callee := .value (.func 125), args := #[.tmp 30, .tmp 31], argTypes := #[30, 30] }, 4, "region.go:34", #[⟨17, .data⟩, ⟨18, .data⟩, ⟨16, .chain⟩, ⟨16, .guard⟩], some (16, false)⟩) rfl ?_
     try simp only [sxHg]
     refine tuHg (i := 20) (oi := ⟨some 33, .pick (.tmp 29) (.const (.bool true)) (.tmp 32), 4, "region.go:34", #[⟨16, .data⟩, ⟨19, .data⟩, ⟨6, .guard⟩], some (6, true)⟩) rfl ?_
     try simp only [sxHg]
     refine tuHg (i := 21) (oi := ⟨some 34, .pick (.tmp 19) (.tmp 33) (.const (.bool false)), 4, "region.go:34", #[⟨6, .data⟩, ⟨20, .data⟩, ⟨3, .guard⟩], some (3, false)⟩) rfl ?_
     try simp only [sxHg]
     refine tkHg (i := 22) (oi := ⟨some 35, .pick (.tmp 16) (.const (.bool true)) (.tmp 34), 4, "region.go:34", #[⟨3, .data⟩, ⟨21, .data⟩], none⟩) rfl ?_
     try simp only [sxHg]
     refine wpAnyH_done (by kernel_rfl) ?_ _
     go_wp2_with fail
     go_ret
     exact ⟨false, ⟨fun h => (by cases h), fun h => absurd h NO.out⟩, rfl, HB1.out.trans (hHeld.2.out.mono HB1.out.size)⟩
   ·have hD0 : D = [] := List.length_eq_zero_iff.1 (by omega)
    subst hD0
    have g0 : ¬ (0 : Int) < ((([] : List Rc).length : Nat) : Int) := by simp
    have C : RegP l := ⟨by
     have hk : k = l.length := by have := congrArg List.length HD.out; rw [List.length_drop] at this; simp at this; have := HK.out; omega
     subst hk
     exact HR.out.done, HL.out⟩
    have C' := Lib.hid C; clear C
    go_wp2
    go_ret
    exact ⟨true, ⟨fun _ => C'.out, fun _ => rfl⟩, rfl, HB.out⟩
end Go.Proofs.YtngddecpfhlilaaGreat
