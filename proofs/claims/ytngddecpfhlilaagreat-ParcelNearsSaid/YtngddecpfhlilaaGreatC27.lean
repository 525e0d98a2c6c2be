/-
  Contracts of layer 13 (11): Right.
-/
import Derived.Test.YtngddecpfhlilaaGreatC26
import Derived.Test.YtngddecpfhlilaaGreatC25
import Derived.Deep.RegionHeld3
set_option linter.unusedVariables false
set_option maxRecDepth 100000
namespace Go.Proofs.YtngddecpfhlilaaGreat
open Go.RowKit
theorem tkL4 {v : Value} {P : Program} {ops : Array Oper} {Q : Exit → Act → World → Prop} {md : Region.Mode} {S : World → Prop} {i : Nat} {oi : Oper} {fuel : Nat} {listed : Array Bool} {a : Act} {w : World} (hi : ops[i]? = some oi) (h : wpAnyH P md ops Q S fuel (listed.setIfInBounds i true) (a.put oi.dst v) w) (hy : ∀ w, S w → (execOp a.eval oi).run P w = .ok (.value v) w := by (intro w hSw; (try dsimp only at hSw); go_simp); try with_reducible rfl) (hs : Region.noSelect ops = true := by kernel_rfl) (hf : Region.free md ops listed i = true := by kernel_rfl) (hr : (Region.ready md ops listed).contains i = true := by kernel_rfl) (hQ : ∀ c a w, Q (.panic c) (a.put oi.dst v) w → Q (.panic c) a w := by exact fun _ _ _ h => h) (hg : Region.wanted oi (yielded ops a.tmps) = true := by rfl) (hS : S w := by assumption) : wpAnyH P md ops Q S (fuel + 1) listed a w :=
 wpAnyH_take hi hs hf hr hQ (Or.inl ⟨hg, hy⟩) hS h
theorem tuL4 {P : Program} {ops : Array Oper} {Q : Exit → Act → World → Prop} {md : Region.Mode} {S : World → Prop} {i : Nat} {oi : Oper} {fuel : Nat} {listed : Array Bool} {a : Act} {w : World} (hi : ops[i]? = some oi) (h : wpAnyH P md ops Q S fuel (listed.setIfInBounds i true) (a.put oi.dst undef) w) (hs : Region.noSelect ops = true := by kernel_rfl) (hf : Region.free md ops listed i = true := by kernel_rfl) (hr : (Region.ready md ops listed).contains i = true := by kernel_rfl) (hQ : ∀ c a w, Q (.panic c) (a.put oi.dst undef) w → Q (.panic c) a w := by exact fun _ _ _ h => h) (hg : Region.wanted oi (yielded ops a.tmps) = false := by rfl) (hS : S w := by assumption) : wpAnyH P md ops Q S (fuel + 1) listed a w :=
 wpAnyH_take hi hs hf hr hQ (Or.inr ⟨hg, rfl⟩) hS h
theorem sxL4 : (∀ (a : Act) (v : Value), a.put none v = a) ∧ (∀ (a : Act) (d : Tmp) (v : Value), a.put (some d) v = { a with tmps := a.tmps.setIfInBounds d v }) ∧ (∀ {α : Type} (l : List α) (i : Nat) (x : α), l.toArray.setIfInBounds i x = (l.set i x).toArray) ∧ (∀ {α : Type} (l : List α) (x y : α), (x :: l).set 0 y = y :: l) ∧ (∀ {α : Type} (l : List α) (x y : α) (n : Nat), (x :: l).set (n + 1) y = x :: l.set n y) :=
 ⟨fun _ _ => rfl, fun _ _ _ => rfl, fun _ _ _ => List.setIfInBounds_toArray .., fun _ _ _ => rfl, fun _ _ _ _ => rfl⟩
structure LandP (L : List Lt) : Prop where
 len : L.length ≤ 20000
 lot : ∀ t ∈ L, lotB t = true
 asc : AscL L
 fr : ∀ t ∈ L, ∀ n ∈ t.fr, isIn L n = false
 ap : (cellsR L).Pairwise Apt
noncomputable def landB (L : List Lt) : Bool := @decide (LandP L) (Classical.propDecidable _)
theorem landB_no {L : List Lt} (h : ¬ LandP L) : landB L = false := @decide_eq_false _ (Classical.propDecidable _) h
theorem landB_yes {L : List Lt} (h : LandP L) : landB L = true := @decide_eq_true _ (Classical.propDecidable _) h
theorem landB_iff (L : List Lt) : landB L = true ↔ LandP L := @decide_eq_true_iff _ (Classical.propDecidable _)
theorem ascL_of : ∀ {L : List Lt}, (∀ j (h : j + 1 < L.length), L[j].id < L[j + 1].id) → AscL L
 | [], _ => trivial
 | [t], _ => ⟨fun u hu => (nomatch hu), trivial⟩
 | t :: u :: L, h => by
  have ih := ascL_of (L := u :: L) (fun j hj => by have := h (j + 1) (by simp at hj ⊢; omega); simpa using this)
  have h0 : t.id < u.id := by have := h 0 (by simp); simpa using this
  refine ⟨fun v hv => ?_, ih⟩
  rcases List.mem_cons.1 hv with e | hv
  ·rw [e]; exact h0
  ·have := ih.1 v hv; omega
theorem lotB_one {t : Lt} (h : lotB t = true) : RegP t.ar ∧ t.ar ≠ [] ∧ t.ar.length ≤ 200 := by
 unfold lotB at h
 simp only [Bool.and_eq_true] at h
 have h1 := h.2
 unfold oneB at h1
 have h2 := (@decide_eq_true_iff _ (Classical.propDecidable _)).1 h1
 refine ⟨h2.1, fun e => ?_, h2.1.2⟩
 have := h2.2
 rw [e] at this
 simp [partsR, partsL, partsN] at this
def Pr13 (g pb b1 i : Nat) (t : Lt) (p : LtP) (v : Value) (z : Int) (w0 w' : World) : Prop := w'.cell? ⟨g, 0, none⟩ = some (.int .i64 t.id) ∧ w'.cell? ⟨g, 1, none⟩ = some (.int .i64 t.ow) ∧ w'.cell? ⟨g, 2, none⟩ = some (.slice p.A t.ar.length p.c) ∧ w'.cell? ⟨g, 3, none⟩ = some (.slice p.B t.fr.length p.d) ∧ w'.cell? ⟨pb, 0, none⟩ = some v ∧ w'.cell? ⟨b1, i, none⟩ = some (.int .i64 z) ∧ g < w'.heap.size ∧ pb < w'.heap.size ∧ b1 < w'.heap.size ∧ Hid (Below w0.heap.size w0 w')
theorem Pr13.bel {g pb b1 i : Nat} {t : Lt} {p : LtP} {v : Value} {z : Int} {w0 w : World} (h : Pr13 g pb b1 i t p v z w0 w) : Below w0.heap.size w0 w := h.2.2.2.2.2.2.2.2.2.out
theorem Pr13.go {g pb b1 i : Nat} {t : Lt} {p : LtP} {v : Value} {z : Int} {w0 w w' : World} (h : Pr13 g pb b1 i t p v z w0 w) (hb : Below w.heap.size w w') : Pr13 g pb b1 i t p v z w0 w' := by
 obtain ⟨a0, a1, a2, a3, a4, a5, l0, l1, l2, h8⟩ := h
 have x := fun k => hb.cell (p := ⟨g, k, none⟩) l0
 exact ⟨(x _).trans a0, (x _).trans a1, (x _).trans a2, (x _).trans a3, (hb.cell (p := ⟨pb, 0, none⟩) l1).trans a4, (hb.cell (p := ⟨b1, i, none⟩) l2).trans a5, Nat.lt_of_lt_of_le l0 hb.size, Nat.lt_of_lt_of_le l1 hb.size, Nat.lt_of_lt_of_le l2 hb.size, Lib.hid (h8.out.trans (hb.mono h8.out.size))⟩
theorem Pr13.drewN {g pb b1 i : Nat} {t : Lt} {p : LtP} {v : Value} {z : Int} {w0 w : World} (h : Pr13 g pb b1 i t p v z w0 w) (k : Nat) : Pr13 g pb b1 i t p v z w0 (w.drewN k) := h.go (below_drewN (Below.refl _ _) k)
set_option maxHeartbeats 32000000 in
theorem right13_any (A : Option Addr) (cap : Nat) (L : List Lt) (w : World) (h : LtIn w A cap L) : Calls Tryz.prog 17 #[.slice A L.length cap] w (BlIs (landB L) w) := by
 have HL := Lib.hid h; clear h
 have hlen := HL.out.len
 by_cases hbig : 20000 < L.length
 ·have s1 : (20000 : Int) < (L.length : Int) := by omega
  have HNO : Hid (landB L = false) := Lib.hid (landB_no (fun h => by have := h.len; omega))
  go_enter Tryz.func17, Tryz.ntmps17
  go_wp2_with fail
  go_ret
  exact ⟨by rw [HNO.out]; rfl, by (repeat' first | exact Below.refl _ _ | assumption | (apply below_drewN) | (refine Below.setCell ?_ (by (try simp); (try omega)) _) | (refine Below.alloc ?_ (by (try simp); (try omega)) _) | (refine Below.trans ?_ (Below.mono (Hid.out (by assumption)) (by (try simp); (try omega)))))⟩
 ·have s1 : ¬ (20000 : Int) < (L.length : Int) := by omega
  have s2 : L.length ≤ 20000 := by omega
  obtain ⟨n, hn⟩ : ∃ n, n = L.length := ⟨_, rfl⟩
  rw [← hn] at s1 s2 hlen ⊢
  have HNL := Lib.hid hn; clear hn hbig
  have HX0 : Hid ((w.alloc (.cells #[.slice A n cap] 22)).cell? ⟨w.heap.size, 0, none⟩ = some (.slice A n cap)) := Lib.hid (by rw [Lib.cell_of_heap (heap_alloc_new w _)]; rfl)
  have HB0 : Hid (Below w.heap.size w (w.alloc (.cells #[.slice A n cap] 22))) := Lib.hid ((Below.refl _ _).alloc (Nat.le_refl _) _)
  have HSZ : Hid ((w.alloc (.cells #[.slice A n cap] 22)).heap.size = w.heap.size + 1) := Lib.hid (by simp)
  go_enter Tryz.func17, Tryz.ntmps17
  go_upto_region 1 with fail
  generalize w.alloc (.cells #[.slice A n cap] 22) = wq at *
  obtain ⟨pb, hpb⟩ : ∃ pb, pb = w.heap.size := ⟨_, rfl⟩
  rw [← hpb] at HX0
  simp only [← hpb]
  have hpl : pb < wq.heap.size := by have := HSZ.out; omega
  have hx0 := HX0.out
  clear hpb HX0 HSZ
  go_wp2_with fail
  go_loopw [12] (fun i wr => ∃ (k : Nat), k ≤ n ∧ i = .int .i64 k ∧ Hid (Below wq.heap.size wq wr) ∧ Hid ((∀ j (h : j < L.length), j < k → lotB L[j] = true) ∧ ∀ j (h : j + 1 < L.length), j + 1 < k → L[j].id < L[j + 1].id)) (fun i _ => n - (intOf i).toNat)
  case atStart => exact ⟨0, Nat.zero_le _, rfl, Lib.hid (Below.refl _ _), Lib.hid ⟨fun j h hj => absurd hj (Nat.not_lt_zero _), fun j h hj => absurd hj (Nat.not_lt_zero _)⟩⟩
  case round =>
   obtain ⟨k, hk, rfl, HB, HT⟩ := hrel
   have hbs := HB.out.size
   have hx := (HB.out.cell (p := ⟨pb, 0, none⟩) hpl).trans hx0
   have hpr : pb < wr.heap.size := Nat.lt_of_lt_of_le hpl hbs
   have HBW := Lib.hid (HB0.out.trans (HB.out.mono HB0.out.size))
   by_cases hlt : k < n
   ·have hkL : k < L.length := by rw [← HNL.out]; exact hlt
    obtain ⟨b1, o1, p, rfl, hb1, ⟨x0, x1, x2, x3⟩, hi⟩ := HL.out.at_ hkL
    have wc := fun o => HBW.out.cell (p := ⟨b1, o, none⟩) hb1
    have x0 := (wc _).trans x0; have x1 := (wc _).trans x1; have x2 := (wc _).trans x2; have x3 := (wc _).trans x3
    have hbw : b1 < wr.heap.size := Nat.lt_of_lt_of_le hb1 HBW.out.size
    have n0 : (0 : Int) ≤ (k : Int) := by omega
    have n1 : (k : Int) < (n : Int) := by omega
    have HI := Lib.hid (fun w' (hb : Below wr.heap.size wr w') => lot_any L[k] p w' ((hi.below HBW.out).below hb))
    have HN1 := Lib.hid (fun (c : lotB L[k] = false) => landB_no (L := L) (fun h => by have := h.lot L[k] (List.getElem_mem hkL); rw [c] at this; cases this))
    have HN2 := Lib.hid (fun (h0 : 0 < k) (c : L[k].id ≤ (L[k - 1]'(by omega)).id) => landB_no (L := L) (fun h => by have := ascL_at h.asc (i := k - 1) (j := k) (by omega) hkL; omega))
    have HY1 := Lib.hid (fun (c : lotB L[k] = true) (c2 : ∀ h0 : 0 < k, (L[k - 1]'(by omega)).id < L[k].id) => (⟨fun j h hj => by
     by_cases e : j < k
     ·exact HT.out.1 j h e
     ·obtain rfl : j = k := by omega
      exact c, fun j h hj => by
     by_cases e : j + 1 < k
     ·exact HT.out.2 j h e
     ·obtain rfl : k = j + 1 := by omega
      exact c2 (by omega)⟩ : (∀ j (h : j < L.length), j < k + 1 → lotB L[j] = true) ∧ ∀ j (h : j + 1 < L.length), j + 1 < k + 1 → L[j].id < L[j + 1].id))
    have hq1 : 0 < k → wr.cell? ⟨b1, o1 + (k - 1) * 4, none⟩ = some (.int .i64 (L[k - 1]'(by omega)).id) := fun h0 => by
     obtain ⟨b2, o2, p2, e2, hb2, ⟨y0, _⟩, _⟩ := HL.out.at_ (j := k - 1) (by omega)
     simp only [Option.some.injEq, Addr.mk.injEq, and_true] at e2
     obtain ⟨rfl, rfl⟩ := e2
     exact (wc _).trans y0
    clear HT hi wc
    obtain ⟨zz, hzz⟩ : ∃ zz : Int, ∀ h0 : 0 < k, zz = (L[k - 1]'(by omega)).id := by
     by_cases h0 : 0 < k
     ·exact ⟨(L[k - 1]'(by omega)).id, fun _ => rfl⟩
     ·exact ⟨0, fun h => absurd h h0⟩
    have HN2 := Lib.hid (fun (h0 : 0 < k) (c : L[k].id ≤ zz) => HN2.out h0 (by rw [← hzz h0]; exact c))
    have HY1 := Lib.hid (fun (c : lotB L[k] = true) (c2 : 0 < k → zz < L[k].id) => HY1.out c (fun h0 => by rw [← hzz h0]; exact c2 h0))
    have hq1 : 0 < k → wr.cell? ⟨b1, o1 + (k - 1) * 4, none⟩ = some (.int .i64 zz) := fun h0 => by rw [hzz h0]; exact hq1 h0
    clear hzz
    generalize L[k] = u at *
    obtain ⟨id, ow, ar, fr⟩ := u
    obtain ⟨PA, PC, PB, PD⟩ := p
    simp only at x0 x1 x2 x3 HI HN1 HN2 HY1
    obtain ⟨wg, hwg⟩ : ∃ wg, wg = wr.alloc (.cells #[.int .i64 id, .int .i64 ow, .slice PA ar.length PC, .slice PB fr.length PD] 40) := ⟨_, rfl⟩
    have hbg : Below wr.heap.size wr wg := by rw [hwg]; exact (Below.refl _ _).alloc (Nat.le_refl _) _
    have hat : LtAt wg wr.heap.size ⟨id, ow, ar, fr⟩ ⟨PA, PC, PB, PD⟩ := by rw [hwg]; exact LtAt.new wr ⟨id, ow, ar, fr⟩ ⟨PA, PC, PB, PD⟩ wr.heap.size rfl rfl rfl
    have HLOT := Lib.hid (fun w' (hb : Below wg.heap.size wg w') => HI.out w' (hbg.trans (hb.mono hbg.size)))
    have HBG := Lib.hid (HBW.out.trans (hbg.mono HBW.out.size))
    have HBQ : Hid (Below wq.heap.size wq wg) := Lib.hid (HB.out.trans (hbg.mono hbs))
    have HWG := Lib.hid hwg
    unfold lvl at HLOT
    simp only at HLOT
    have hcg := hat.c
    have hgl := hat.lt
    have hxg := (hbg.cell (p := ⟨pb, 0, none⟩) hpr).trans hx
    have hpg : pb < wg.heap.size := Nat.lt_of_lt_of_le hpr hbg.size
    have hbwg : b1 < wg.heap.size := Nat.lt_of_lt_of_le hbw hbg.size
    have hq1 : 0 < k → wg.cell? ⟨b1, o1 + (k - 1) * 4, none⟩ = some (.int .i64 zz) := fun h0 => (hbg.cell (p := ⟨b1, _, none⟩) hbw).trans (hq1 h0)
    have hq0 : wg.cell? ⟨b1, o1 + k * 4, none⟩ = some (.int .i64 id) := (hbg.cell (p := ⟨b1, _, none⟩) hbw).trans x0
    clear HI hat hwg hbg
    go_upto_region 6 with fail
    rw [← HWG.out]
    clear HWG
    obtain ⟨g, hg⟩ : ∃ g, g = wr.heap.size := ⟨_, rfl⟩
    rw [← hg] at hcg hgl
    simp only [← hg]
    clear hg x0 x1 x2 x3 hx
    obtain ⟨y0, y1, y2, y3⟩ := hcg
    have HBR := HB
    cases cl : lotB ⟨id, ow, ar, fr⟩ with
    | false =>
     rw [cl] at HLOT
     have HNO := Lib.hid (HN1.out cl)
     clear HN1 HN2 HY1 cl
     obtain ⟨ii, hii⟩ : ∃ ii, ii = o1 + k * 4 := ⟨_, rfl⟩
     rw [← hii] at hq0
     obtain ⟨z, hz⟩ : ∃ z : Int, z = id := ⟨_, rfl⟩
     have E5 : Hid (Pr13 g pb b1 ii ⟨id, ow, ar, fr⟩ ⟨PA, PC, PB, PD⟩ (.slice (some ⟨b1, o1, none⟩) n cap) z wg wg) := Lib.hid ⟨y0, y1, y2, y3, hxg, by rw [hz]; exact hq0, hgl, hpg, hbwg, Lib.hid (Below.refl _ _)⟩
     clear y0 y1 y2 y3 hxg hq0 hq1 hgl hpg hbwg hii hz
     refine wp_region_held_drew (S := (fun w' => w'.cell? ⟨g, 0, none⟩ = some (.int .i64 id) ∧ w'.cell? ⟨g, 1, none⟩ = some (.int .i64 ow) ∧ w'.cell? ⟨g, 2, none⟩ = some (.slice PA ar.length PC) ∧ w'.cell? ⟨g, 3, none⟩ = some (.slice PB fr.length PD) ∧ w'.cell? ⟨pb, 0, none⟩ = some (.slice (some ⟨b1, o1, none⟩) n cap) ∧ w'.cell? ⟨b1, ii, none⟩ = some (.int .i64 z) ∧ g < w'.heap.size ∧ pb < w'.heap.size ∧ b1 < w'.heap.size ∧ Hid (Below wg.heap.size wg w'))) (by kernel_rfl) ?_ (fun hHeld => ?_)
     ·exact Pr13.drewN E5.out 1
     refine tkL4 (i := 0) (oi := ⟨some 17, .load 40 (.tmp 4), 40, "parcel.go:24", #[], none⟩) rfl ?_
     try simp only [sxL4]
     refine wpAnyH_ready (rs := [1]) (by kernel_rfl) (by simp) ?_
     refine (AllReadyH.cons (o := ⟨some 18, .call { callee := .value (.func 49), args := #[.tmp 17], argTypes := #[40] }, 4, "parcel.go:24", #[⟨0, .data⟩], none⟩) rfl (fun K0 hK => ?_) AllReadyH.nil)
     have hbq9 := Pr13.bel (g := g) (pb := pb) (b1 := b1) (i := ii) (t := ⟨id, ow, ar, fr⟩) (p := ⟨PA, PC, PB, PD⟩) (v := .slice (some ⟨b1, o1, none⟩) n cap) (z := z) (w0 := wg) hHeld
     go_simp
     go_at_call 49
     with_reducible refine Calls.mono (HLOT.out _ hbq9) ?_
     rintro e w91 ⟨rfl, hb⟩
     try go_wp2_with fail
     refine hK.out _ _ (Pr13.go (g := g) (pb := pb) (b1 := b1) (i := ii) (t := ⟨id, ow, ar, fr⟩) (p := ⟨PA, PC, PB, PD⟩) (v := .slice (some ⟨b1, o1, none⟩) n cap) (z := z) (w0 := wg) (by assumption) hb) (fun hHeld2 => ?_)
     clear hK K0 hHeld hb hbq9
     have hHeld := hHeld2; clear hHeld2
     try simp only [sxL4]
     refine tkL4 (i := 2) (oi := ⟨some 19, .unOp .not 4 (.tmp 18), 4, "parcel.go:24", #[⟨1, .data⟩], none⟩) rfl ?_
     try simp only [sxL4]
     refine tkL4 (i := 3) (oi := ⟨some 20, .move (.tmp 19), 4, "parcel.go:24", #[⟨2, .data⟩, ⟨1, .chain⟩], none⟩) rfl ?_
     try simp only [sxL4]
     refine tuL4 (i := 4) (oi := ⟨some 21, .move (.tmp 3), 3, "parcel.go:24", #[⟨3, .guard⟩], some (3, false)⟩) rfl ?_
     try simp only [sxL4]
     refine tuL4 (i := 5) (oi := ⟨some 22, .binOp .gtr 3 (.tmp 21) (.const (.int .i64 0)) 3, 4, "parcel.go:24", #[⟨4, .data⟩, ⟨3, .guard⟩], some (3, false)⟩) rfl ?_
     try simp only [sxL4]
     refine tuL4 (i := 6) (oi := ⟨some 23, .move (.tmp 22), 4, "parcel.go:24", #[⟨5, .data⟩, ⟨3, .chain⟩, ⟨3, .guard⟩], some (3, false)⟩) rfl ?_
     try simp only [sxL4]
     refine tuL4 (i := 7) (oi := ⟨some 24, .fieldAddr 40 (.tmp 4) 0, 0, "parcel.go:24", #[⟨6, .guard⟩], some (6, true)⟩) rfl ?_
     try simp only [sxL4]
     refine tuL4 (i := 8) (oi := ⟨some 25, .load 3 (.tmp 24), 3, "parcel.go:24", #[⟨7, .data⟩, ⟨6, .guard⟩], some (6, true)⟩) rfl ?_
     try simp only [sxL4]
     refine tuL4 (i := 9) (oi := ⟨some 26, .load 22 (.tmp 1), 22, "parcel.go:24", #[⟨6, .guard⟩], some (6, true)⟩) rfl ?_
     try simp only [sxL4]
     refine tuL4 (i := 10) (oi := ⟨some 27, .move (.tmp 3), 3, "parcel.go:24", #[⟨6, .guard⟩], some (6, true)⟩) rfl ?_
     try simp only [sxL4]
     refine tuL4 (i := 11) (oi := ⟨some 28, .binOp .sub 3 (.tmp 27) (.const (.int .i64 1)) 3, 3, "parcel.go:24", #[⟨10, .data⟩, ⟨6, .guard⟩], some (6, true)⟩) rfl ?_
     try simp only [sxL4]
     refine tuL4 (i := 12) (oi := ⟨some 29, .indexAddr 22 (.tmp 26) (.tmp 28), 0, "parcel.go:24", #[⟨9, .data⟩, ⟨11, .data⟩, ⟨6, .guard⟩], some (6, true)⟩) rfl ?_
     try simp only [sxL4]
     refine tuL4 (i := 13) (oi := ⟨some 30, .fieldAddr 40 (.tmp 29) 0, 0, "parcel.go:24", #[⟨12, .data⟩, ⟨6, .guard⟩], some (6, true)⟩) rfl ?_
     try simp only [sxL4]
     refine tuL4 (i := 14) (oi := ⟨some 31, .load 3 (.tmp 30), 3, "parcel.go:24", #[⟨13, .data⟩, ⟨6, .guard⟩], some (6, true)⟩) rfl ?_
     try simp only [sxL4]
     refine tuL4 (i := 15) (oi := ⟨some 32, .binOp .leq 3 (.tmp 25) (.tmp 31) 3, 4, "parcel.go:24", #[⟨8, .data⟩, ⟨14, .data⟩, ⟨6, .guard⟩], some (6, true)⟩) rfl ?_
     try simp only [sxL4]
     refine tuL4 (i := 16) (oi := ⟨some 33, .pick (.tmp 23) (.tmp 32) (.const (.bool false)), 4, "parcel.go:24", #[⟨6, .data⟩, ⟨15, .data⟩, ⟨3, .guard⟩], some (3, false)⟩) rfl ?_
     try simp only [sxL4]
     refine tkL4 (i := 17) (oi := ⟨some 34, .pick (.tmp 20) (.const (.bool true)) (.tmp 33), 4, "parcel.go:24", #[⟨3, .data⟩, ⟨16, .data⟩], none⟩) rfl ?_
     try simp only [sxL4]
     refine wpAnyH_done (by kernel_rfl) ?_ _
     have HZB := Lib.hid (HBG.out.trans ((Pr13.bel (g := g) (pb := pb) (b1 := b1) (i := ii) (t := ⟨id, ow, ar, fr⟩) (p := ⟨PA, PC, PB, PD⟩) (v := .slice (some ⟨b1, o1, none⟩) n cap) (z := z) (w0 := wg) hHeld).mono HBG.out.size))
     clear hHeld
     go_wp2_with fail
     go_ret
     exact ⟨by rw [HNO.out]; rfl, HZB.out.trans (by (repeat' first | exact Below.refl _ _ | assumption | (apply below_drewN) | (refine Below.setCell ?_ (by (try simp); (try omega)) _) | (refine Below.alloc ?_ (by (try simp); (try omega)) _) | (refine Below.trans ?_ (Below.mono (Hid.out (by assumption)) (by (try simp); (try omega))))))⟩
    | true =>
     rw [cl] at HLOT
     rcases Nat.eq_zero_or_pos k with k0 | k0
     ·have HYES := Lib.hid (HY1.out cl (fun h => absurd h (by omega)))
      have g0 : decide ((0 : Int) < (k : Int)) = false := by simp; omega
      have g1 : decide (0 < k) = false := by simp; omega
      clear HN1 HN2 HY1 cl
      obtain ⟨ii, hii⟩ : ∃ ii, ii = o1 + k * 4 := ⟨_, rfl⟩
      rw [← hii] at hq0
      obtain ⟨z, hz⟩ : ∃ z : Int, z = id := ⟨_, rfl⟩
      have E5 : Hid (Pr13 g pb b1 ii ⟨id, ow, ar, fr⟩ ⟨PA, PC, PB, PD⟩ (.slice (some ⟨b1, o1, none⟩) n cap) z wg wg) := Lib.hid ⟨y0, y1, y2, y3, hxg, by rw [hz]; exact hq0, hgl, hpg, hbwg, Lib.hid (Below.refl _ _)⟩
      have HK0 := Lib.hid k0
      clear y0 y1 y2 y3 hxg hq0 hq1 hgl hpg hbwg hii hz k0
      refine wp_region_held_drew (S := (fun w' => w'.cell? ⟨g, 0, none⟩ = some (.int .i64 id) ∧ w'.cell? ⟨g, 1, none⟩ = some (.int .i64 ow) ∧ w'.cell? ⟨g, 2, none⟩ = some (.slice PA ar.length PC) ∧ w'.cell? ⟨g, 3, none⟩ = some (.slice PB fr.length PD) ∧ w'.cell? ⟨pb, 0, none⟩ = some (.slice (some ⟨b1, o1, none⟩) n cap) ∧ w'.cell? ⟨b1, ii, none⟩ = some (.int .i64 z) ∧ g < w'.heap.size ∧ pb < w'.heap.size ∧ b1 < w'.heap.size ∧ Hid (Below wg.heap.size wg w'))) (by kernel_rfl) ?_ (fun hHeld => ?_)
      ·exact Pr13.drewN E5.out 1
      refine tkL4 (i := 0) (oi := ⟨some 17, .load 40 (.tmp 4), 40, "parcel.go:24", #[], none⟩) rfl ?_
      try simp only [sxL4]
      refine wpAnyH_ready (rs := [1]) (by kernel_rfl) (by simp) ?_
      refine (AllReadyH.cons (o := ⟨some 18, .call { callee := .value (.func 49), args := #[.tmp 17], argTypes := #[40] }, 4, "parcel.go:24", #[⟨0, .data⟩], none⟩) rfl (fun K0 hK => ?_) AllReadyH.nil)
      have hbq9 := Pr13.bel (g := g) (pb := pb) (b1 := b1) (i := ii) (t := ⟨id, ow, ar, fr⟩) (p := ⟨PA, PC, PB, PD⟩) (v := .slice (some ⟨b1, o1, none⟩) n cap) (z := z) (w0 := wg) hHeld
      go_simp
      go_at_call 49
      with_reducible refine Calls.mono (HLOT.out _ hbq9) ?_
      rintro e w91 ⟨rfl, hb⟩
      try go_wp2_with fail
      refine hK.out _ _ (Pr13.go (g := g) (pb := pb) (b1 := b1) (i := ii) (t := ⟨id, ow, ar, fr⟩) (p := ⟨PA, PC, PB, PD⟩) (v := .slice (some ⟨b1, o1, none⟩) n cap) (z := z) (w0 := wg) (by assumption) hb) (fun hHeld2 => ?_)
      clear hK K0 hHeld hb hbq9
      have hHeld := hHeld2; clear hHeld2
      try simp only [sxL4]
      refine tkL4 (i := 2) (oi := ⟨some 19, .unOp .not 4 (.tmp 18), 4, "parcel.go:24", #[⟨1, .data⟩], none⟩) rfl ?_
      try simp only [sxL4]
      refine tkL4 (i := 3) (oi := ⟨some 20, .move (.tmp 19), 4, "parcel.go:24", #[⟨2, .data⟩, ⟨1, .chain⟩], none⟩) rfl ?_
      try simp only [sxL4]
      refine tkL4 (i := 4) (oi := ⟨some 21, .move (.tmp 3), 3, "parcel.go:24", #[⟨3, .guard⟩], some (3, false)⟩) rfl ?_
      try simp only [sxL4]
      refine tkL4 (i := 5) (oi := ⟨some 22, .binOp .gtr 3 (.tmp 21) (.const (.int .i64 0)) 3, 4, "parcel.go:24", #[⟨4, .data⟩, ⟨3, .guard⟩], some (3, false)⟩) rfl ?_
      try simp only [sxL4]
      refine tkL4 (i := 6) (oi := ⟨some 23, .move (.tmp 22), 4, "parcel.go:24", #[⟨5, .data⟩, ⟨3, .chain⟩, ⟨3, .guard⟩], some (3, false)⟩) rfl ?_
      try simp only [sxL4]
      refine tuL4 (i := 7) (oi := ⟨some 24, .fieldAddr 40 (.tmp 4) 0, 0, "parcel.go:24", #[⟨6, .guard⟩], some (6, true)⟩) rfl ?_
      try simp only [sxL4]
      refine tuL4 (i := 8) (oi := ⟨some 25, .load 3 (.tmp 24), 3, "parcel.go:24", #[⟨7, .data⟩, ⟨6, .guard⟩], some (6, true)⟩) rfl ?_
      try simp only [sxL4]
      refine tuL4 (i := 9) (oi := ⟨some 26, .load 22 (.tmp 1), 22, "parcel.go:24", #[⟨6, .guard⟩], some (6, true)⟩) rfl ?_
      try simp only [sxL4]
      refine tuL4 (i := 10) (oi := ⟨some 27, .move (.tmp 3), 3, "parcel.go:24", #[⟨6, .guard⟩], some (6, true)⟩) rfl ?_
      try simp only [sxL4]
      refine tuL4 (i := 11) (oi := ⟨some 28, .binOp .sub 3 (.tmp 27) (.const (.int .i64 1)) 3, 3, "parcel.go:24", #[⟨10, .data⟩, ⟨6, .guard⟩], some (6, true)⟩) rfl ?_
      try simp only [sxL4]
      refine tuL4 (i := 12) (oi := ⟨some 29, .indexAddr 22 (.tmp 26) (.tmp 28), 0, "parcel.go:24", #[⟨9, .data⟩, ⟨11, .data⟩, ⟨6, .guard⟩], some (6, true)⟩) rfl ?_
      try simp only [sxL4]
      refine tuL4 (i := 13) (oi := ⟨some 30, .fieldAddr 40 (.tmp 29) 0, 0, "parcel.go:24", #[⟨12, .data⟩, ⟨6, .guard⟩], some (6, true)⟩) rfl ?_
      try simp only [sxL4]
      refine tuL4 (i := 14) (oi := ⟨some 31, .load 3 (.tmp 30), 3, "parcel.go:24", #[⟨13, .data⟩, ⟨6, .guard⟩], some (6, true)⟩) rfl ?_
      try simp only [sxL4]
      refine tuL4 (i := 15) (oi := ⟨some 32, .binOp .leq 3 (.tmp 25) (.tmp 31) 3, 4, "parcel.go:24", #[⟨8, .data⟩, ⟨14, .data⟩, ⟨6, .guard⟩], some (6, true)⟩) rfl ?_
      try simp only [sxL4]
      refine tkL4 (i := 16) (oi := ⟨some 33, .pick (.tmp 23) (.tmp 32) (.const (.bool false)), 4, "parcel.go:24", #[⟨6, .data⟩, ⟨15, .data⟩, ⟨3, .guard⟩], some (3, false)⟩) rfl ?_
      try simp only [sxL4]
      refine tkL4 (i := 17) (oi := ⟨some 34, .pick (.tmp 20) (.const (.bool true)) (.tmp 33), 4, "parcel.go:24", #[⟨3, .data⟩, ⟨16, .data⟩], none⟩) rfl ?_
      try simp only [sxL4]
      refine wpAnyH_done (by kernel_rfl) ?_ _
      have HZB := Lib.hid (HBQ.out.trans ((Pr13.bel (g := g) (pb := pb) (b1 := b1) (i := ii) (t := ⟨id, ow, ar, fr⟩) (p := ⟨PA, PC, PB, PD⟩) (v := .slice (some ⟨b1, o1, none⟩) n cap) (z := z) (w0 := wg) hHeld).mono HBQ.out.size))
      clear hHeld
      go_wp2_with fail
      go_roundw
      case rel => exact ⟨k + 1, by omega, by go_num, HZB, HYES⟩
      case measure => simp [intOf]; omega
     ·obtain ⟨k', rfl⟩ : ∃ i, k = i + 1 := ⟨k - 1, by omega⟩
      have hq := hq1 (by omega)
      simp only [Nat.add_sub_cancel] at hq
      have g0 : decide ((0 : Int) < ((k' + 1 : Nat) : Int)) = true := by simp
      have g1 : decide (0 < k' + 1) = true := by simp
      have r1 : IntKind.i64.wrap (((k' + 1 : Nat) : Int) - 1) = (k' : Int) := by rw [show ((k' + 1 : Nat) : Int) - 1 = (k' : Int) by omega]; exact IntWalk.i64_in _ (by omega)
      have r2 : IntKind.i64.wrap (k' : Int) = (k' : Int) := IntWalk.i64_in _ (by omega)
      have m0 : (0 : Int) ≤ (k' : Int) := by omega
      have m1 : (k' : Int) < (n : Int) := by omega
      obtain ⟨ii, hii⟩ : ∃ ii, ii = o1 + k' * 4 := ⟨_, rfl⟩
      obtain ⟨z, hz⟩ : ∃ z : Int, z = zz := ⟨_, rfl⟩
      have E5 : Hid (Pr13 g pb b1 (o1 + k' * 4) ⟨id, ow, ar, fr⟩ ⟨PA, PC, PB, PD⟩ (.slice (some ⟨b1, o1, none⟩) n cap) z wg wg) := Lib.hid ⟨y0, y1, y2, y3, hxg, by rw [hz]; exact hq, hgl, hpg, hbwg, Lib.hid (Below.refl _ _)⟩
      have HN3 := Lib.hid (fun (c : id ≤ z) => HN2.out (by omega) (by rw [← hz]; exact c))
      have HY3 := Lib.hid (fun (c : z < id) => HY1.out cl (fun _ => by rw [← hz]; exact c))
      clear y0 y1 y2 y3 hxg hq0 hq1 hgl hpg hbwg hii hz HN1 HN2 HY1 cl hq k0
      by_cases c : id ≤ z
      ·have hd := decide_eq_true c
       have HNO := Lib.hid (HN3.out c)
       clear HN3 HY3 c
       refine wp_region_held_drew (S := (fun w' => w'.cell? ⟨g, 0, none⟩ = some (.int .i64 id) ∧ w'.cell? ⟨g, 1, none⟩ = some (.int .i64 ow) ∧ w'.cell? ⟨g, 2, none⟩ = some (.slice PA ar.length PC) ∧ w'.cell? ⟨g, 3, none⟩ = some (.slice PB fr.length PD) ∧ w'.cell? ⟨pb, 0, none⟩ = some (.slice (some ⟨b1, o1, none⟩) n cap) ∧ w'.cell? ⟨b1, o1 + k' * 4, none⟩ = some (.int .i64 z) ∧ g < w'.heap.size ∧ pb < w'.heap.size ∧ b1 < w'.heap.size ∧ Hid (Below wg.heap.size wg w'))) (by kernel_rfl) ?_ (fun hHeld => ?_)
       ·exact Pr13.drewN E5.out 1
       refine tkL4 (i := 0) (oi := ⟨some 17, .load 40 (.tmp 4), 40, "parcel.go:24", #[], none⟩) rfl ?_
       try simp only [sxL4]
       refine wpAnyH_ready (rs := [1]) (by kernel_rfl) (by simp) ?_
       refine (AllReadyH.cons (o := ⟨some 18, .call { callee := .value (.func 49), args := #[.tmp 17], argTypes := #[40] }, 4, "parcel.go:24", #[⟨0, .data⟩], none⟩) rfl (fun K0 hK => ?_) AllReadyH.nil)
       have hbq9 := Pr13.bel (g := g) (pb := pb) (b1 := b1) (i := o1 + k' * 4) (t := ⟨id, ow, ar, fr⟩) (p := ⟨PA, PC, PB, PD⟩) (v := .slice (some ⟨b1, o1, none⟩) n cap) (z := z) (w0 := wg) hHeld
       go_simp
       go_at_call 49
       with_reducible refine Calls.mono (HLOT.out _ hbq9) ?_
       rintro e w91 ⟨rfl, hb⟩
       try go_wp2_with fail
       refine hK.out _ _ (Pr13.go (g := g) (pb := pb) (b1 := b1) (i := o1 + k' * 4) (t := ⟨id, ow, ar, fr⟩) (p := ⟨PA, PC, PB, PD⟩) (v := .slice (some ⟨b1, o1, none⟩) n cap) (z := z) (w0 := wg) (by assumption) hb) (fun hHeld2 => ?_)
       clear hK K0 hHeld hb hbq9
       have hHeld := hHeld2; clear hHeld2
       try simp only [sxL4]
       refine tkL4 (i := 2) (oi := ⟨some 19, .unOp .not 4 (.tmp 18), 4, "parcel.go:24", #[⟨1, .data⟩], none⟩) rfl ?_
       try simp only [sxL4]
       refine tkL4 (i := 3) (oi := ⟨some 20, .move (.tmp 19), 4, "parcel.go:24", #[⟨2, .data⟩, ⟨1, .chain⟩], none⟩) rfl ?_
       try simp only [sxL4]
       refine tkL4 (i := 4) (oi := ⟨some 21, .move (.tmp 3), 3, "parcel.go:24", #[⟨3, .guard⟩], some (3, false)⟩) rfl ?_
       try simp only [sxL4]
       refine tkL4 (i := 5) (oi := ⟨some 22, .binOp .gtr 3 (.tmp 21) (.const (.int .i64 0)) 3, 4, "parcel.go:24", #[⟨4, .data⟩, ⟨3, .guard⟩], some (3, false)⟩) rfl ?_
       try simp only [sxL4]
       refine tkL4 (i := 6) (oi := ⟨some 23, .move (.tmp 22), 4, "parcel.go:24", #[⟨5, .data⟩, ⟨3, .chain⟩, ⟨3, .guard⟩], some (3, false)⟩) rfl ?_
       try simp only [sxL4]
       refine tkL4 (i := 7) (oi := ⟨some 24, .fieldAddr 40 (.tmp 4) 0, 0, "parcel.go:24", #[⟨6, .guard⟩], some (6, true)⟩) rfl ?_
       try simp only [sxL4]
       refine tkL4 (i := 8) (oi := ⟨some 25, .load 3 (.tmp 24), 3, "parcel.go:24", #[⟨7, .data⟩, ⟨6, .guard⟩], some (6, true)⟩) rfl ?_
       try simp only [sxL4]
       refine tkL4 (i := 9) (oi := ⟨some 26, .load 22 (.tmp 1), 22, "parcel.go:24", #[⟨6, .guard⟩], some (6, true)⟩) rfl ?_
       try simp only [sxL4]
       refine tkL4 (i := 10) (oi := ⟨some 27, .move (.tmp 3), 3, "parcel.go:24", #[⟨6, .guard⟩], some (6, true)⟩) rfl ?_
       try simp only [sxL4]
       refine tkL4 (i := 11) (oi := ⟨some 28, .binOp .sub 3 (.tmp 27) (.const (.int .i64 1)) 3, 3, "parcel.go:24", #[⟨10, .data⟩, ⟨6, .guard⟩], some (6, true)⟩) rfl ?_
       try simp only [sxL4]
       refine tkL4 (i := 12) (oi := ⟨some 29, .indexAddr 22 (.tmp 26) (.tmp 28), 0, "parcel.go:24", #[⟨9, .data⟩, ⟨11, .data⟩, ⟨6, .guard⟩], some (6, true)⟩) rfl ?_
       try simp only [sxL4]
       refine tkL4 (i := 13) (oi := ⟨some 30, .fieldAddr 40 (.tmp 29) 0, 0, "parcel.go:24", #[⟨12, .data⟩, ⟨6, .guard⟩], some (6, true)⟩) rfl ?_
       try simp only [sxL4]
       refine tkL4 (i := 14) (oi := ⟨some 31, .load 3 (.tmp 30), 3, "parcel.go:24", #[⟨13, .data⟩, ⟨6, .guard⟩], some (6, true)⟩) rfl ?_
       try simp only [sxL4]
       refine tkL4 (i := 15) (oi := ⟨some 32, .binOp .leq 3 (.tmp 25) (.tmp 31) 3, 4, "parcel.go:24", #[⟨8, .data⟩, ⟨14, .data⟩, ⟨6, .guard⟩], some (6, true)⟩) rfl ?_
       try simp only [sxL4]
       refine tkL4 (i := 16) (oi := ⟨some 33, .pick (.tmp 23) (.tmp 32) (.const (.bool false)), 4, "parcel.go:24", #[⟨6, .data⟩, ⟨15, .data⟩, ⟨3, .guard⟩], some (3, false)⟩) rfl ?_
       try simp only [sxL4]
       refine tkL4 (i := 17) (oi := ⟨some 34, .pick (.tmp 20) (.const (.bool true)) (.tmp 33), 4, "parcel.go:24", #[⟨3, .data⟩, ⟨16, .data⟩], none⟩) rfl ?_
       try simp only [sxL4]
       refine wpAnyH_done (by kernel_rfl) ?_ _
       have HZB := Lib.hid (HBG.out.trans ((Pr13.bel (g := g) (pb := pb) (b1 := b1) (i := o1 + k' * 4) (t := ⟨id, ow, ar, fr⟩) (p := ⟨PA, PC, PB, PD⟩) (v := .slice (some ⟨b1, o1, none⟩) n cap) (z := z) (w0 := wg) hHeld).mono HBG.out.size))
       clear hHeld
       go_wp2_with fail
       go_ret
       exact ⟨by rw [HNO.out]; rfl, HZB.out.trans (by (repeat' first | exact Below.refl _ _ | assumption | (apply below_drewN) | (refine Below.setCell ?_ (by (try simp); (try omega)) _) | (refine Below.alloc ?_ (by (try simp); (try omega)) _) | (refine Below.trans ?_ (Below.mono (Hid.out (by assumption)) (by (try simp); (try omega))))))⟩
      ·have hd := decide_eq_false c
       have HYES := Lib.hid (HY3.out (by omega))
       clear HN3 HY3 c
       refine wp_region_held_drew (S := (fun w' => w'.cell? ⟨g, 0, none⟩ = some (.int .i64 id) ∧ w'.cell? ⟨g, 1, none⟩ = some (.int .i64 ow) ∧ w'.cell? ⟨g, 2, none⟩ = some (.slice PA ar.length PC) ∧ w'.cell? ⟨g, 3, none⟩ = some (.slice PB fr.length PD) ∧ w'.cell? ⟨pb, 0, none⟩ = some (.slice (some ⟨b1, o1, none⟩) n cap) ∧ w'.cell? ⟨b1, o1 + k' * 4, none⟩ = some (.int .i64 z) ∧ g < w'.heap.size ∧ pb < w'.heap.size ∧ b1 < w'.heap.size ∧ Hid (Below wg.heap.size wg w'))) (by kernel_rfl) ?_ (fun hHeld => ?_)
       ·exact Pr13.drewN E5.out 1
       refine tkL4 (i := 0) (oi := ⟨some 17, .load 40 (.tmp 4), 40, "parcel.go:24", #[], none⟩) rfl ?_
       try simp only [sxL4]
       refine wpAnyH_ready (rs := [1]) (by kernel_rfl) (by simp) ?_
       refine (AllReadyH.cons (o := ⟨some 18, .call { callee := .value (.func 49), args := #[.tmp 17], argTypes := #[40] }, 4, "parcel.go:24", #[⟨0, .data⟩], none⟩) rfl (fun K0 hK => ?_) AllReadyH.nil)
       have hbq9 := Pr13.bel (g := g) (pb := pb) (b1 := b1) (i := o1 + k' * 4) (t := ⟨id, ow, ar, fr⟩) (p := ⟨PA, PC, PB, PD⟩) (v := .slice (some ⟨b1, o1, none⟩) n cap) (z := z) (w0 := wg) hHeld
       go_simp
       go_at_call 49
       with_reducible refine Calls.mono (HLOT.out _ hbq9) ?_
       rintro e w91 ⟨rfl, hb⟩
       try go_wp2_with fail
       refine hK.out _ _ (Pr13.go (g := g) (pb := pb) (b1 := b1) (i := o1 + k' * 4) (t := ⟨id, ow, ar, fr⟩) (p := ⟨PA, PC, PB, PD⟩) (v := .slice (some ⟨b1, o1, none⟩) n cap) (z := z) (w0 := wg) (by assumption) hb) (fun hHeld2 => ?_)
       clear hK K0 hHeld hb hbq9
       have hHeld := hHeld2; clear hHeld2
       try simp only [sxL4]
       refine tkL4 (i := 2) (oi := ⟨some 19, .unOp .not 4 (.tmp 18), 4, "parcel.go:24", #[⟨1, .data⟩], none⟩) rfl ?_
       try simp only [sxL4]
       refine tkL4 (i := 3) (oi := ⟨some 20, .move (.tmp 19), 4, "parcel.go:24", #[⟨2, .data⟩, ⟨1, .chain⟩], none⟩) rfl ?_
       try simp only [sxL4]
       refine tkL4 (i := 4) (oi := ⟨some 21, .move (.tmp 3), 3, "parcel.go:24", #[⟨3, .guard⟩], some (3, false)⟩) rfl ?_
       try simp only [sxL4]
       refine tkL4 (i := 5) (oi := ⟨some 22, .binOp .gtr 3 (.tmp 21) (.const (.int .i64 0)) 3, 4, "parcel.go:24", #[⟨4, .data⟩, ⟨3, .guard⟩], some (3, false)⟩) rfl ?_
       try simp only [sxL4]
       refine tkL4 (i := 6) (oi := ⟨some 23, .move (.tmp 22), 4, "parcel.go:24", #[⟨5, .data⟩, ⟨3, .chain⟩, ⟨3, .guard⟩], some (3, false)⟩) rfl ?_
       try simp only [sxL4]
       refine tkL4 (i := 7) (oi := ⟨some 24, .fieldAddr 40 (.tmp 4) 0, 0, "parcel.go:24", #[⟨6, .guard⟩], some (6, true)⟩) rfl ?_
       try simp only [sxL4]
       refine tkL4 (i := 8) (oi := ⟨some 25, .load 3 (.tmp 24), 3, "parcel.go:24", #[⟨7, .data⟩, ⟨6, .guard⟩], some (6, true)⟩) rfl ?_
       try simp only [sxL4]
       refine tkL4 (i := 9) (oi := ⟨some 26, .load 22 (.tmp 1), 22, "parcel.go:24", #[⟨6, .guard⟩], some (6, true)⟩) rfl ?_
       try simp only [sxL4]
       refine tkL4 (i := 10) (oi := ⟨some 27, .move (.tmp 3), 3, "parcel.go:24", #[⟨6, .guard⟩], some (6, true)⟩) rfl ?_
       try simp only [sxL4]
       refine tkL4 (i := 11) (oi := ⟨some 28, .binOp .sub 3 (.tmp 27) (.const (.int .i64 1)) 3, 3, "parcel.go:24", #[⟨10, .data⟩, ⟨6, .guard⟩], some (6, true)⟩) rfl ?_
       try simp only [sxL4]
       refine tkL4 (i := 12) (oi := ⟨some 29, .indexAddr 22 (.tmp 26) (.tmp 28), 0, "parcel.go:24", #[⟨9, .data⟩, ⟨11, .data⟩, ⟨6, .guard⟩], some (6, true)⟩) rfl ?_
       try simp only [sxL4]
       refine tkL4 (i := 13) (oi := ⟨some 30, .fieldAddr 40 (.tmp 29) 0, 0, "parcel.go:24", #[⟨12, .data⟩, ⟨6, .guard⟩], some (6, true)⟩) rfl ?_
       try simp only [sxL4]
       refine tkL4 (i := 14) (oi := ⟨some 31, .load 3 (.tmp 30), 3, "parcel.go:24", #[⟨13, .data⟩, ⟨6, .guard⟩], some (6, true)⟩) rfl ?_
       try simp only [sxL4]
       refine tkL4 (i := 15) (oi := ⟨some 32, .binOp .leq 3 (.tmp 25) (.tmp 31) 3, 4, "parcel.go:24", #[⟨8, .data⟩, ⟨14, .data⟩, ⟨6, .guard⟩], some (6, true)⟩) rfl ?_
       try simp only [sxL4]
       refine tkL4 (i := 16) (oi := ⟨some 33, .pick (.tmp 23) (.tmp 32) (.const (.bool false)), 4, "parcel.go:24", #[⟨6, .data⟩, ⟨15, .data⟩, ⟨3, .guard⟩], some (3, false)⟩) rfl ?_
       try simp only [sxL4]
       refine tkL4 (i := 17) (oi := ⟨some 34, .pick (.tmp 20) (.const (.bool true)) (.tmp 33), 4, "parcel.go:24", #[⟨3, .data⟩, ⟨16, .data⟩], none⟩) rfl ?_
       try simp only [sxL4]
       refine wpAnyH_done (by kernel_rfl) ?_ _
       have HZB := Lib.hid (HBQ.out.trans ((Pr13.bel (g := g) (pb := pb) (b1 := b1) (i := o1 + k' * 4) (t := ⟨id, ow, ar, fr⟩) (p := ⟨PA, PC, PB, PD⟩) (v := .slice (some ⟨b1, o1, none⟩) n cap) (z := z) (w0 := wg) hHeld).mono HBQ.out.size))
       clear hHeld
       go_wp2_with fail
       go_roundw
       case rel => exact ⟨k' + 1 + 1, by omega, by go_num, HZB, HYES⟩
       case measure => simp [intOf]; omega
   ·obtain rfl : k = n := by omega
    have HT1 : Hid (∀ t ∈ L, lotB t = true) := Lib.hid (fun t ht => by
     obtain ⟨j, hj, rfl⟩ := List.getElem_of_mem ht
     exact HT.out.1 j hj (by rw [HNL.out]; exact hj))
    have HT2 : Hid (AscL L) := Lib.hid (ascL_of (fun j h => HT.out.2 j h (by rw [HNL.out]; exact h)))
    clear HT
    go_wp2_with fail
    go_loopw [38] (fun i wr => ∃ (k2 : Nat), k2 ≤ k ∧ i = .int .i64 k2 ∧ Hid (Below wq.heap.size wq wr) ∧ Hid (∀ j (h : j < L.length), j < k2 → ∀ x ∈ L[j].fr, isIn L x = false)) (fun i _ => k - (intOf i).toNat)
    case atStart => exact ⟨0, Nat.zero_le _, rfl, HB, Lib.hid (fun j h hj => absurd hj (Nat.not_lt_zero _))⟩
    case round =>
     clear HB hbs hx hpr HBW
     obtain ⟨k2, hk2, rfl, HB, HT⟩ := hrel
     have hbs := HB.out.size
     have hx := (HB.out.cell (p := ⟨pb, 0, none⟩) hpl).trans hx0
     have hpr : pb < wr.heap.size := Nat.lt_of_lt_of_le hpl hbs
     have HBW := Lib.hid (HB0.out.trans (HB.out.mono HB0.out.size))
     by_cases hlt : k2 < k
     ·have hkL : k2 < L.length := by rw [← HNL.out]; exact hlt
      obtain ⟨b1, o1, p, rfl, hb1, ⟨x0, x1, x2, x3⟩, hi⟩ := HL.out.at_ hkL
      have wc := fun o => HBW.out.cell (p := ⟨b1, o, none⟩) hb1
      have x0 := (wc _).trans x0; have x1 := (wc _).trans x1; have x2 := (wc _).trans x2; have x3 := (wc _).trans x3
      have n0 : (0 : Int) ≤ (k2 : Int) := by omega
      have n1 : (k2 : Int) < (k : Int) := by omega
      have HCF := Lib.hid (fun w' (hb : Below wr.heap.size wr w') => icf_any 51 eg_rc #[.pointer (some ⟨pb, 0, none⟩)] (isIn L) p.B p.d L[k2].fr w' ((hi.fr.below HBW.out).below hb) (fun j hj w3 hb3 => rightC_any (some ⟨b1, o1, none⟩) cap L L[k2].fr[j] pb w3 (((HL.out.below HBW.out).below hb).below hb3) HT2.out (by rw [← HNL.out]; exact (hb3.cell (p := ⟨pb, 0, none⟩) (Nat.lt_of_lt_of_le hpr hb.size)).trans ((hb.cell (p := ⟨pb, 0, none⟩) hpr).trans hx)) (Nat.lt_of_lt_of_le (Nat.lt_of_lt_of_le hpr hb.size) hb3.size)))
      have HNO := Lib.hid (fun (c : L[k2].fr.any (isIn L) = true) => landB_no (L := L) (fun h => by
       obtain ⟨x, hx, hy⟩ := List.any_eq_true.1 c
       rw [h.fr L[k2] (List.getElem_mem hkL) x hx] at hy; cases hy))
      have HYE := Lib.hid (fun (c : L[k2].fr.any (isIn L) = false) j (h : j < L.length) (hj : j < k2 + 1) => show ∀ x ∈ L[j].fr, isIn L x = false from by
       by_cases e : j < k2
       ·exact HT.out j h e
       ·obtain rfl : j = k2 := by omega
        intro x hx
        have := List.any_eq_false.1 c x hx
        simpa using this)
      clear HT hi wc
      generalize L[k2] = u at *
      obtain ⟨id, ow, ar, fr⟩ := u
      obtain ⟨PA, PC, PB, PD⟩ := p
      simp only at x0 x1 x2 x3 HCF HNO HYE
      cases ca : fr.any (isIn L) with
      | true =>
       have HN := Lib.hid (HNO.out ca)
       rw [ca] at HCF
       clear HNO HYE ca
       go_wp2_with fail
       refine (HCF.out _ (by (repeat' first | exact Below.refl _ _ | assumption | (apply below_drewN) | (refine Below.setCell ?_ (by (try simp); (try omega)) _) | (refine Below.alloc ?_ (by (try simp); (try omega)) _) | (refine Below.trans ?_ (Below.mono (Hid.out (by assumption)) (by (try simp); (try omega))))))).mono ?_
       rintro e w3 ⟨rfl, hb⟩
       have HF := Lib.hid (HBW.out.trans (((Below.refl wr.heap.size wr).alloc (Nat.le_refl _) (.cells #[.int .i64 id, .int .i64 ow, .slice PA ar.length PC, .slice PB fr.length PD] 40)).trans (hb.mono (by simp)) |>.mono HBW.out.size))
       clear hb
       go_wp2_with fail
       go_ret
       exact ⟨by rw [HN.out]; rfl, HF.out.trans (by (repeat' first | exact Below.refl _ _ | assumption | (apply below_drewN) | (refine Below.setCell ?_ (by (try simp); (try omega)) _) | (refine Below.alloc ?_ (by (try simp); (try omega)) _) | (refine Below.trans ?_ (Below.mono (Hid.out (by assumption)) (by (try simp); (try omega))))))⟩
      | false =>
       have HN := Lib.hid (HYE.out ca)
       rw [ca] at HCF
       clear HNO HYE ca
       go_wp2_with fail
       refine (HCF.out _ (by (repeat' first | exact Below.refl _ _ | assumption | (apply below_drewN) | (refine Below.setCell ?_ (by (try simp); (try omega)) _) | (refine Below.alloc ?_ (by (try simp); (try omega)) _) | (refine Below.trans ?_ (Below.mono (Hid.out (by assumption)) (by (try simp); (try omega))))))).mono ?_
       rintro e w3 ⟨rfl, hb⟩
       have HF := Lib.hid (HB.out.trans (((Below.refl wr.heap.size wr).alloc (Nat.le_refl _) (.cells #[.int .i64 id, .int .i64 ow, .slice PA ar.length PC, .slice PB fr.length PD] 40)).trans (hb.mono (by simp)) |>.mono hbs))
       clear hb
       go_wp2_with fail
       go_roundw
       case rel => exact ⟨k2 + 1, by omega, by go_num, HF, HN.out⟩
       case measure => simp [intOf]; omega
     ·obtain rfl : k2 = k := by omega
      have HFR : Hid (∀ t ∈ L, ∀ x ∈ t.fr, isIn L x = false) := Lib.hid (fun t ht x hx => by
       obtain ⟨j, hj, rfl⟩ := List.getElem_of_mem ht
       exact HT.out j hj (by rw [HNL.out]; exact hj) x hx)
      have hone : ∀ t ∈ L, RegP t.ar ∧ t.ar ≠ [] ∧ t.ar.length ≤ 200 := fun t ht => lotB_one (HT1.out t ht)
      have HCE := Lib.hid (show Calls Tryz.prog 54 #[.slice A k2 cap] wr (RsIs (cellsR L) wr) from by rw [HNL.out]; exact cells_any A cap L wr (HL.out.below HBW.out) (fun t ht => (hone t ht).2) (by rw [← HNL.out]; omega))
      have hcl := cellsR_len (L := L) (fun t ht => (hone t ht).2.2)
      have hcl2 : (cellsR L).length ≤ 4000000 := by rw [← HNL.out] at hcl; omega
      have HOK : Hid (∀ r ∈ cellsR L, ROk r) := Lib.hid (fun r hr => by
       obtain ⟨t, ht, hr⟩ := List.mem_flatMap.1 hr
       exact form_ok (hone t ht).1.1 r hr)
      have HRES : Hid (landB L = apB (cellsR L)) := Lib.hid (by
       unfold landB apB
       rw [Bool.eq_iff_iff, @decide_eq_true_iff _ (Classical.propDecidable _), @decide_eq_true_iff _ (Classical.propDecidable _)]
       exact ⟨fun h => h.ap, fun h => ⟨by rw [← HNL.out]; exact s2, HT1.out, HT2.out, HFR.out, h⟩⟩)
      clear HT hone hcl
      go_wp2_with fail
      refine HCE.out.mono ?_
      rintro e w3 ⟨A3, c3, rfl, hr3, hb3⟩
      have HAP := Lib.hid (apart_any A3 c3 (cellsR L) w3 hr3.row (by omega) HOK.out)
      have HB3 := Lib.hid (HBW.out.trans (hb3.mono HBW.out.size))
      clear hr3 hb3 HCE
      generalize (cellsR L).length = nc at *
      go_wp2_with fail
      refine HAP.out.mono ?_
      rintro e w4 ⟨rfl, hb4⟩
      have HB4 := Lib.hid (HB3.out.trans (hb4.mono HB3.out.size))
      clear hb4
      go_wp2_with fail
      go_ret
      exact ⟨by rw [HRES.out]; rfl, HB4.out.trans (by (repeat' first | exact Below.refl _ _ | assumption | (apply below_drewN) | (refine Below.setCell ?_ (by (try simp); (try omega)) _) | (refine Below.alloc ?_ (by (try simp); (try omega)) _) | (refine Below.trans ?_ (Below.mono (Hid.out (by assumption)) (by (try simp); (try omega))))))⟩
end Go.Proofs.YtngddecpfhlilaaGreat
