/-
  SightTells: the walk of the law.
-/
import Derived.Test.YtkjblmfmaenllaaYo
import Derived.Test.YtkjblmfmaenllaaYn
set_option linter.unusedVariables false
set_option maxRecDepth 100000
namespace Go.Proofs.Ytkjblmfmaenllaa
open Go.RowKit

/-- what the last region reads: three points. -/
def Tp11 (g gq gd : Nat) (p q d : V3) (w0 w : World) : Prop := w.cell? ⟨g, 0, none⟩ = some (.int .i64 p.x) ∧ w.cell? ⟨g, 1, none⟩ = some (.int .i64 p.y) ∧ w.cell? ⟨g, 2, none⟩ = some (.int .i64 p.z) ∧ w.cell? ⟨gq, 0, none⟩ = some (.int .i64 q.x) ∧ w.cell? ⟨gq, 1, none⟩ = some (.int .i64 q.y) ∧ w.cell? ⟨gq, 2, none⟩ = some (.int .i64 q.z) ∧ w.cell? ⟨gd, 0, none⟩ = some (.int .i64 d.x) ∧ w.cell? ⟨gd, 1, none⟩ = some (.int .i64 d.y) ∧ w.cell? ⟨gd, 2, none⟩ = some (.int .i64 d.z) ∧ g < w.heap.size ∧ gq < w.heap.size ∧ gd < w.heap.size ∧ Hid (Below w0.heap.size w0 w)
theorem Tp11.bel {g gq gd : Nat} {p q d : V3} {w0 w : World} (h : Tp11 g gq gd p q d w0 w) : Below w0.heap.size w0 w := h.2.2.2.2.2.2.2.2.2.2.2.2.out
theorem Tp11.go {g gq gd : Nat} {p q d : V3} {w0 w w' : World} (h : Tp11 g gq gd p q d w0 w) (hb : Below w.heap.size w w') : Tp11 g gq gd p q d w0 w' := by
  obtain ⟨a0, a1, a2, b0, b1, b2, c0, c1, c2, l0, l1, l2, h8⟩ := h
  have x := fun k => hb.cell (p := ⟨g, k, none⟩) l0
  have y := fun k => hb.cell (p := ⟨gq, k, none⟩) l1
  have z := fun k => hb.cell (p := ⟨gd, k, none⟩) l2
  exact ⟨(x _).trans a0, (x _).trans a1, (x _).trans a2, (y _).trans b0, (y _).trans b1, (y _).trans b2, (z _).trans c0, (z _).trans c1, (z _).trans c2, Nat.lt_of_lt_of_le l0 hb.size, Nat.lt_of_lt_of_le l1 hb.size, Nat.lt_of_lt_of_le l2 hb.size, Lib.hid (h8.out.trans (hb.mono h8.out.size))⟩
theorem Tp11.drewN {g gq gd : Nat} {p q d : V3} {w0 w : World} (h : Tp11 g gq gd p q d w0 w) (k : Nat) : Tp11 g gq gd p q d w0 (w.drewN k) := h.go (below_drewN (Below.refl _ _) k)
theorem Tp11.new (w : World) (p q d : V3) : Tp11 w.heap.size (w.heap.size + 1) (w.heap.size + 1 + 1) p q d w (((w.alloc (.cells #[.int .i64 p.x, .int .i64 p.y, .int .i64 p.z] 24)).alloc (.cells #[.int .i64 q.x, .int .i64 q.y, .int .i64 q.z] 24)).alloc (.cells #[.int .i64 d.x, .int .i64 d.y, .int .i64 d.z] 24)) := by
  obtain ⟨h0, h1, h2⟩ := heap3 w (.cells #[.int .i64 p.x, .int .i64 p.y, .int .i64 p.z] 24) (.cells #[.int .i64 q.x, .int .i64 q.y, .int .i64 q.z] 24) (.cells #[.int .i64 d.x, .int .i64 d.y, .int .i64 d.z] 24)
  exact ⟨by rw [Lib.cell_of_heap h0]; rfl, by rw [Lib.cell_of_heap h0]; rfl, by rw [Lib.cell_of_heap h0]; rfl, by rw [Lib.cell_of_heap h1]; rfl, by rw [Lib.cell_of_heap h1]; rfl, by rw [Lib.cell_of_heap h1]; rfl, by rw [Lib.cell_of_heap h2]; rfl, by rw [Lib.cell_of_heap h2]; rfl, by rw [Lib.cell_of_heap h2]; rfl, (Array.getElem?_eq_some_iff.1 h0).1, (Array.getElem?_eq_some_iff.1 h1).1, (Array.getElem?_eq_some_iff.1 h2).1, Lib.hid ((((Below.refl _ _).alloc (Nat.le_refl _) _).alloc (by simp) _).alloc (by simp; omega) _)⟩
set_option maxHeartbeats 40000000 in
theorem tells11_walk (A : Option Addr) (cap : Nat) (S : List Sl) (p q d : V3) (w : World) (hl : SlRow0 w A S) (hc : S.length ≤ cap) (hs : cap ≤ 9223372036854775807) : Calls Try.prog 3 #[.slice A S.length cap, .agg #[.int .i64 p.x, .int .i64 p.y, .int .i64 p.z], .agg #[.int .i64 q.x, .int .i64 q.y, .int .i64 q.z], .agg #[.int .i64 d.x, .int .i64 d.y, .int .i64 d.z]] w (BlIs true w) := by
  have HSM := Lib.hid (fun w' => jsmall_any w')
  have HFW := Lib.hid (fun w' (hb : Below w.heap.size w w') => jfew_any A cap S w' (slrow0_below hl hb) (Nat.le_trans hc hs))
  have E0 := Lib.hid (Tp11.new w p q d)
  by_cases hf : Few11 S
  · rw [few11_yes hf] at HFW
    have HSI := Lib.hid (few11_in hl hc hs hf)
    have H1 : Hid (∀ w', Below w.heap.size w w' → Calls Try.prog 11 #[.slice A S.length cap, .agg #[.int .i64 p.x, .int .i64 p.y, .int .i64 p.z], .agg #[.int .i64 q.x, .int .i64 q.y, .int .i64 q.z]] w' (BlIs (bkB S p q) w')) := Lib.hid (fun w' hb => sblocked_any A cap S p q w' (HSI.out.below hb))
    have H2 : Hid (∀ w', Below w.heap.size w w' → Calls Try.prog 12 #[.slice A S.length cap, .agg #[.int .i64 p.x, .int .i64 p.y, .int .i64 p.z], .agg #[.int .i64 q.x, .int .i64 q.y, .int .i64 q.z]] w' (BlIs (bkB S p q) w')) := Lib.hid (fun w' hb => eblocked_any A cap S p q w' (HSI.out.below hb))
    have H3 : Hid (∀ w', Below w.heap.size w w' → Calls Try.prog 13 #[.slice A S.length cap, .agg #[.int .i64 p.x, .int .i64 p.y, .int .i64 p.z], .agg #[.int .i64 d.x, .int .i64 d.y, .int .i64 d.z]] w' (BlIs (ryB S p d) w')) := Lib.hid (fun w' hb => sray_any A cap S p d w' (HSI.out.below hb))
    have H4 : Hid (∀ w', Below w.heap.size w w' → Calls Try.prog 14 #[.slice A S.length cap, .agg #[.int .i64 p.x, .int .i64 p.y, .int .i64 p.z], .agg #[.int .i64 d.x, .int .i64 d.y, .int .i64 d.z]] w' (BlIs (ryB S p d) w')) := Lib.hid (fun w' hb => eray_any A cap S p d w' (HSI.out.below hb))
    clear hl hc hs hf HSI
    generalize bkB S p q = bb at *
    generalize ryB S p d = rr at *
    go_enter Try.func3, Try.ntmps3
    go_upto_region 1 with fail
    generalize World.alloc (World.alloc (World.alloc w _) _) _ = W at *
    generalize w.heap.size + 1 + 1 = gd at *
    generalize w.heap.size + 1 = gq at *
    obtain ⟨g, hg⟩ : ∃ g, g = w.heap.size := ⟨_, rfl⟩
    have E0' : Hid (Tp11 g gq gd p q d w W) := by rw [hg]; exact E0
    clear E0
    simp only [← hg]
    clear hg
    go_wp2_with fail
    refine (HSM.out _).mono ?_
    rintro e w1 ⟨rfl, hb⟩
    have E1 := Lib.hid (E0'.out.go hb)
    clear hb E0' HSM
    go_wp2_with fail
    refine (HFW.out _ E1.out.bel).mono ?_
    rintro e w2 ⟨rfl, hb⟩
    have E2 := Lib.hid (E1.out.go hb)
    clear hb E1 HFW
    go_upto_region 4 with fail
    have G1 : Hid (∀ w', Tp11 g gq gd p q d w w' → Calls Try.prog 11 #[.slice A S.length cap, .agg #[.int .i64 p.x, .int .i64 p.y, .int .i64 p.z], .agg #[.int .i64 q.x, .int .i64 q.y, .int .i64 q.z]] w' (BlIs bb w')) := Lib.hid (fun w' hh => H1.out w' hh.bel)
    have G2 : Hid (∀ w', Tp11 g gq gd p q d w w' → Calls Try.prog 12 #[.slice A S.length cap, .agg #[.int .i64 p.x, .int .i64 p.y, .int .i64 p.z], .agg #[.int .i64 q.x, .int .i64 q.y, .int .i64 q.z]] w' (BlIs bb w')) := Lib.hid (fun w' hh => H2.out w' hh.bel)
    have G3 : Hid (∀ w', Tp11 g gq gd p q d w w' → Calls Try.prog 13 #[.slice A S.length cap, .agg #[.int .i64 p.x, .int .i64 p.y, .int .i64 p.z], .agg #[.int .i64 d.x, .int .i64 d.y, .int .i64 d.z]] w' (BlIs rr w')) := Lib.hid (fun w' hh => H3.out w' hh.bel)
    have G4 : Hid (∀ w', Tp11 g gq gd p q d w w' → Calls Try.prog 14 #[.slice A S.length cap, .agg #[.int .i64 p.x, .int .i64 p.y, .int .i64 p.z], .agg #[.int .i64 d.x, .int .i64 d.y, .int .i64 d.z]] w' (BlIs rr w')) := Lib.hid (fun w' hh => H4.out w' hh.bel)
    clear H1 H2 H3 H4
    obtain ⟨x0, x1, x2, y0, y1, y2, z0, z1, z2, l0, l1, l2, _⟩ := E2.out
    have eb : (bb == bb) = true := by simp
    have er : (rr == rr) = true := by simp
    go_region_held3 (fun w' => w'.cell? ⟨g, 0, none⟩ = some (.int .i64 p.x) ∧ w'.cell? ⟨g, 1, none⟩ = some (.int .i64 p.y) ∧ w'.cell? ⟨g, 2, none⟩ = some (.int .i64 p.z) ∧ w'.cell? ⟨gq, 0, none⟩ = some (.int .i64 q.x) ∧ w'.cell? ⟨gq, 1, none⟩ = some (.int .i64 q.y) ∧ w'.cell? ⟨gq, 2, none⟩ = some (.int .i64 q.z) ∧ w'.cell? ⟨gd, 0, none⟩ = some (.int .i64 d.x) ∧ w'.cell? ⟨gd, 1, none⟩ = some (.int .i64 d.y) ∧ w'.cell? ⟨gd, 2, none⟩ = some (.int .i64 d.z) ∧ g < w'.heap.size ∧ gq < w'.heap.size ∧ gd < w'.heap.size ∧ Hid (Below w.heap.size w w'))
      (first | exact E2.out | exact Tp11.drewN E2.out 1 | exact Tp11.go ‹_› ‹_› | assumption)
      (first
        | (go_at_call 11; refine (G1.out _ ?_).mono ?_; (first | assumption | exact Tp11.drewN E2.out 1); rintro e w30 ⟨rfl, hb⟩)
        | (go_at_call 12; refine (G2.out _ ?_).mono ?_; (first | assumption | exact Tp11.drewN E2.out 1); rintro e w31 ⟨rfl, hb⟩)
        | (go_at_call 13; refine (G3.out _ ?_).mono ?_; (first | assumption | exact Tp11.drewN E2.out 1); rintro e w32 ⟨rfl, hb⟩)
        | (go_at_call 14; refine (G4.out _ ?_).mono ?_; (first | assumption | exact Tp11.drewN E2.out 1); rintro e w33 ⟨rfl, hb⟩)
        | fail)
    go_wp2_with fail
    go_ret
    exact ⟨rfl, Tp11.bel (g := g) (gq := gq) (gd := gd) (p := p) (q := q) (d := d) (by assumption)⟩
  · rw [few11_no hf] at HFW
    clear hl hc hs hf
    go_enter Try.func3, Try.ntmps3
    go_upto_region 1 with fail
    generalize World.alloc (World.alloc (World.alloc w _) _) _ = W at *
    generalize w.heap.size + 1 + 1 = gd at *
    generalize w.heap.size + 1 = gq at *
    have HB0 := Lib.hid E0.out.bel; clear E0
    go_wp2_with fail
    refine (HSM.out _).mono ?_
    rintro e w1 ⟨rfl, hb⟩
    have HB1 := Lib.hid (HB0.out.trans (hb.mono HB0.out.size))
    clear hb HSM HB0
    go_wp2_with fail
    refine (HFW.out _ HB1.out).mono ?_
    rintro e w2 ⟨rfl, hb⟩
    have HB2 := Lib.hid (HB1.out.trans (hb.mono HB1.out.size))
    clear hb HB1 HFW
    go_wp2_with fail
    go_ret
    exact ⟨rfl, HB2.out⟩
end Go.Proofs.Ytkjblmfmaenllaa
