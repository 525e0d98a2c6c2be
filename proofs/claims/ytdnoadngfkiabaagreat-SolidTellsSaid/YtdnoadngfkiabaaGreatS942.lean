/-
  The laws' examples (small) of layer 9.
-/
import Derived.Test.YtdnoadngfkiabaaGreatS918
import Derived.Test.YtdnoadngfkiabaaGreatS937
set_option linter.unusedVariables false
set_option maxRecDepth 100000
namespace Go.Proofs.YtdnoadngfkiabaaGreat
open Go.RowKit

instance : DecidableEq Sl := fun a b => decidable_of_iff (a.z0 = b.z0 ∧ a.z1 = b.z1 ∧ a.ar = b.ar) ⟨fun h => Sl.eq h.1 h.2.1 h.2.2, fun h => by subst h; exact ⟨rfl, rfl, rfl⟩⟩
/-- what the walk keeps: lists of rectangles and of slabs at slices, and that nothing that was there has turned. -/
def SK9 (R : List (Option Addr × Nat × List Rc)) (M : List (Option Addr × Nat × List Sl)) (w0 w : World) : Prop := (∀ p ∈ R, RIn w p.1 p.2.1 p.2.2) ∧ (∀ p ∈ M, SIn w p.1 p.2.1 p.2.2) ∧ Below w0.heap.size w0 w
theorem SK9.go {R : List (Option Addr × Nat × List Rc)} {M : List (Option Addr × Nat × List Sl)} {w0 w w' : World} (h : SK9 R M w0 w) (hb : Below w.heap.size w w') : SK9 R M w0 w' := ⟨fun p hp => (h.1 p hp).below hb, fun p hp => (h.2.1 p hp).below hb, h.2.2.trans (hb.mono h.2.2.size)⟩
theorem SK9.addR {R : List (Option Addr × Nat × List Rc)} {M : List (Option Addr × Nat × List Sl)} {w0 w w' : World} (h : SK9 R M w0 w) (hb : Below w.heap.size w w') {A : Option Addr} {c : Nat} {l : List Rc} (hr : RIn w' A c l) : SK9 ((A, c, l) :: R) M w0 w' := by
  have h2 := h.go hb
  refine ⟨fun p hp => ?_, h2.2⟩
  rcases List.mem_cons.1 hp with rfl | hp
  · exact hr
  · exact h2.1 p hp
theorem SK9.addM {R : List (Option Addr × Nat × List Rc)} {M : List (Option Addr × Nat × List Sl)} {w0 w w' : World} (h : SK9 R M w0 w) (hb : Below w.heap.size w w') {A : Option Addr} {c : Nat} {l : List Sl} (hr : SIn w' A c l) : SK9 R ((A, c, l) :: M) w0 w' := by
  have h2 := h.go hb
  refine ⟨h2.1, fun p hp => ?_, h2.2.2⟩
  rcases List.mem_cons.1 hp with rfl | hp
  · exact hr
  · exact h2.2.1 p hp
theorem SK9.start (w : World) : SK9 [] [] w w := ⟨fun p hp => (by cases hp), fun p hp => (by cases hp), Below.refl _ _⟩
theorem lit_boxes (w : World) (l : List Bx) (o : Array Value) (ho : o = (bxcells l).toArray) (k : Nat) (hk : k = w.heap.size) : BxRow (w.alloc (.cells o 35)) (some ⟨k, 0, none⟩) l := fun _ => by
  subst ho; subst hk
  have h0 := heap_alloc_new w (.cells (bxcells l).toArray 35)
  refine ⟨_, 0, rfl, (Array.getElem?_eq_some_iff.1 h0).1, fun j hj => ?_⟩
  obtain ⟨e0, e1, e2, e3, e4, e5⟩ := bxcells_at l j hj
  rw [Nat.zero_add]
  have c := fun i v (hv : (bxcells l)[i]? = some v) => show (w.alloc (.cells (bxcells l).toArray 35)).cell? ⟨w.heap.size, i, none⟩ = some v by
    rw [Lib.cell_of_heap h0]; simpa using hv
  exact ⟨c _ _ e0, c _ _ e1, c _ _ e2, c _ _ e3, c _ _ e4, c _ _ e5⟩
theorem lit_slabs (w : World) (L : List SlV) (hL : ∀ t ∈ L, RIn w t.A t.c t.s.ar) (o : Array Value) (ho : o = (svcells L).toArray) (k : Nat) (hk : k = w.heap.size) (hl : L.length ≤ 1000) : SIn (w.alloc (.cells o 40)) (some ⟨k, 0, none⟩) L.length (svS L) := by
  subst ho; subst hk
  have h0 := heap_alloc_new w (.cells (svcells L).toArray 40)
  refine ⟨fun _ => ⟨_, 0, rfl, (Array.getElem?_eq_some_iff.1 h0).1, fun j hj => ?_⟩, by rw [svS_len]; omega, by rw [svS_len]; omega, by omega⟩
  rw [svS_len] at hj
  obtain ⟨e0, e1, e2⟩ := svcells_at L j hj
  have e : (svS L)[j]'(by rw [svS_len]; exact hj) = L[j].s := by simp [svS]
  rw [Nat.zero_add, e]
  have c := fun i v (hv : (svcells L)[i]? = some v) => show (w.alloc (.cells (svcells L).toArray 40)).cell? ⟨w.heap.size, i, none⟩ = some v by
    rw [Lib.cell_of_heap h0]; simpa using hv
  exact ⟨c _ _ e0, c _ _ e1, _, _, c _ _ e2, (hL _ (List.getElem_mem hj)).below ((Below.refl _ _).alloc (Nat.le_refl _) _)⟩
/-! ### the examples -/
def BU : List Bx := [⟨⟨0, 0, 2, 2⟩, 0, 3⟩, ⟨⟨0, 0, 1, 2⟩, 2, 5⟩]
def BV : List Bx := [⟨⟨0, 0, 2, 1⟩, 1, 5⟩]
def BE : List Bx := [⟨⟨0, 0, 2, 1⟩, 1, 1⟩]
def SU : List Sl := [⟨0, 3, [⟨0, 0, 2, 2⟩]⟩, ⟨3, 5, [⟨0, 0, 1, 2⟩]⟩]
def SV9 : List Sl := [⟨1, 5, [⟨0, 0, 2, 1⟩]⟩]
def SL9 : List Sl := [⟨0, 1, [⟨0, 0, 2, 2⟩]⟩, ⟨1, 3, [⟨0, 1, 2, 2⟩]⟩, ⟨3, 5, [⟨0, 1, 1, 2⟩]⟩]
def SE9 : List Sl := [⟨0, 1, []⟩]
theorem ex_u : ofS BU = (SU, 0) := by decide +kernel
theorem ex_v : ofS BV = (SV9, 0) := by decide +kernel
theorem ex_e : ofS BE = ([], 1) := by decide +kernel
theorem sol_of {l : List Bx} {F : List Sl} (h : ofS l = (F, 0)) : SolP F ∧ F = solB l ∧ (∀ b ∈ l, BOk b) ∧ l.length ≤ 200 := by
  unfold ofS at h
  by_cases c : ∀ b ∈ l, BOk b
  · rw [if_pos c] at h
    by_cases d : l.length ≤ 200
    · rw [if_pos d] at h
      unfold capS at h
      by_cases q : (solB l).length ≤ 80 ∧ ∀ s ∈ solB l, s.ar.length ≤ 200
      · rw [if_pos q] at h
        injection h with h _
        subst h
        exact ⟨⟨(solB_is c).1, q.1, q.2⟩, rfl, c, d⟩
      · rw [if_neg q] at h
        injection h with _ h
        cases h
    · rw [if_neg d] at h
      injection h with _ h
      cases h
  · rw [if_neg c] at h
    injection h with _ h
    cases h
theorem sol_u : SolP SU := (sol_of ex_u).1
theorem sol_v : SolP SV9 := (sol_of ex_v).1
theorem ex_less : capS (solO andnot SU SV9) = (SL9, 0) := by decide +kernel
theorem ex_m : opS andnot SU SV9 = (SL9, 0) := by rw [opS_cap sol_u sol_v]; exact ex_less
theorem sol_nil : SolP [] := ⟨trivial, by simp, fun s hs => by cases hs⟩
theorem sol_e9 : ¬ SolP SE9 := fun h => (h.form.each _ List.mem_cons_self).ne rfl
/-- a solid of n slabs and an error. -/
def RS9 (S : List Sl) (n : Nat) (er : Int) (w : World) (e : Ending) (w' : World) : Prop := ∃ A c, e = .returned (.tuple #[.slice A n c, .int .i64 er]) ∧ SIn w' A c S ∧ Below w.heap.size w w'
def Len9 (n : Nat) (w : World) (e : Ending) (w' : World) : Prop := ∃ A c, e = .returned (.slice A n c) ∧ Below w.heap.size w w'
def Sq9 (r : Rc) (w : World) (e : Ending) (w' : World) : Prop := ∃ A c, e = .returned (.slice A 1 c) ∧ RIn w' A c [r] ∧ Below w.heap.size w w'
set_option maxHeartbeats 4000000 in
theorem csquare_any (a b c d : Int) (w : World) : Calls Tryz.prog 12 #[.int .i64 a, .int .i64 b, .int .i64 c, .int .i64 d] w (Sq9 ⟨a, b, c, d⟩ w) := by
  have HR := Lib.hid (RB.row (RB.new w [⟨a, b, c, d⟩] #[.int .i64 a, .int .i64 b, .int .i64 c, .int .i64 d] rfl) (by simp))
  go_enter Tryz.func12, Tryz.ntmps12
  go_wp2_with fail
  go_ret
  exact ⟨_, _, rfl, HR.out, by (repeat' first | exact Below.refl _ _ | assumption | (apply below_drewN) | (refine Below.setCell ?_ (by (try simp); (try omega)) _) | (refine Below.alloc ?_ (by (try simp); (try omega)) _) | (refine Below.trans ?_ (Below.mono (Hid.out (by assumption)) (by (try simp); (try omega)))))⟩
theorem same_true {S T : List Sl} (h : S = T) {w : World} {e : Ending} {w' : World} (k : SameIs S T w e w') : BlIs true w e w' := by
  obtain ⟨b, hb, k⟩ := k
  obtain rfl := hb.2 h
  exact k
set_option maxHeartbeats 16000000 in
theorem csmall_any (w : World) : Calls Tryz.prog 5 #[] w (BlIs true w) := by
  have HO1 := Lib.hid (fun (w' : World) (A : Option Addr) (c : Nat) (h : BxRow w' A BU) => show Calls Tryz.prog 8 #[.slice A 2 c] w' (RS9 SU 2 0 w') from by
    have := bof_any A c BU w' h (by decide)
    rw [ex_u] at this; exact this)
  have HO2 := Lib.hid (fun (w' : World) (A : Option Addr) (c : Nat) (h : BxRow w' A BV) => show Calls Tryz.prog 8 #[.slice A 1 c] w' (RS9 SV9 1 0 w') from by
    have := bof_any A c BV w' h (by decide)
    rw [ex_v] at this; exact this)
  have HO3 := Lib.hid (fun (w' : World) (A : Option Addr) (c : Nat) (h : BxRow w' A BE) => show Calls Tryz.prog 8 #[.slice A 1 c] w' (RS9 [] 0 1 w') from by
    have := bof_any A c BE w' h (by decide)
    rw [ex_e] at this; exact this)
  have HMI := Lib.hid (fun (w' : World) (A : Option Addr) (c : Nat) (A2 : Option Addr) (c2 : Nat) (h : SIn w' A c SU) (h2 : SIn w' A2 c2 SV9) => show Calls Tryz.prog 11 #[.slice A 2 c, .slice A2 1 c2] w' (RS9 SL9 3 0 w') from by
    have := bminus_any A c A2 c2 SU SV9 w' h h2
    rw [ex_m] at this; exact this)
  have HSQ := Lib.hid (fun (a b c d : Int) (w' : World) => csquare_any a b c d w')
  have HS1 := Lib.hid (fun (w' : World) (A : Option Addr) (c : Nat) (A2 : Option Addr) (c2 : Nat) (h : SIn w' A c SU) (h2 : SIn w' A2 c2 SU) => show Calls Tryz.prog 10 #[.slice A 2 c, .slice A2 2 c2] w' (BlIs true w') from (dsame_any A c A2 c2 SU SU w' h h2).mono fun e w2 k => same_true rfl k)
  have HS2 := Lib.hid (fun (w' : World) (A : Option Addr) (c : Nat) (A2 : Option Addr) (c2 : Nat) (h : SIn w' A c SL9) (h2 : SIn w' A2 c2 SL9) => show Calls Tryz.prog 10 #[.slice A 3 c, .slice A2 3 c2] w' (BlIs true w') from (dsame_any A c A2 c2 SL9 SL9 w' h h2).mono fun e w2 k => same_true rfl k)
  have HS3 := Lib.hid (fun (w' : World) (A : Option Addr) (c : Nat) (A2 : Option Addr) (c2 : Nat) (h : SIn w' A c SL9) (h2 : SIn w' A2 c2 SL9) => show Calls Tryz.prog 13 #[.slice A 3 c, .slice A2 3 c2] w' (BlIs true w') from (bsame_any A c A2 c2 SL9 SL9 w' h h2).mono fun e w2 k => same_true rfl k)
  have HVO := Lib.hid (fun (w' : World) (A : Option Addr) (c : Nat) (h : SIn w' A c SU) => show Calls Tryz.prog 14 #[.slice A 2 c] w' (InIs 16 w') from by
    have := bvolume_yes h sol_u
    rw [show volS SU = 16 by decide +kernel] at this; exact this)
  have HT1 := Lib.hid (fun (w' : World) (A : Option Addr) (c : Nat) (h : SIn w' A c SU) => show Calls Tryz.prog 15 #[.slice A 2 c, .int .i64 0, .int .i64 1] w' (InIs 5 w') from by
    have := btop_yes h sol_u 0 1
    rw [show topS SU 0 1 = 5 by decide +kernel] at this; exact this)
  have HT2 := Lib.hid (fun (w' : World) (A : Option Addr) (c : Nat) (h : SIn w' A c SU) => show Calls Tryz.prog 15 #[.slice A 2 c, .int .i64 1, .int .i64 1] w' (InIs 3 w') from by
    have := btop_yes h sol_u 1 1
    rw [show topS SU 1 1 = 3 by decide +kernel] at this; exact this)
  have HT3 := Lib.hid (fun (w' : World) (A : Option Addr) (c : Nat) (h : SIn w' A c SU) => show Calls Tryz.prog 15 #[.slice A 2 c, .int .i64 2, .int .i64 0] w' (InIs 0 w') from by
    have := btop_yes h sol_u 2 0
    rw [show topS SU 2 0 = 0 by decide +kernel] at this; exact this)
  have HC1 := Lib.hid (fun (w' : World) (A : Option Addr) (c : Nat) (h : SIn w' A c SU) => show Calls Tryz.prog 16 #[.slice A 2 c, .int .i64 2] w' (Len9 1 w') from (bsection_yes h sol_u 2).mono fun e w2 hk => by
    rw [show secS SU 2 = [⟨0, 0, 2, 2⟩] by decide +kernel] at hk
    obtain ⟨v, rfl, ho, hb⟩ := hk
    obtain ⟨A', c', rfl, _⟩ := own_rects ho
    exact ⟨A', c', rfl, hb⟩)
  have HC2 := Lib.hid (fun (w' : World) (A : Option Addr) (c : Nat) (h : SIn w' A c SU) => show Calls Tryz.prog 16 #[.slice A 2 c, .int .i64 5] w' (Len9 0 w') from (bsection_yes h sol_u 5).mono fun e w2 hk => by
    rw [show secS SU 5 = [] by decide +kernel] at hk
    obtain ⟨v, rfl, ho, hb⟩ := hk
    obtain ⟨A', c', rfl, _⟩ := own_rects ho
    exact ⟨A', c', rfl, hb⟩)
  have HBX := Lib.hid (fun (w' : World) (A : Option Addr) (c : Nat) (h : SIn w' A c SU) => show Calls Tryz.prog 17 #[.slice A 2 c] w' (Len9 2 w') from (bboxes_yes h sol_u).mono fun e w2 hk => by
    obtain ⟨v, rfl, ho, hb⟩ := hk
    obtain ⟨A', c', rfl, _⟩ := own_boxes ho
    exact ⟨A', c', rfl, hb⟩)
  have HH1 := Lib.hid (fun (w' : World) (A : Option Addr) (c : Nat) (h : SIn w' A c SU) => show Calls Tryz.prog 18 #[.slice A 2 c, .int .i64 0, .int .i64 0, .int .i64 4] w' (BlIs true w') from by
    have := bhas_any A c SU 0 0 4 w' h
    rw [hasGS_yes sol_u, hasB_D, show hasD (secS SU 4) 0 0 = true by decide +kernel] at this; exact this)
  have HH2 := Lib.hid (fun (w' : World) (A : Option Addr) (c : Nat) (h : SIn w' A c SU) => show Calls Tryz.prog 18 #[.slice A 2 c, .int .i64 1, .int .i64 0, .int .i64 4] w' (BlIs false w') from by
    have := bhas_any A c SU 1 0 4 w' h
    rw [hasGS_yes sol_u, hasB_D, show hasD (secS SU 4) 1 0 = false by decide +kernel] at this; exact this)
  have HR0 := Lib.hid (fun (w' : World) => show Calls Tryz.prog 19 #[.slice none 0 0] w' (BlIs true w') from bright_yes (A := none) (cap := 0) (S := []) (SIn.nil w') sol_nil)
  have HR5 := Lib.hid (fun (w' : World) (A : Option Addr) (c : Nat) (h : SIn w' A c SE9) => show Calls Tryz.prog 19 #[.slice A 1 c] w' (BlIs false w') from bright_no (A := A) (cap := c) (S := SE9) h sol_e9)
  have K0 := Lib.hid (SK9.start w)
  go_enter Tryz.func5, Tryz.ntmps5
  go_wp2_with fail
  refine (HO1.out _ _ _ (lit_boxes _ BU _ rfl _ (by simp))).mono ?_
  rintro e1 w1 ⟨A1, c1, rfl, hr1, hb1⟩
  have K1 := Lib.hid ((K0.out.go ((Below.refl _ _).alloc (Nat.le_refl _) _)).addM hb1 hr1)
  clear hr1 hb1 K0
  go_wp2_with fail
  refine (HO2.out _ _ _ (lit_boxes _ BV _ rfl _ (by simp))).mono ?_
  rintro e2 w2 ⟨A2, c2, rfl, hr2, hb2⟩
  have K2 := Lib.hid ((K1.out.go ((Below.refl _ _).alloc (Nat.le_refl _) _)).addM hb2 hr2)
  clear hr2 hb2 K1
  go_wp2_with fail
  refine (HMI.out _ _ _ _ _ (K2.out.2.1 _ (List.mem_cons_of_mem _ List.mem_cons_self)) (K2.out.2.1 _ List.mem_cons_self)).mono ?_
  rintro e3 w3 ⟨A3, c3, rfl, hr3, hb3⟩
  have K3 := Lib.hid (K2.out.addM hb3 hr3)
  clear hr3 hb3 K2
  go_wp2_with fail
  refine (HSQ.out 0 0 2 2 _).mono ?_
  rintro e4 w4 ⟨A4, c4, rfl, hr4, hb4⟩
  have K4 := Lib.hid (K3.out.addR hb4 hr4)
  clear hr4 hb4 K3
  go_wp2_with fail
  refine (HSQ.out 0 0 1 2 _).mono ?_
  rintro e5 w5 ⟨A5, c5, rfl, hr5, hb5⟩
  have K5 := Lib.hid (K4.out.addR hb5 hr5)
  clear hr5 hb5 K4
  go_wp2_with fail
  have K6 := Lib.hid (K5.out.addM ((Below.refl _ _).alloc (Nat.le_refl _) _) (show SIn _ _ 2 SU from lit_slabs w5 [⟨⟨0, 3, [⟨0, 0, 2, 2⟩]⟩, A4, c4⟩, ⟨⟨3, 5, [⟨0, 0, 1, 2⟩]⟩, A5, c5⟩] (fun t ht => by
    simp only [List.mem_cons, List.not_mem_nil, or_false] at ht
    rcases ht with rfl | rfl
    · exact K5.out.1 _ (List.mem_cons_of_mem _ List.mem_cons_self)
    · exact K5.out.1 _ List.mem_cons_self) _ rfl _ rfl (by simp)))
  clear K5
  refine (HSQ.out 0 0 2 2 _).mono ?_
  rintro e6 w6 ⟨A6, c6, rfl, hr6, hb6⟩
  have K7 := Lib.hid (K6.out.addR hb6 hr6)
  clear hr6 hb6 K6
  go_wp2_with fail
  refine (HSQ.out 0 1 2 2 _).mono ?_
  rintro e7 w7 ⟨A7, c7, rfl, hr7, hb7⟩
  have K8 := Lib.hid (K7.out.addR hb7 hr7)
  clear hr7 hb7 K7
  go_wp2_with fail
  refine (HSQ.out 0 1 1 2 _).mono ?_
  rintro e8 w8 ⟨A8, c8, rfl, hr8, hb8⟩
  have K9 := Lib.hid (K8.out.addR hb8 hr8)
  clear hr8 hb8 K8
  go_wp2_with fail
  have K10 := Lib.hid (K9.out.addM ((Below.refl _ _).alloc (Nat.le_refl _) _) (show SIn _ _ 3 SL9 from lit_slabs w8 [⟨⟨0, 1, [⟨0, 0, 2, 2⟩]⟩, A6, c6⟩, ⟨⟨1, 3, [⟨0, 1, 2, 2⟩]⟩, A7, c7⟩, ⟨⟨3, 5, [⟨0, 1, 1, 2⟩]⟩, A8, c8⟩] (fun t ht => by
    simp only [List.mem_cons, List.not_mem_nil, or_false] at ht
    rcases ht with rfl | rfl | rfl
    · exact K9.out.1 _ (List.mem_cons_of_mem _ (List.mem_cons_of_mem _ List.mem_cons_self))
    · exact K9.out.1 _ (List.mem_cons_of_mem _ List.mem_cons_self)
    · exact K9.out.1 _ List.mem_cons_self) _ rfl _ rfl (by simp)))
  clear K9
  refine (HO3.out _ _ _ (lit_boxes _ BE _ rfl _ (by simp))).mono ?_
  rintro e9 w9 ⟨A9, c9, rfl, _, hb9⟩
  have K11 := Lib.hid ((K10.out.go ((Below.refl _ _).alloc (Nat.le_refl _) _)).go hb9)
  clear hb9 K10
  go_wp2_with fail
  refine (HS1.out _ _ _ _ _ (K11.out.2.1 _ (List.mem_cons_of_mem _ (List.mem_cons_of_mem _ (List.mem_cons_of_mem _ (List.mem_cons_of_mem _ List.mem_cons_self))))) (K11.out.2.1 _ (List.mem_cons_of_mem _ List.mem_cons_self))).mono ?_
  rintro e10 w10 ⟨rfl, hb10⟩
  have K12 := Lib.hid (K11.out.go hb10)
  clear hb10 K11
  go_wp2_with fail
  refine (HS2.out _ _ _ _ _ (K12.out.2.1 _ (List.mem_cons_of_mem _ (List.mem_cons_of_mem _ List.mem_cons_self))) (K12.out.2.1 _ List.mem_cons_self)).mono ?_
  rintro e11 w11 ⟨rfl, hb11⟩
  have K13 := Lib.hid (K12.out.go hb11)
  clear hb11 K12
  go_wp2_with fail
  refine (HS3.out _ _ _ _ _ (K13.out.2.1 _ (List.mem_cons_of_mem _ (List.mem_cons_of_mem _ List.mem_cons_self))) (K13.out.2.1 _ List.mem_cons_self)).mono ?_
  rintro e12 w12 ⟨rfl, hb12⟩
  have K14 := Lib.hid (K13.out.go hb12)
  clear hb12 K13
  go_wp2_with fail
  refine (HVO.out _ _ _ (K14.out.2.1 _ (List.mem_cons_of_mem _ (List.mem_cons_of_mem _ (List.mem_cons_of_mem _ (List.mem_cons_of_mem _ List.mem_cons_self)))))).mono ?_
  rintro e13 w13 ⟨rfl, hb13⟩
  have K15 := Lib.hid (K14.out.go hb13)
  clear hb13 K14
  go_wp2_with fail
  refine (HT1.out _ _ _ (K15.out.2.1 _ (List.mem_cons_of_mem _ (List.mem_cons_of_mem _ (List.mem_cons_of_mem _ (List.mem_cons_of_mem _ List.mem_cons_self)))))).mono ?_
  rintro e14 w14 ⟨rfl, hb14⟩
  have K16 := Lib.hid (K15.out.go hb14)
  clear hb14 K15
  go_wp2_with fail
  refine (HT2.out _ _ _ (K16.out.2.1 _ (List.mem_cons_of_mem _ (List.mem_cons_of_mem _ (List.mem_cons_of_mem _ (List.mem_cons_of_mem _ List.mem_cons_self)))))).mono ?_
  rintro e15 w15 ⟨rfl, hb15⟩
  have K17 := Lib.hid (K16.out.go hb15)
  clear hb15 K16
  go_wp2_with fail
  refine (HT3.out _ _ _ (K17.out.2.1 _ (List.mem_cons_of_mem _ (List.mem_cons_of_mem _ (List.mem_cons_of_mem _ (List.mem_cons_of_mem _ List.mem_cons_self)))))).mono ?_
  rintro e16 w16 ⟨rfl, hb16⟩
  have K18 := Lib.hid (K17.out.go hb16)
  clear hb16 K17
  go_wp2_with fail
  refine (HC1.out _ _ _ (K18.out.2.1 _ (List.mem_cons_of_mem _ (List.mem_cons_of_mem _ (List.mem_cons_of_mem _ (List.mem_cons_of_mem _ List.mem_cons_self)))))).mono ?_
  rintro e17 w17 ⟨A17, c17, rfl, hb17⟩
  have K19 := Lib.hid (K18.out.go hb17)
  clear hb17 K18
  go_wp2_with fail
  refine (HC2.out _ _ _ (K19.out.2.1 _ (List.mem_cons_of_mem _ (List.mem_cons_of_mem _ (List.mem_cons_of_mem _ (List.mem_cons_of_mem _ List.mem_cons_self)))))).mono ?_
  rintro e18 w18 ⟨A18, c18, rfl, hb18⟩
  have K20 := Lib.hid (K19.out.go hb18)
  clear hb18 K19
  go_wp2_with fail
  refine (HBX.out _ _ _ (K20.out.2.1 _ (List.mem_cons_of_mem _ (List.mem_cons_of_mem _ (List.mem_cons_of_mem _ (List.mem_cons_of_mem _ List.mem_cons_self)))))).mono ?_
  rintro e19 w19 ⟨A19, c19, rfl, hb19⟩
  have K21 := Lib.hid (K20.out.go hb19)
  clear hb19 K20
  go_wp2_with fail
  refine (HH1.out _ _ _ (K21.out.2.1 _ (List.mem_cons_of_mem _ (List.mem_cons_of_mem _ (List.mem_cons_of_mem _ (List.mem_cons_of_mem _ List.mem_cons_self)))))).mono ?_
  rintro e20 w20 ⟨rfl, hb20⟩
  have K22 := Lib.hid (K21.out.go hb20)
  clear hb20 K21
  go_wp2_with fail
  refine (HH2.out _ _ _ (K22.out.2.1 _ (List.mem_cons_of_mem _ (List.mem_cons_of_mem _ (List.mem_cons_of_mem _ (List.mem_cons_of_mem _ List.mem_cons_self)))))).mono ?_
  rintro e21 w21 ⟨rfl, hb21⟩
  have K23 := Lib.hid (K22.out.go hb21)
  clear hb21 K22
  go_wp2_with fail
  refine (HR0.out _).mono ?_
  rintro e22 w22 ⟨rfl, hb22⟩
  have K24 := Lib.hid (K23.out.go hb22)
  clear hb22 K23
  go_wp2_with fail
  have K25 := Lib.hid (K24.out.addM ((Below.refl _ _).alloc (Nat.le_refl _) _) (show SIn _ _ 1 SE9 from lit_slabs w22 [⟨⟨0, 1, []⟩, none, 0⟩] (fun t ht => by
    rw [List.mem_singleton] at ht; subst ht
    exact ⟨RRow.nil _ _, by simp, by simp, by show (0 : Nat) ≤ _; omega⟩) _ rfl _ rfl (by simp)))
  clear K24
  refine (HR5.out _ _ _ (K25.out.2.1 _ List.mem_cons_self)).mono ?_
  rintro e23 w23 ⟨rfl, hb23⟩
  have K26 := Lib.hid (K25.out.go hb23)
  clear hb23 K25
  go_wp2_with fail
  go_ret
  exact ⟨rfl, K26.out.2.2⟩
end Go.Proofs.YtdnoadngfkiabaaGreat
