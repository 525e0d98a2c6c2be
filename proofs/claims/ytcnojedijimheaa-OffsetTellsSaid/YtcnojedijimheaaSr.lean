/-
  The laws' examples (small) of layer 8.
-/
import Derived.Test.YtcnojedijimheaaSp
import Derived.Test.YtcnojedijimheaaSq
import Derived.Test.YtcnojedijimheaaGf
set_option linter.unusedVariables false
set_option maxRecDepth 100000
namespace Go.Proofs.Ytcnojedijimheaa
open Go.RowKit

/-- a result that can be read: a region's list and an error. -/
def RG (l : List Rc) (n : Nat) (er : Int) (w : World) (e : Ending) (w' : World) : Prop := ∃ A c, e = .returned (.tuple #[.slice A n c, .int .i64 er]) ∧ RIn w' A c l ∧ Below w.heap.size w w'
theorem ResIs.rg {x : List Rc × Int} {w : World} {e : Ending} {w' : World} (h : ResIs x w e w') (hl : x.1.length ≤ 1099511627776) : RG x.1 x.1.length x.2 w e w' := by
  obtain ⟨v, rfl, h1, h2⟩ := h
  obtain ⟨A, cap, rfl, r1, r2, r3, _⟩ := own_rects h1
  exact ⟨A, cap, rfl, ⟨r1, hl, r2, r3⟩, h2⟩
/-- a list of rectangles in new memory. -/
def BoxIs (l : List Rc) (n : Nat) (w : World) (e : Ending) (w' : World) : Prop := ∃ A c, e = .returned (.slice A n c) ∧ RIn w' A c l ∧ Below w.heap.size w w'
theorem rin_new (w : World) (l : List Rc) (o : Array Value) (n : Nat) (ho : o = (rcells l).toArray) (hl : l.length ≤ 1099511627776) (hn : n = l.length) : RIn (w.alloc (.cells o 41)) (some ⟨w.heap.size, 0, none⟩) n l := by
  subst ho; subst hn
  refine ⟨fun _ => ⟨w.heap.size, 0, rfl, by simp, fun j hj => ?_⟩, hl, Nat.le_refl _, by omega⟩
  obtain ⟨e0, e1, e2, e3⟩ := rcells_at l j hj
  rw [Nat.zero_add]
  have hb := heap_alloc_new w (.cells (rcells l).toArray 41)
  have c := fun i v (hv : (rcells l)[i]? = some v) => show (w.alloc (.cells (rcells l).toArray 41)).cell? ⟨w.heap.size, i, none⟩ = some v by
    rw [Lib.cell_of_heap hb]; simpa using hv
  exact ⟨c _ _ e0, c _ _ e1, c _ _ e2, c _ _ e3⟩
def bx (a b c d : Int) : List Rc := [⟨a, b, c, d⟩]
theorem zbox_any (a b c d : Int) (w : World) : Calls Try.prog 51 #[.int .i64 a, .int .i64 b, .int .i64 c, .int .i64 d] w (BoxIs (bx a b c d) 1 w) := by
  go_enter Try.func51, Try.ntmps51
  go_wp2
  go_ret
  exact ⟨_, _, rfl, rin_new w (bx a b c d) _ 1 rfl (by simp [bx]) rfl, (Below.refl _ _).alloc (Nat.le_refl _) _⟩
theorem reg_of' {l : List Rc} (h : (∀ r ∈ l, ROk r) ∧ formL l = l ∧ l.length ≤ 200) : RegP l := ⟨(form_self h.1).2 h.2.1, h.2.2⟩
def L55 : List Rc := [⟨0, 0, 1, 3⟩, ⟨1, 0, 3, 4⟩]
theorem dist_of {d : Int} (h : decide (DistP d) = true) : DistP d := of_decide_eq_true h
theorem ex1 : growM (bx 2 2 3 3) 1 = (bx 1 1 4 4, 0) := by unfold growM; rw [if_pos ⟨reg_of' (by decide +kernel), by decide⟩]; decide +kernel
theorem ex2 : growM (bx 0 0 1 1) 1 = (bx 0 0 2 2, 0) := by unfold growM; rw [if_pos ⟨reg_of' (by decide +kernel), by decide⟩]; decide +kernel
theorem ex3 : shrinkM (bx 0 0 5 5) 2 = (bx 2 2 3 3, 0) := by unfold shrinkM; rw [if_pos ⟨reg_of' (by decide +kernel), by decide⟩]; decide +kernel
theorem ex4 : shrinkM (bx 0 0 5 5) 3 = ([], 0) := by unfold shrinkM; rw [if_pos ⟨reg_of' (by decide +kernel), by decide⟩]; decide +kernel
theorem ex5 : shrinkM L55 1 = (bx 1 1 2 2, 0) := by unfold shrinkM; rw [if_pos ⟨reg_of' (by decide +kernel), by decide⟩]; decide +kernel
theorem ex6 : gapM (bx 0 0 1 1) (bx 1 1 2 2) = (0, true) := by unfold gapM; rw [if_pos ⟨reg_of' (by decide +kernel), reg_of' (by decide +kernel), by decide, by decide⟩]; decide +kernel
theorem ex7 : gapM (bx 0 0 1 1) (bx 3 0 4 1) = (2, true) := by unfold gapM; rw [if_pos ⟨reg_of' (by decide +kernel), reg_of' (by decide +kernel), by decide, by decide⟩]; decide +kernel
theorem ex7b : gapM (bx 0 0 1 1) (bx 9 9 10 10) = (8, true) := by unfold gapM; rw [if_pos ⟨reg_of' (by decide +kernel), reg_of' (by decide +kernel), by decide, by decide⟩]; decide +kernel
theorem ex7c : gapM (bx 0 0 1 1) [] = (0, false) := gapM_no (fun h => h.2.2.2 rfl)
theorem ex8 : growM [] (-1) = ([], 1) := if_neg (fun h => by have := h.2.1; omega)
def LNs : List (List Rc) := [bx 9 9 10 10, bx 3 0 4 1, []]
theorem ex9 : winK (bx 0 0 1 1) 2 LNs 3 = [1] := by
  rw [winK_next _ _ _ 2 (by decide), winK_next _ _ _ 1 (by decide), winK_next _ _ _ 0 (by decide), winK_zero]
  have n0 : ¬ NearP (bx 0 0 1 1) 2 LNs[0] := fun h => by have := h.2; rw [show LNs[0] = bx 9 9 10 10 from rfl, ex7b] at this; simp at this
  have n1 : NearP (bx 0 0 1 1) 2 LNs[1] := by unfold NearP; rw [show LNs[1] = bx 3 0 4 1 from rfl, ex7]; exact ⟨rfl, Int.le_refl _⟩
  have n2 : ¬ NearP (bx 0 0 1 1) 2 LNs[2] := fun h => by have := h.1; rw [show LNs[2] = [] from rfl, ex7c] at this; cases this
  rw [if_neg n0, if_pos n1, if_neg n2]; rfl
/-- what the walk keeps: lists at slices, and that nothing that was there has turned. -/
def SKm (M : List (Option Addr × Nat × List Rc)) (w0 w : World) : Prop := (∀ p ∈ M, RIn w p.1 p.2.1 p.2.2) ∧ Below w0.heap.size w0 w
theorem SKm.go {M : List (Option Addr × Nat × List Rc)} {w0 w w' : World} (h : SKm M w0 w) (hb : Below w.heap.size w w') : SKm M w0 w' := ⟨fun p hp => (h.1 p hp).below hb, h.2.trans (hb.mono h.2.size)⟩
theorem SKm.add {M : List (Option Addr × Nat × List Rc)} {w0 w w' : World} (h : SKm M w0 w) (hb : Below w.heap.size w w') {A : Option Addr} {c : Nat} {l : List Rc} (hr : RIn w' A c l) : SKm ((A, c, l) :: M) w0 w' := by
  have h2 := h.go hb
  refine ⟨fun p hp => ?_, h2.2⟩
  rcases List.mem_cons.1 hp with rfl | hp
  · exact hr
  · exact h2.1 p hp
theorem rin_nil (w : World) : RIn w none 0 [] := ⟨RRow.nil _ _, by simp, Nat.le_refl _, by omega⟩
set_option maxHeartbeats 16000000 in
theorem zsmall_any (w : World) : Calls Try.prog 15 #[] w (BlIs true w) := by
  have G1 := Lib.hid (fun (w' : World) (A : Option Addr) (c : Nat) (h : RIn w' A c (bx 2 2 3 3)) => show Calls Try.prog 17 #[.slice A 1 c, .int .i64 1] w' (RG (bx 1 1 4 4) 1 0 w') from by
    have := ygrow_any A c (bx 2 2 3 3) 1 w' h
    rw [ex1] at this
    exact this.mono fun e w2 h2 => h2.rg (by decide))
  have G2 := Lib.hid (fun (w' : World) (A : Option Addr) (c : Nat) (h : RIn w' A c (bx 0 0 1 1)) => show Calls Try.prog 17 #[.slice A 1 c, .int .i64 1] w' (RG (bx 0 0 2 2) 1 0 w') from by
    have := ygrow_any A c (bx 0 0 1 1) 1 w' h
    rw [ex2] at this
    exact this.mono fun e w2 h2 => h2.rg (by decide))
  have G3 := Lib.hid (fun (w' : World) (A : Option Addr) (c : Nat) (h : RIn w' A c (bx 0 0 5 5)) => show Calls Try.prog 19 #[.slice A 1 c, .int .i64 2] w' (RG (bx 2 2 3 3) 1 0 w') from by
    have := yshrink_any A c (bx 0 0 5 5) 2 w' h
    rw [ex3] at this
    exact this.mono fun e w2 h2 => h2.rg (by decide))
  have G4 := Lib.hid (fun (w' : World) (A : Option Addr) (c : Nat) (h : RIn w' A c (bx 0 0 5 5)) => show Calls Try.prog 19 #[.slice A 1 c, .int .i64 3] w' (RG ([]) 0 0 w') from by
    have := yshrink_any A c (bx 0 0 5 5) 3 w' h
    rw [ex4] at this
    exact this.mono fun e w2 h2 => h2.rg (by decide))
  have G5 := Lib.hid (fun (w' : World) (A : Option Addr) (c : Nat) (h : RIn w' A c (L55)) => show Calls Try.prog 19 #[.slice A 2 c, .int .i64 1] w' (RG (bx 1 1 2 2) 1 0 w') from by
    have := yshrink_any A c (L55) 1 w' h
    rw [ex5] at this
    exact this.mono fun e w2 h2 => h2.rg (by decide))
  have G8 := Lib.hid (fun (w' : World) => show Calls Try.prog 17 #[.slice none 0 0, .int .i64 (-1)] w' (RG [] 0 1 w') from by
    have := ygrow_any none 0 [] (-1) w' (rin_nil w')
    rw [ex8] at this
    exact this.mono fun e w2 h2 => h2.rg (by decide))
  have G6 := Lib.hid (fun (w' : World) (A : Option Addr) (c : Nat) (A2 : Option Addr) (c2 : Nat) (h : RIn w' A c (bx 0 0 1 1)) (h2 : RIn w' A2 c2 (bx 1 1 2 2)) => show Calls Try.prog 21 #[.slice A 1 c, .slice A2 1 c2] w' (GapIs (0, true) w') from by
    have := ygap_any A c A2 c2 (bx 0 0 1 1) (bx 1 1 2 2) w' h h2
    rwa [ex6] at this)
  have G7 := Lib.hid (fun (w' : World) (A : Option Addr) (c : Nat) (A2 : Option Addr) (c2 : Nat) (h : RIn w' A c (bx 0 0 1 1)) (h2 : RIn w' A2 c2 (bx 3 0 4 1)) => show Calls Try.prog 21 #[.slice A 1 c, .slice A2 1 c2] w' (GapIs (2, true) w') from by
    have := ygap_any A c A2 c2 (bx 0 0 1 1) (bx 3 0 4 1) w' h h2
    rwa [ex7] at this)
  have Q1 := Lib.hid (fun (w' : World) (A : Option Addr) (c : Nat) (A2 : Option Addr) (c2 : Nat) (h : RIn w' A c (bx 1 1 4 4)) (h2 : RIn w' A2 c2 (bx 1 1 4 4)) => show Calls Try.prog 13 #[.slice A 1 c, .slice A2 1 c2] w' (BlIs true w') from by
    have := vsame_any A c A2 c2 (bx 1 1 4 4) (bx 1 1 4 4) w' h.row h2.row (by simp [bx]) (by simp [bx])
    rwa [decide_eq_true rfl] at this)
  have Q2 := Lib.hid (fun (w' : World) (A : Option Addr) (c : Nat) (A2 : Option Addr) (c2 : Nat) (h : RIn w' A c (bx 0 0 2 2)) (h2 : RIn w' A2 c2 (bx 0 0 2 2)) => show Calls Try.prog 13 #[.slice A 1 c, .slice A2 1 c2] w' (BlIs true w') from by
    have := vsame_any A c A2 c2 (bx 0 0 2 2) (bx 0 0 2 2) w' h.row h2.row (by simp [bx]) (by simp [bx])
    rwa [decide_eq_true rfl] at this)
  have Q3 := Lib.hid (fun (w' : World) (A : Option Addr) (c : Nat) (A2 : Option Addr) (c2 : Nat) (h : RIn w' A c (bx 2 2 3 3)) (h2 : RIn w' A2 c2 (bx 2 2 3 3)) => show Calls Try.prog 13 #[.slice A 1 c, .slice A2 1 c2] w' (BlIs true w') from by
    have := vsame_any A c A2 c2 (bx 2 2 3 3) (bx 2 2 3 3) w' h.row h2.row (by simp [bx]) (by simp [bx])
    rwa [decide_eq_true rfl] at this)
  have Q5 := Lib.hid (fun (w' : World) (A : Option Addr) (c : Nat) (A2 : Option Addr) (c2 : Nat) (h : RIn w' A c (bx 1 1 2 2)) (h2 : RIn w' A2 c2 (bx 1 1 2 2)) => show Calls Try.prog 13 #[.slice A 1 c, .slice A2 1 c2] w' (BlIs true w') from by
    have := vsame_any A c A2 c2 (bx 1 1 2 2) (bx 1 1 2 2) w' h.row h2.row (by simp [bx]) (by simp [bx])
    rwa [decide_eq_true rfl] at this)
  have G9 := Lib.hid (fun (w' : World) (A : Option Addr) (c : Nat) (A1 : Option Addr) (c1 : Nat) (A2 : Option Addr) (c2 : Nat) (h : RIn w' A c (bx 0 0 1 1)) (h1 : RIn w' A1 c1 (bx 9 9 10 10)) (h2 : RIn w' A2 c2 (bx 3 0 4 1)) => show Calls Try.prog 24 #[.slice A 1 c, .slice (some ⟨w'.heap.size, 0, none⟩) 3 3, .int .i64 2] (w'.alloc (.cells #[.slice A1 1 c1, .slice A2 1 c2, .slice none 0 0] 22)) (WinIs [1] (w'.alloc (.cells #[.slice A1 1 c1, .slice A2 1 c2, .slice none 0 0] 22))) from by
    have hb : Below w'.heap.size w' (w'.alloc (.cells #[.slice A1 1 c1, .slice A2 1 c2, .slice none 0 0] 22)) := (Below.refl _ _).alloc (Nat.le_refl _) _
    have hh := heap_alloc_new w' (.cells #[.slice A1 1 c1, .slice A2 1 c2, .slice none 0 0] 22)
    have := ywithin_any A c (some ⟨w'.heap.size, 0, none⟩) 3 (bx 0 0 1 1) LNs 2 (w'.alloc (.cells #[.slice A1 1 c1, .slice A2 1 c2, .slice none 0 0] 22)) (h.below hb) (fun _ => ⟨w'.heap.size, 0, rfl, by simp, fun j hj => ?_⟩) (by decide)
    · rwa [show LNs.length = 3 from rfl, ex9] at this
    · match j, hj with
      | 0, _ => exact ⟨A1, c1, by rw [Lib.cell_of_heap hh]; rfl, h1.below hb⟩
      | 1, _ => exact ⟨A2, c2, by rw [Lib.cell_of_heap hh]; rfl, h2.below hb⟩
      | 2, _ => exact ⟨none, 0, by rw [Lib.cell_of_heap hh]; rfl, rin_nil _⟩)
  have K0 : Hid (SKm [] w w) := Lib.hid ⟨fun p hp => (by cases hp), Below.refl _ _⟩
  go_enter Try.func15, Try.ntmps15
  go_wp2_with fail
  refine (zbox_any 2 2 3 3 _).mono ?_
  rintro e1 w1 ⟨A1, c1, rfl, hr1, hb1⟩
  have K1 := Lib.hid (K0.out.add hb1 hr1)
  clear hr1 hb1 K0
  go_wp2_with fail
  refine (G1.out _ _ _ (K1.out.1 _ List.mem_cons_self)).mono ?_
  rintro e2 w2 ⟨A2, c2, rfl, hr2, hb2⟩
  have K2 := Lib.hid (K1.out.add hb2 hr2)
  clear hr2 hb2 K1
  go_wp2_with fail
  refine (zbox_any 0 0 1 1 _).mono ?_
  rintro e3 w3 ⟨A3, c3, rfl, hr3, hb3⟩
  have K3 := Lib.hid (K2.out.add hb3 hr3)
  clear hr3 hb3 K2
  go_wp2_with fail
  refine (G2.out _ _ _ (K3.out.1 _ List.mem_cons_self)).mono ?_
  rintro e4 w4 ⟨A4, c4, rfl, hr4, hb4⟩
  have K4 := Lib.hid (K3.out.add hb4 hr4)
  clear hr4 hb4 K3
  go_wp2_with fail
  refine (zbox_any 0 0 5 5 _).mono ?_
  rintro e5 w5 ⟨A5, c5, rfl, hr5, hb5⟩
  have K5 := Lib.hid (K4.out.add hb5 hr5)
  clear hr5 hb5 K4
  go_wp2_with fail
  refine (G3.out _ _ _ (K5.out.1 _ List.mem_cons_self)).mono ?_
  rintro e6 w6 ⟨A6, c6, rfl, hr6, hb6⟩
  have K6 := Lib.hid (K5.out.add hb6 hr6)
  clear hr6 hb6 K5
  go_wp2_with fail
  refine (zbox_any 0 0 5 5 _).mono ?_
  rintro e7 w7 ⟨A7, c7, rfl, hr7, hb7⟩
  have K7 := Lib.hid (K6.out.add hb7 hr7)
  clear hr7 hb7 K6
  go_wp2_with fail
  refine (G4.out _ _ _ (K7.out.1 _ List.mem_cons_self)).mono ?_
  rintro e8 w8 ⟨A8, c8, rfl, hr8, hb8⟩
  have K8 := Lib.hid (K7.out.add hb8 hr8)
  clear hr8 hb8 K7
  go_wp2_with fail
  have hl9 : Below w8.heap.size w8 (w8.alloc (.cells #[.int .i64 0, .int .i64 0, .int .i64 1, .int .i64 3, .int .i64 1, .int .i64 0, .int .i64 3, .int .i64 4] 41)) := (Below.refl _ _).alloc (Nat.le_refl _) _
  have K9 := Lib.hid (K8.out.add hl9 (rin_new w8 L55 _ 2 rfl (by decide) rfl))
  clear hl9 K8
  refine (G5.out _ _ _ (K9.out.1 _ List.mem_cons_self)).mono ?_
  rintro e10 w10 ⟨A10, c10, rfl, hr10, hb10⟩
  have K10 := Lib.hid (K9.out.add hb10 hr10)
  clear hr10 hb10 K9
  go_wp2_with fail
  refine (zbox_any 0 0 1 1 _).mono ?_
  rintro e11 w11 ⟨A11, c11, rfl, hr11, hb11⟩
  have K11 := Lib.hid (K10.out.add hb11 hr11)
  clear hr11 hb11 K10
  go_wp2_with fail
  refine (zbox_any 1 1 2 2 _).mono ?_
  rintro e12 w12 ⟨A12, c12, rfl, hr12, hb12⟩
  have K12 := Lib.hid (K11.out.add hb12 hr12)
  clear hr12 hb12 K11
  go_wp2_with fail
  refine (G6.out _ _ _ _ _ (K12.out.1 _ (List.mem_cons_of_mem _ List.mem_cons_self)) (K12.out.1 _ List.mem_cons_self)).mono ?_
  rintro e13 w13 ⟨rfl, hb13⟩
  have K13 := Lib.hid (K12.out.go hb13)
  clear hb13 K12
  go_wp2_with fail
  refine (zbox_any 0 0 1 1 _).mono ?_
  rintro e14 w14 ⟨A14, c14, rfl, hr14, hb14⟩
  have K14 := Lib.hid (K13.out.add hb14 hr14)
  clear hr14 hb14 K13
  go_wp2_with fail
  refine (zbox_any 3 0 4 1 _).mono ?_
  rintro e15 w15 ⟨A15, c15, rfl, hr15, hb15⟩
  have K15 := Lib.hid (K14.out.add hb15 hr15)
  clear hr15 hb15 K14
  go_wp2_with fail
  refine (G7.out _ _ _ _ _ (K15.out.1 _ (List.mem_cons_of_mem _ List.mem_cons_self)) (K15.out.1 _ List.mem_cons_self)).mono ?_
  rintro e16 w16 ⟨rfl, hb16⟩
  have K16 := Lib.hid (K15.out.go hb16)
  clear hb16 K15
  go_wp2_with fail
  refine (G8.out _).mono ?_
  rintro e17 w17 ⟨A17, c17, rfl, hr17, hb17⟩
  have K17 := Lib.hid (K16.out.go hb17)
  clear hr17 hb17 K16
  go_wp2_with fail
  refine (zbox_any 0 0 1 1 _).mono ?_
  rintro e18 w18 ⟨A18, c18, rfl, hr18, hb18⟩
  have K18 := Lib.hid (K17.out.add hb18 hr18)
  clear hr18 hb18 K17
  go_wp2_with fail
  refine (zbox_any 9 9 10 10 _).mono ?_
  rintro e19 w19 ⟨A19, c19, rfl, hr19, hb19⟩
  have K19 := Lib.hid (K18.out.add hb19 hr19)
  clear hr19 hb19 K18
  go_wp2_with fail
  refine (zbox_any 3 0 4 1 _).mono ?_
  rintro e20 w20 ⟨A20, c20, rfl, hr20, hb20⟩
  have K20 := Lib.hid (K19.out.add hb20 hr20)
  clear hr20 hb20 K19
  go_wp2_with fail
  have hl21 : Below w20.heap.size w20 (w20.alloc (.cells #[.slice A19 1 c19, .slice A20 1 c20, .slice none 0 0] 22)) := (Below.refl _ _).alloc (Nat.le_refl _) _
  refine (G9.out _ _ _ _ _ _ _ (K20.out.1 _ (List.mem_cons_of_mem _ (List.mem_cons_of_mem _ List.mem_cons_self))) (K20.out.1 _ (List.mem_cons_of_mem _ List.mem_cons_self)) (K20.out.1 _ List.mem_cons_self)).mono ?_
  rintro e21 w21 ⟨A21, c21, rfl, hi21, hb21⟩
  have K21 := Lib.hid ((K20.out.go hl21).go hb21)
  obtain ⟨bw, ow, rfl, hbw, hcw⟩ := hi21 (by simp)
  have yw := hcw 0 (by simp)
  simp only [Nat.add_zero, List.getElem_cons_zero] at yw
  clear hb21 hl21 K20 hi21 hcw
  go_wp2_with fail
  refine (zbox_any 1 1 4 4 _).mono ?_
  rintro e22 w22 ⟨A22, c22, rfl, hr22, hb22⟩
  have K22 := Lib.hid (K21.out.add hb22 hr22)
  clear hr22 hb22 K21
  go_wp2_with fail
  refine (Q1.out _ _ _ _ _ (K22.out.1 _ (List.mem_cons_of_mem _ (List.mem_cons_of_mem _ (List.mem_cons_of_mem _ (List.mem_cons_of_mem _ (List.mem_cons_of_mem _ (List.mem_cons_of_mem _ (List.mem_cons_of_mem _ (List.mem_cons_of_mem _ (List.mem_cons_of_mem _ (List.mem_cons_of_mem _ (List.mem_cons_of_mem _ (List.mem_cons_of_mem _ (List.mem_cons_of_mem _ (List.mem_cons_of_mem _ (List.mem_cons_of_mem _ (List.mem_cons_of_mem _ List.mem_cons_self))))))))))))))))) (K22.out.1 _ List.mem_cons_self)).mono ?_
  rintro e23 w23 ⟨rfl, hb23⟩
  have K23 := Lib.hid (K22.out.go hb23)
  clear hb23 K22
  go_wp2_with fail
  refine (zbox_any 0 0 2 2 _).mono ?_
  rintro e24 w24 ⟨A24, c24, rfl, hr24, hb24⟩
  have K24 := Lib.hid (K23.out.add hb24 hr24)
  clear hr24 hb24 K23
  go_wp2_with fail
  refine (Q2.out _ _ _ _ _ (K24.out.1 _ (List.mem_cons_of_mem _ (List.mem_cons_of_mem _ (List.mem_cons_of_mem _ (List.mem_cons_of_mem _ (List.mem_cons_of_mem _ (List.mem_cons_of_mem _ (List.mem_cons_of_mem _ (List.mem_cons_of_mem _ (List.mem_cons_of_mem _ (List.mem_cons_of_mem _ (List.mem_cons_of_mem _ (List.mem_cons_of_mem _ (List.mem_cons_of_mem _ (List.mem_cons_of_mem _ (List.mem_cons_of_mem _ List.mem_cons_self)))))))))))))))) (K24.out.1 _ List.mem_cons_self)).mono ?_
  rintro e25 w25 ⟨rfl, hb25⟩
  have K25 := Lib.hid (K24.out.go hb25)
  clear hb25 K24
  go_wp2_with fail
  refine (zbox_any 2 2 3 3 _).mono ?_
  rintro e26 w26 ⟨A26, c26, rfl, hr26, hb26⟩
  have K26 := Lib.hid (K25.out.add hb26 hr26)
  clear hr26 hb26 K25
  go_wp2_with fail
  refine (Q3.out _ _ _ _ _ (K26.out.1 _ (List.mem_cons_of_mem _ (List.mem_cons_of_mem _ (List.mem_cons_of_mem _ (List.mem_cons_of_mem _ (List.mem_cons_of_mem _ (List.mem_cons_of_mem _ (List.mem_cons_of_mem _ (List.mem_cons_of_mem _ (List.mem_cons_of_mem _ (List.mem_cons_of_mem _ (List.mem_cons_of_mem _ (List.mem_cons_of_mem _ (List.mem_cons_of_mem _ (List.mem_cons_of_mem _ List.mem_cons_self))))))))))))))) (K26.out.1 _ List.mem_cons_self)).mono ?_
  rintro e27 w27 ⟨rfl, hb27⟩
  have K27 := Lib.hid (K26.out.go hb27)
  clear hb27 K26
  go_wp2_with fail
  refine (zbox_any 1 1 2 2 _).mono ?_
  rintro e28 w28 ⟨A28, c28, rfl, hr28, hb28⟩
  have K28 := Lib.hid (K27.out.add hb28 hr28)
  clear hr28 hb28 K27
  go_wp2_with fail
  refine (Q5.out _ _ _ _ _ (K28.out.1 _ (List.mem_cons_of_mem _ (List.mem_cons_of_mem _ (List.mem_cons_of_mem _ (List.mem_cons_of_mem _ (List.mem_cons_of_mem _ (List.mem_cons_of_mem _ (List.mem_cons_of_mem _ (List.mem_cons_of_mem _ (List.mem_cons_of_mem _ (List.mem_cons_of_mem _ (List.mem_cons_of_mem _ List.mem_cons_self)))))))))))) (K28.out.1 _ List.mem_cons_self)).mono ?_
  rintro e29 w29 ⟨rfl, hb29⟩
  have K29 := Lib.hid (K28.out.go hb29)
  clear hb29 K28
  go_wp2_with fail
  go_ret
  exact ⟨rfl, K29.out.2⟩
end Go.Proofs.Ytcnojedijimheaa
