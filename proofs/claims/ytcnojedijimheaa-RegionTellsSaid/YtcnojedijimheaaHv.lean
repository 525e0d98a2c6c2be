/-
  The laws' examples (small).
-/
import Derived.Test.YtcnojedijimheaaHu
set_option linter.unusedVariables false
set_option maxRecDepth 100000
namespace Go.Proofs.Ytcnojedijimheaa
open Go.RowKit

/-- a result that can be read: a region's list and an error. -/
def RR (l : List Rc) (n : Nat) (er : Int) (w : World) (e : Ending) (w' : World) : Prop := ∃ A c, e = .returned (.tuple #[.slice A n c, .int .i64 er]) ∧ RIn w' A c l ∧ Below w.heap.size w w'
theorem ResIs.rr {x : List Rc × Int} {w : World} {e : Ending} {w' : World} (h : ResIs x w e w') (hl : x.1.length ≤ 1099511627776) : RR x.1 x.1.length x.2 w e w' := by
  obtain ⟨v, rfl, h1, h2⟩ := h
  obtain ⟨A, cap, rfl, r1, r2, r3, _⟩ := own_rects h1
  exact ⟨A, cap, rfl, ⟨r1, hl, r2, r3⟩, h2⟩
/-- a block of rectangles. -/
def RB (w : World) (b : Nat) (l : List Rc) : Prop := w.heap[b]? = some (.cells (rcells l).toArray 41 (0, 0))
theorem RB.lt {w : World} {b : Nat} {l : List Rc} (h : RB w b l) : b < w.heap.size := (Array.getElem?_eq_some_iff.1 h).1
theorem RB.below {w w' : World} {b : Nat} {l : List Rc} (h : RB w b l) (hb : Below w.heap.size w w') : RB w' b l := (hb.block b h.lt).trans h
theorem RB.row {w : World} {b : Nat} {l : List Rc} (h : RB w b l) (hl : l.length ≤ 1099511627776) : RIn w (some ⟨b, 0, none⟩) l.length l := by
  refine ⟨fun _ => ⟨b, 0, rfl, h.lt, fun j hj => ?_⟩, hl, Nat.le_refl _, by omega⟩
  obtain ⟨e0, e1, e2, e3⟩ := rcells_at l j hj
  rw [Nat.zero_add]
  have c := fun i v (hv : (rcells l)[i]? = some v) => show w.cell? ⟨b, i, none⟩ = some v by
    rw [Lib.cell_of_heap h]; simpa using hv
  exact ⟨c _ _ e0, c _ _ e1, c _ _ e2, c _ _ e3⟩
theorem RB.new (w : World) (l : List Rc) (o : Array Value) (ho : o = (rcells l).toArray) : RB (w.alloc (.cells o 41)) w.heap.size l := by subst ho; exact heap_alloc_new w _
def L1 : List Rc := [⟨0, 0, 2, 2⟩, ⟨1, 1, 3, 3⟩]
def L2 : List Rc := [⟨0, 0, 3, 3⟩]
def L3 : List Rc := [⟨1, 1, 2, 2⟩]
def L4 : List Rc := [⟨0, 0, 1, 1⟩, ⟨1, 1, 2, 2⟩]
def LW : List Rc := [⟨0, 0, 1, 2⟩, ⟨1, 0, 2, 3⟩, ⟨2, 1, 3, 3⟩]
def LRg : List Rc := [⟨0, 0, 1, 3⟩, ⟨1, 0, 2, 1⟩, ⟨1, 2, 2, 3⟩, ⟨2, 0, 3, 3⟩]
def L5 : List Rc := [⟨3, 0, 3, 1⟩]
theorem reg_of {l : List Rc} (h : (∀ r ∈ l, ROk r) ∧ formL l = l ∧ l.length ≤ 200) : RegP l := ⟨(form_self h.1).2 h.2.1, h.2.2⟩
theorem ex_of : ofR L1 = (LW, 0) := by decide +kernel
theorem reg2 : RegP L2 := reg_of (by decide +kernel)
theorem reg3 : RegP L3 := reg_of (by decide +kernel)
theorem reg4 : RegP L4 := reg_of (by decide +kernel)
theorem regW : RegP LW := reg_of (by decide +kernel)
theorem reg0 : RegP [] := reg_of (by decide +kernel)
theorem reg5 : ¬ RegP L5 := fun h => absurd (form_ok h.1 _ List.mem_cons_self) (by decide)
theorem ex_minus : opR andnot L2 L3 = (LRg, 0) := by
  unfold opR
  rw [if_pos ⟨reg2, reg3⟩]
  decide +kernel
theorem ex_touch : ¬ TouchR ⟨0, 0, 1, 1⟩ ⟨1, 1, 2, 2⟩ ∧ ¬ TouchR ⟨1, 1, 2, 2⟩ ⟨0, 0, 1, 1⟩ := by decide
theorem ex_area : areaL LW = 7 := by decide
/-- what the walk keeps: blocks of rectangles, lists at slices, and that nothing that was there has turned. -/
def SK (L : List (Nat × List Rc)) (M : List (Option Addr × Nat × List Rc)) (w0 w : World) : Prop := (∀ p ∈ L, RB w p.1 p.2) ∧ (∀ p ∈ M, RIn w p.1 p.2.1 p.2.2) ∧ Below w0.heap.size w0 w
theorem SK.go {L : List (Nat × List Rc)} {M : List (Option Addr × Nat × List Rc)} {w0 w w' : World} (h : SK L M w0 w) (hb : Below w.heap.size w w') : SK L M w0 w' :=
  ⟨fun p hp => (h.1 p hp).below hb, fun p hp => (h.2.1 p hp).below hb, h.2.2.trans (hb.mono h.2.2.size)⟩
theorem SK.new {L : List (Nat × List Rc)} {M : List (Option Addr × Nat × List Rc)} {w0 w : World} (h : SK L M w0 w) (l : List Rc) (o : Array Value) (ho : o = (rcells l).toArray) (k : Nat) (hk : k = w.heap.size) : SK ((k, l) :: L) M w0 (w.alloc (.cells o 41)) := by
  subst hk
  have hg : Below w.heap.size w (w.alloc (.cells o 41)) := (Below.refl _ _).alloc (Nat.le_refl _) _
  have h2 := h.go hg
  refine ⟨fun p hp => ?_, h2.2⟩
  rcases List.mem_cons.1 hp with rfl | hp
  · exact RB.new w l o ho
  · exact h2.1 p hp
theorem SK.add {L : List (Nat × List Rc)} {M : List (Option Addr × Nat × List Rc)} {w0 w w' : World} (h : SK L M w0 w) (hb : Below w.heap.size w w') {A : Option Addr} {c : Nat} {l : List Rc} (hr : RIn w' A c l) : SK L ((A, c, l) :: M) w0 w' := by
  have h2 := h.go hb
  refine ⟨h2.1, fun p hp => ?_, h2.2.2⟩
  rcases List.mem_cons.1 hp with rfl | hp
  · exact hr
  · exact h2.2.1 p hp
set_option maxHeartbeats 16000000 in
theorem small_any (w : World) : Calls Try.prog 10 #[] w (BlIs true w) := by
  have HOF := Lib.hid (fun (w' : World) (b : Nat) (h : RB w' b L1) => show Calls Try.prog 11 #[.slice (some ⟨b, 0, none⟩) 2 2] w' (RR LW 3 0 w') from by
    have hr := h.row (by decide)
    have := gof_any _ 2 L1 w' hr.row (by decide)
    rw [ex_of] at this
    exact this.mono fun e w2 h2 => h2.rr (by decide))
  have HMI := Lib.hid (fun (w' : World) (b b2 : Nat) (h : RB w' b L2) (h2 : RB w' b2 L3) => show Calls Try.prog 30 #[.slice (some ⟨b, 0, none⟩) 1 1, .slice (some ⟨b2, 0, none⟩) 1 1] w' (RR LRg 4 0 w') from by
    have := gminus_any _ 1 _ 1 L2 L3 w' (h.row (by decide)) (h2.row (by decide))
    rw [ex_minus] at this
    exact this.mono fun e w2 h2 => h2.rr (by decide))
  have HPA := Lib.hid (fun (w' : World) (b : Nat) (h : RB w' b L4) => show Calls Try.prog 31 #[.slice (some ⟨b, 0, none⟩) 2 2] w' (LenIs 2 w') from gparts_two _ 2 _ _ w' (h.row (by decide)) reg4 ex_touch)
  have HS1 := Lib.hid (fun (w' : World) (A : Option Addr) (c b : Nat) (h : RIn w' A c LW) (h2 : RB w' b LW) => show Calls Try.prog 13 #[.slice A 3 c, .slice (some ⟨b, 0, none⟩) 3 3] w' (BlIs true w') from by
    have := vsame_any A c (some ⟨b, 0, none⟩) 3 LW LW w' h.row (h2.row (by decide)).row (by decide) (by decide)
    rw [decide_eq_true rfl] at this; exact this)
  have HS2 := Lib.hid (fun (w' : World) (A : Option Addr) (c b : Nat) (h : RIn w' A c LRg) (h2 : RB w' b LRg) => show Calls Try.prog 13 #[.slice A 4 c, .slice (some ⟨b, 0, none⟩) 4 4] w' (BlIs true w') from by
    have := vsame_any A c (some ⟨b, 0, none⟩) 4 LRg LRg w' h.row (h2.row (by decide)).row (by decide) (by decide)
    rw [decide_eq_true rfl] at this; exact this)
  have HAR := Lib.hid (fun (w' : World) (b : Nat) (h : RB w' b LW) => show Calls Try.prog 32 #[.slice (some ⟨b, 0, none⟩) 3 3] w' (InIs 7 w') from by
    have := garea_yes _ 3 LW w' (h.row (by decide)) regW
    rw [ex_area] at this; exact this)
  have HR0 := Lib.hid (fun (w' : World) => show Calls Try.prog 33 #[.slice none 0 0] w' (BlIs true w') from gright_yes none 0 [] w' (RRow.nil _ _) (by decide) (by decide) (by decide) reg0)
  have HR5 := Lib.hid (fun (w' : World) (b : Nat) (h : RB w' b L5) => show Calls Try.prog 33 #[.slice (some ⟨b, 0, none⟩) 1 1] w' (BlIs false w') from by
    have hr := h.row (by decide)
    exact gright_no _ 1 L5 w' hr.row hr.len hr.room hr.room2 reg5)
  have K0 : Hid (SK [] [] w w) := Lib.hid ⟨fun p hp => (by cases hp), fun p hp => (by cases hp), Below.refl _ _⟩
  go_enter Try.func10, Try.ntmps10
  go_wp2_with fail
  have K1 := Lib.hid (K0.out.new L1 _ rfl w.heap.size rfl)
  refine (HOF.out _ _ (K1.out.1 _ List.mem_cons_self)).mono ?_
  rintro e1 w1 ⟨A1, c1, rfl, hr1, hb1⟩
  have K2 := Lib.hid (K1.out.add hb1 hr1)
  clear hr1 hb1 K0 K1
  go_wp2_with fail
  have K3 := Lib.hid ((K2.out.new L2 _ rfl w1.heap.size rfl).new L3 _ rfl (w1.heap.size + 1) (by simp))
  refine (HMI.out _ _ _ (K3.out.1 _ (List.mem_cons_of_mem _ List.mem_cons_self)) (K3.out.1 _ List.mem_cons_self)).mono ?_
  rintro e2 w2 ⟨A2, c2, rfl, hr2, hb2⟩
  have K4 := Lib.hid (K3.out.add hb2 hr2)
  clear hr2 hb2 K2 K3
  go_wp2_with fail
  have K5 := Lib.hid (K4.out.new L4 _ rfl w2.heap.size rfl)
  refine (HPA.out _ _ (K5.out.1 _ List.mem_cons_self)).mono ?_
  rintro e3 w3 ⟨A3, c3, rfl, hb3⟩
  have K6 := Lib.hid (((K5.out.go hb3).new LW _ rfl w3.heap.size rfl).new LRg _ rfl (w3.heap.size + 1) (by simp))
  clear hb3 K4 K5
  go_wp2_with fail
  refine (HS1.out _ _ _ _ (K6.out.2.1 _ (List.mem_cons_of_mem _ List.mem_cons_self)) (K6.out.1 _ (List.mem_cons_of_mem _ List.mem_cons_self))).mono ?_
  rintro e4 w4 ⟨rfl, hb4⟩
  have K7 := Lib.hid (K6.out.go hb4)
  clear hb4 K6
  go_wp2_with fail
  refine (HAR.out _ _ (K7.out.1 _ (List.mem_cons_of_mem _ List.mem_cons_self))).mono ?_
  rintro e5 w5 ⟨rfl, hb5⟩
  have K8 := Lib.hid (K7.out.go hb5)
  clear hb5 K7
  go_wp2_with fail
  refine (HS2.out _ _ _ _ (K8.out.2.1 _ List.mem_cons_self) (K8.out.1 _ List.mem_cons_self)).mono ?_
  rintro e6 w6 ⟨rfl, hb6⟩
  have K9 := Lib.hid (K8.out.go hb6)
  clear hb6 K8
  go_wp2_with fail
  refine (HR0.out _).mono ?_
  rintro e7 w7 ⟨rfl, hb7⟩
  have K10 := Lib.hid (K9.out.go hb7)
  clear hb7 K9
  go_wp2_with fail
  have K11 := Lib.hid (K10.out.new L5 _ rfl w7.heap.size rfl)
  refine (HR5.out _ _ (K11.out.1 _ List.mem_cons_self)).mono ?_
  rintro e8 w8 ⟨rfl, hb8⟩
  have K12 := Lib.hid (K11.out.go hb8)
  clear hb8 K10 K11
  go_wp2_with fail
  go_ret
  exact ⟨rfl, K12.out.2.2⟩
end Go.Proofs.Ytcnojedijimheaa
