/-
  Contracts of layer 13 (2): rectangles of two lists with a cell in common; numbers, owners, one part.
  Contracts of the program's layer 9, 4: the closures of Of and both; join.
  Contracts of the program's layer 9, 6: form.
-/
import Derived.Test.YtngddecpfhlilaaGreatC17
import Derived.Test.YtngddecpfhlilaaGreatC21
import Derived.Lib.MinMax
import Derived.Test.YtngddecpfhlilaaGreatC22
import Derived.Test.YtngddecpfhlilaaGreatC16
import Derived.Test.YtngddecpfhlilaaGreatC13
set_option linter.unusedVariables false
set_option maxRecDepth 100000
namespace Go.Proofs.YtngddecpfhlilaaGreat
open Go.RowKit
def mtR (r q : Rc) : Bool := decide (max r.X0 q.X0 < min r.X1 q.X1) && decide (max r.Y0 q.Y0 < min r.Y1 q.Y1)
theorem mtB_any (a b : List Rc) : mtB a b = a.any fun r => b.any (mtR r) := rfl
def RcC (w : World) (b : Nat) (r : Rc) : Prop := w.cell? ⟨b, 0, none⟩ = some (.int .i64 r.X0) ∧ w.cell? ⟨b, 1, none⟩ = some (.int .i64 r.Y0) ∧ w.cell? ⟨b, 2, none⟩ = some (.int .i64 r.X1) ∧ w.cell? ⟨b, 3, none⟩ = some (.int .i64 r.Y1) ∧ b < w.heap.size
theorem RcC.below {w w' : World} {b : Nat} {r : Rc} (h : RcC w b r) (hb : Below w.heap.size w w') : RcC w' b r := by
 obtain ⟨h0, h1, h2, h3, h4⟩ := h
 have wc := fun i => hb.cell (p := ⟨b, i, none⟩) h4
 exact ⟨(wc _).trans h0, (wc _).trans h1, (wc _).trans h2, (wc _).trans h3, Nat.lt_of_lt_of_le h4 hb.size⟩
theorem RcC.new (w : World) (r : Rc) (k : Nat) (h : k = w.heap.size) : RcC (w.alloc (.cells #[.int .i64 r.X0, .int .i64 r.Y0, .int .i64 r.X1, .int .i64 r.Y1] 68)) k r := by
 subst h
 refine ⟨by rw [Lib.cell_of_heap (heap_alloc_new w _)]; rfl, by rw [Lib.cell_of_heap (heap_alloc_new w _)]; rfl, by rw [Lib.cell_of_heap (heap_alloc_new w _)]; rfl, by rw [Lib.cell_of_heap (heap_alloc_new w _)]; rfl, by simp⟩
set_option maxHeartbeats 8000000 in
theorem meetCC_any (r q : Rc) (br : Nat) (w : World) (h : RcC w br r) :
  Calls Tryz.prog 148 #[.agg #[.int .i64 q.X0, .int .i64 q.Y0, .int .i64 q.X1, .int .i64 q.Y1], .pointer (some ⟨br, 0, none⟩)] w (BlIs (mtR r q) w) := by
 obtain ⟨h0, h1, h2, h3, h4⟩ := h
 unfold mtR
 generalize r.X0 = a0 at *
 generalize r.Y0 = a1 at *
 generalize r.X1 = a2 at *
 generalize r.Y1 = a3 at *
 generalize q.X0 = c0 at *
 generalize q.Y0 = c1 at *
 generalize q.X1 = c2 at *
 generalize q.Y1 = c3 at *
 obtain ⟨m0, hm0⟩ : ∃ m, m = max a0 c0 := ⟨_, rfl⟩
 obtain ⟨m1, hm1⟩ : ∃ m, m = min a2 c2 := ⟨_, rfl⟩
 obtain ⟨m2, hm2⟩ : ∃ m, m = max a1 c1 := ⟨_, rfl⟩
 obtain ⟨m3, hm3⟩ : ∃ m, m = min a3 c3 := ⟨_, rfl⟩
 rw [← hm0, ← hm1, ← hm2, ← hm3]
 by_cases c : m0 < m1
 ·have hd := decide_eq_true c
  go_enter Tryz.func148, Tryz.ntmps148
  go_wp2
  go_ret
  exact ⟨by first | (simp_all; done) | (simp_all; omega), by (repeat' first | exact Below.refl _ _ | assumption | (apply below_drewN) | (refine Below.setCell ?_ (by (try simp); (try omega)) _) | (refine Below.alloc ?_ (by (try simp); (try omega)) _) | (refine Below.trans ?_ (Below.mono (Hid.out (by assumption)) (by (try simp); (try omega)))))⟩
 ·have hd := decide_eq_false c
  go_enter Tryz.func148, Tryz.ntmps148
  go_wp2
  go_ret
  exact ⟨by first | (simp_all; done) | (simp_all; omega), by (repeat' first | exact Below.refl _ _ | assumption | (apply below_drewN) | (refine Below.setCell ?_ (by (try simp); (try omega)) _) | (refine Below.alloc ?_ (by (try simp); (try omega)) _) | (refine Below.trans ?_ (Below.mono (Hid.out (by assumption)) (by (try simp); (try omega)))))⟩
set_option maxHeartbeats 8000000 in
theorem num_any (n : Int) (w : World) : Calls Tryz.prog 74 #[.int .i64 n] w (BlIs (nB n) w) := by
 unfold nB
 by_cases c : 1 ≤ n
 ·have hd := decide_eq_true c
  rw [hd]
  go_enter Tryz.func74, Tryz.ntmps74
  go_wp2
  go_ret
  exact ⟨by simp, by (repeat' first | exact Below.refl _ _ | assumption | (apply below_drewN) | (refine Below.setCell ?_ (by (try simp); (try omega)) _) | (refine Below.alloc ?_ (by (try simp); (try omega)) _) | (refine Below.trans ?_ (Below.mono (Hid.out (by assumption)) (by (try simp); (try omega)))))⟩
 ·have hd := decide_eq_false c
  rw [hd]
  go_enter Tryz.func74, Tryz.ntmps74
  go_wp2
  go_ret
  exact ⟨by simp, by (repeat' first | exact Below.refl _ _ | assumption | (apply below_drewN) | (refine Below.setCell ?_ (by (try simp); (try omega)) _) | (refine Below.alloc ?_ (by (try simp); (try omega)) _) | (refine Below.trans ?_ (Below.mono (Hid.out (by assumption)) (by (try simp); (try omega)))))⟩
def oB (n : Int) : Bool := decide (0 ≤ n) && decide (n ≤ 1073741824)
set_option maxHeartbeats 8000000 in
theorem own_any (n : Int) (w : World) : Calls Tryz.prog 95 #[.int .i64 n] w (BlIs (oB n) w) := by
 unfold oB
 by_cases c : 0 ≤ n
 ·have hd := decide_eq_true c
  rw [hd]
  go_enter Tryz.func95, Tryz.ntmps95
  go_wp2
  go_ret
  exact ⟨by simp, by (repeat' first | exact Below.refl _ _ | assumption | (apply below_drewN) | (refine Below.setCell ?_ (by (try simp); (try omega)) _) | (refine Below.alloc ?_ (by (try simp); (try omega)) _) | (refine Below.trans ?_ (Below.mono (Hid.out (by assumption)) (by (try simp); (try omega)))))⟩
 ·have hd := decide_eq_false c
  rw [hd]
  go_enter Tryz.func95, Tryz.ntmps95
  go_wp2
  go_ret
  exact ⟨by simp, by (repeat' first | exact Below.refl _ _ | assumption | (apply below_drewN) | (refine Below.setCell ?_ (by (try simp); (try omega)) _) | (refine Below.alloc ?_ (by (try simp); (try omega)) _) | (refine Below.trans ?_ (Below.mono (Hid.out (by assumption)) (by (try simp); (try omega)))))⟩
noncomputable def oneB (a : List Rc) : Bool := @decide (RegP a ∧ (partsR a).length = 1) (Classical.propDecidable _)
theorem parts_len {A : Option Addr} {cap : Nat} {a : List Rc} {w : World} (h : RIn w A cap a) : ∃ n : Nat, oneB a = decide (n = 1) ∧ Calls Tryz.prog 133 #[.slice A a.length cap] w fun e w' => ∃ A' c', e = .returned (.slice A' n c') ∧ Below w.heap.size w w' := by
 by_cases hr : RegP a
 ·refine ⟨(partsR a).length, by unfold oneB; rw [decide_eq_decide]; exact ⟨fun h => h.2, fun h => ⟨hr, h⟩⟩, (gparts_any A cap a w h hr).mono ?_⟩
  rintro e w' ⟨vp, Vs, rfl, hown, _, hb⟩
  obtain ⟨_, h2⟩ := hown
  rcases h2 with ⟨rfl, h3⟩ | ⟨g, cap, cur, rfl, _, _, _⟩
  ·exact ⟨none, 0, by rw [h3], hb⟩
  ·exact ⟨_, _, rfl, hb⟩
 ·refine ⟨0, by unfold oneB; rw [decide_eq_decide]; exact ⟨fun h => absurd h.1 hr, fun h => absurd h (by omega)⟩, (gparts_no A cap a w h hr).mono ?_⟩
  rintro e w' ⟨rfl, hb⟩
  exact ⟨none, 0, rfl, hb⟩
theorem one_any (A : Option Addr) (cap : Nat) (a : List Rc) (w : World) (h : RIn w A cap a) : Calls Tryz.prog 78 #[.slice A a.length cap] w (BlIs (oneB a) w) := by
 obtain ⟨n, hn, hc⟩ := parts_len h
 rw [hn]
 have HC := Lib.hid hc
 clear h hn hc
 go_enter Tryz.func78, Tryz.ntmps78
 go_wp2_with fail
 refine HC.out.mono ?_
 rintro e w1 ⟨A', c', rfl, hb⟩
 have HB := Lib.hid hb; clear hb HC
 go_wp2_with fail
 go_ret
 refine ⟨?_, HB.out⟩
 by_cases c : n = 1
 ·subst c; rfl
 ·have : ¬ (n : Int) = 1 := by omega
  simp [c, this]
theorem eg_mcc : ∀ args w, (callFunc 148 args).run Tryz.prog w = .ok (.enter 148 args) w := enters_of Tryz.func148 (by kernel_rfl) rfl
theorem eg_mc : ∀ args w, (callFunc 147 args).run Tryz.prog w = .ok (.enter 147 args) w := enters_of Tryz.func147 (by kernel_rfl) rfl
set_option maxHeartbeats 8000000 in
theorem meetC_any (r : Rc) (b : List Rc) (B : Option Addr) (cb pb : Nat) (w : World) (h : RIn w B cb b) (hp : w.cell? ⟨pb, 0, none⟩ = some (.slice B b.length cb)) (hpl : pb < w.heap.size) :
  Calls Tryz.prog 147 #[.agg #[.int .i64 r.X0, .int .i64 r.Y0, .int .i64 r.X1, .int .i64 r.Y1], .pointer (some ⟨pb, 0, none⟩)] w (BlIs (b.any (mtR r)) w) := by
 have HB := Lib.hid h; clear h
 have HC : Hid (∀ w' br, Below w.heap.size w w' → RcC w' br r → Calls Tryz.prog 67 #[.slice B b.length cb, .func (.func 148) #[] #[.pointer (some ⟨br, 0, none⟩)]] w' (BlIs (b.any (mtR r)) w')) := Lib.hid (fun w' br hb hr => rcf_any 148 eg_mcc #[.pointer (some ⟨br, 0, none⟩)] (mtR r) B cb b w' (HB.out.below hb) (fun j hj w2 hb2 => meetCC_any r b[j] br w2 (hr.below hb2)))
 have HN := Lib.hid (RcC.new w r w.heap.size rfl)
 generalize b.any (mtR r) = z at *
 go_enter Tryz.func147, Tryz.ntmps147
 go_wp2_with fail
 refine (HC.out _ _ (by (repeat' first | exact Below.refl _ _ | assumption | (apply below_drewN) | (refine Below.setCell ?_ (by (try simp); (try omega)) _) | (refine Below.alloc ?_ (by (try simp); (try omega)) _) | (refine Below.trans ?_ (Below.mono (Hid.out (by assumption)) (by (try simp); (try omega)))))) ?_).mono ?_
 ·first | exact HN.out | exact HN.out.below (by (repeat' first | exact Below.refl _ _ | assumption | (apply below_drewN) | (refine Below.setCell ?_ (by (try simp); (try omega)) _) | (refine Below.alloc ?_ (by (try simp); (try omega)) _) | (refine Below.trans ?_ (Below.mono (Hid.out (by assumption)) (by (try simp); (try omega))))))
 rintro e w1 ⟨rfl, hb⟩
 have HB1 := Lib.hid hb; clear hb
 go_wp2_with fail
 go_ret
 exact ⟨rfl, by (repeat' first | exact Below.refl _ _ | assumption | (apply below_drewN) | (refine Below.setCell ?_ (by (try simp); (try omega)) _) | (refine Below.alloc ?_ (by (try simp); (try omega)) _) | (refine Below.trans ?_ (Below.mono (Hid.out (by assumption)) (by (try simp); (try omega)))))⟩
set_option maxHeartbeats 8000000 in
theorem meet13_any (A : Option Addr) (ca : Nat) (B : Option Addr) (cb : Nat) (a b : List Rc) (w : World) (ha : RIn w A ca a) (hb : RIn w B cb b) : Calls Tryz.prog 94 #[.slice A a.length ca, .slice B b.length cb] w (BlIs (mtB a b) w) := by
 rw [mtB_any]
 have HA := Lib.hid ha; have HB := Lib.hid hb; clear ha hb
 have HC : Hid (∀ w' pb, Below w.heap.size w w' → w'.cell? ⟨pb, 0, none⟩ = some (.slice B b.length cb) → pb < w'.heap.size → Calls Tryz.prog 67 #[.slice A a.length ca, .func (.func 147) #[] #[.pointer (some ⟨pb, 0, none⟩)]] w' (BlIs (a.any fun r => b.any (mtR r)) w')) := Lib.hid (fun w' pb hb h1 h2 => rcf_any 147 eg_mc #[.pointer (some ⟨pb, 0, none⟩)] (fun r => b.any (mtR r)) A ca a w' (HA.out.below hb) (fun j hj w2 hb2 => meetC_any a[j] b B cb pb w2 ((HB.out.below hb).below hb2) ((hb2.cell (p := ⟨pb, 0, none⟩) h2).trans h1) (Nat.lt_of_lt_of_le h2 hb2.size)))
 generalize (a.any fun r => b.any (mtR r)) = z at *
 go_enter Tryz.func94, Tryz.ntmps94
 go_wp2_with fail
 refine (HC.out _ _ (by (repeat' first | exact Below.refl _ _ | assumption | (apply below_drewN) | (refine Below.setCell ?_ (by (try simp); (try omega)) _) | (refine Below.alloc ?_ (by (try simp); (try omega)) _) | (refine Below.trans ?_ (Below.mono (Hid.out (by assumption)) (by (try simp); (try omega)))))) ?_ ?_).mono ?_
 ·first | (rw [Lib.cell_of_heap (heap_alloc_new w _)]; rfl) | (simp; done)
 ·simp
 rintro e w1 ⟨rfl, hb⟩
 have HB1 := Lib.hid hb; clear hb
 go_wp2_with fail
 go_ret
 exact ⟨rfl, by (repeat' first | exact Below.refl _ _ | assumption | (apply below_drewN) | (refine Below.setCell ?_ (by (try simp); (try omega)) _) | (refine Below.alloc ?_ (by (try simp); (try omega)) _) | (refine Below.trans ?_ (Below.mono (Hid.out (by assumption)) (by (try simp); (try omega)))))⟩
end Go.Proofs.YtngddecpfhlilaaGreat
namespace Go.Proofs.YtngddecpfhlilaaGreat
open Go.RowKit
set_option maxHeartbeats 4000000 in
theorem bofC_any (bl : Nat) (A : Option Addr) (cap : Nat) (l : List Bx) (z : Int) (w : World) (hc : w.cell? ⟨bl, 0, none⟩ = some (.slice A l.length cap)) (hbl : bl < w.heap.size) (h : BxRow w A l) (hok : ∀ b ∈ l, BOk b) (hl : l.length ≤ 200) :
  Calls Tryz.prog 88 #[.int .i64 z, .pointer (some ⟨bl, 0, none⟩)] w (ResIs (capR (secB l z)) w) := by
 have HB := Lib.hid (bbases_any A cap l z w h (by omega))
 have hbl2 := bases_len l z
 have EQ : Hid (ofR (basesB l z) = capR (secB l z)) := Lib.hid (by unfold ofR secB; rw [if_pos (bases_ok hok z), if_pos (by omega)])
 have HG := Lib.hid (fun (A' : Option Addr) (c' : Nat) (w' : World) (hr : RRow w' A' (basesB l z)) => gof_any A' c' (basesB l z) w' hr (by omega))
 clear h hok hl hbl2
 go_enter Tryz.func88, Tryz.ntmps88
 go_wp2_with fail
 refine HB.out.mono ?_
 rintro e1 w1 ⟨v1, rfl, ho1, hb1⟩
 obtain ⟨A1, c1, rfl, hr1, _⟩ := own_rects ho1
 have HB1 := Lib.hid hb1
 have HG1 := Lib.hid (HG.out A1 c1 w1 hr1)
 rw [EQ.out] at HG1
 clear ho1 hr1 hb1 HG HB EQ
 generalize (basesB l z).length = nn at *
 go_wp2_with fail
 refine HG1.out.mono ?_
 rintro e w3 hf
 obtain ⟨A3, c3, rfl, h2, h3⟩ := hf.parts
 have HR : Hid (ResIs (capR (secB l z)) w (.returned (.tuple #[.slice A3 (capR (secB l z)).1.length c3, .int .i64 (capR (secB l z)).2])) w3) := Lib.hid ⟨_, rfl, own_base h2 HB1.out.size, HB1.out.trans (h3.mono HB1.out.size)⟩
 clear hf h2 h3 HG1
 generalize (capR (secB l z)).1.length = n2 at *
 generalize (capR (secB l z)).2 = e2 at *
 go_wp2_with fail
 go_ret2
 exact HR.out
def Zx (bo ba bb K : Nat) (A1 : Option Addr) (n1 c1 : Nat) (A2 : Option Addr) (n2 c2 : Nat) (w0 w : World) : Prop := w.cell? ⟨bo, 0, none⟩ = some (.func (.func K) #[] #[]) ∧ w.cell? ⟨ba, 0, none⟩ = some (.slice A1 n1 c1) ∧ w.cell? ⟨bb, 0, none⟩ = some (.slice A2 n2 c2) ∧ bo < w.heap.size ∧ ba < w.heap.size ∧ bb < w.heap.size ∧ Hid (Below w0.heap.size w0 w)
theorem Zx.go {bo ba bb K : Nat} {A1 : Option Addr} {n1 c1 : Nat} {A2 : Option Addr} {n2 c2 : Nat} {w0 w w' : World} (h : Zx bo ba bb K A1 n1 c1 A2 n2 c2 w0 w) (hb : Below w.heap.size w w') : Zx bo ba bb K A1 n1 c1 A2 n2 c2 w0 w' := by
 obtain ⟨h0, h1, h2, h3, h4, h5, h8⟩ := h
 exact ⟨(hb.cell (p := ⟨bo, 0, none⟩) h3).trans h0, (hb.cell (p := ⟨ba, 0, none⟩) h4).trans h1, (hb.cell (p := ⟨bb, 0, none⟩) h5).trans h2, Nat.lt_of_lt_of_le h3 hb.size, Nat.lt_of_lt_of_le h4 hb.size, Nat.lt_of_lt_of_le h5 hb.size, Lib.hid (h8.out.trans (hb.mono h8.out.size))⟩
theorem Zx.drewN {bo ba bb K : Nat} {A1 : Option Addr} {n1 c1 : Nat} {A2 : Option Addr} {n2 c2 : Nat} {w0 w : World} (h : Zx bo ba bb K A1 n1 c1 A2 n2 c2 w0 w) (n : Nat) : Zx bo ba bb K A1 n1 c1 A2 n2 c2 w0 (w.drewN n) := h.go (below_drewN (Below.refl _ _) n)
end Go.Proofs.YtngddecpfhlilaaGreat
namespace Go.Proofs.YtngddecpfhlilaaGreat
open Go.RowKit Go.Lib
theorem take_two (X : List Int) (k : Nat) (h : k + 1 < X.length) : X.take (k + 1 + 1) = X.take k ++ [X[k]'(by omega), X[k + 1]] ∧ X.take (k + 1) = X.take k ++ [X[k]'(by omega)] := by
 have e1 : X.take (k + 1) = X.take k ++ [X[k]'(by omega)] := List.take_succ_eq_append_getElem (by omega)
 have e2 : X.take (k + 1 + 1) = X.take (k + 1) ++ [X[k + 1]] := List.take_succ_eq_append_getElem h
 exact ⟨by rw [e2, e1, List.append_assoc]; rfl, e1⟩
theorem solGo_next (sec : Int → List Rc) (X : List Int) (k : Nat) (h : k + 1 < X.length) : solGo sec [] (X.take (k + 1 + 1)) = joinS (solGo sec [] (X.take (k + 1))) ⟨X[k]'(by omega), X[k + 1], sec (X[k]'(by omega))⟩ := by
 obtain ⟨e1, e2⟩ := take_two X k h
 rw [e1, e2, solGo_step]
theorem solGo_pre (sec : Int → List Rc) (X : List Int) (k : Nat) (h : k < X.length) : (solGo sec [] (X.take (k + 1))).length ≤ (solGo sec [] X).length := by
 have e : X = X.take k ++ X[k] :: X.drop (k + 1) := by rw [← List.drop_eq_getElem_cons h, List.take_append_drop]
 have e2 : solGo sec [] X = solGo sec (solGo sec [] (X.take k ++ [X[k]])) (X[k] :: X.drop (k + 1)) := by
  conv => lhs; rw [e]
  exact solGo_app sec _ _ _ _
 rw [e2, List.take_succ_eq_append_getElem h]
 exact (solGo_len sec _ _).1
def Fx (g k : Nat) (x y : Int) (w0 w : World) : Prop := w.cell? ⟨g, k, none⟩ = some (.int .i64 x) ∧ w.cell? ⟨g, k + 1, none⟩ = some (.int .i64 y) ∧ g < w0.heap.size ∧ g < w.heap.size ∧ Hid (Below w0.heap.size w0 w)
theorem Fx.go {g k : Nat} {x y : Int} {w0 w w' : World} (h : Fx g k x y w0 w) (hb : Below w0.heap.size w w') : Fx g k x y w0 w' := by
 obtain ⟨h0, h1, h2, h3, h4⟩ := h
 exact ⟨(hb.cell (p := ⟨g, k, none⟩) h2).trans h0, (hb.cell (p := ⟨g, k + 1, none⟩) h2).trans h1, h2, Nat.lt_of_lt_of_le h3 hb.size, Lib.hid (h4.out.trans hb)⟩
theorem Fx.drewN {g k : Nat} {x y : Int} {w0 w : World} (h : Fx g k x y w0 w) (n : Nat) : Fx g k x y w0 (w.drewN n) := h.go (below_drewN (Below.refl _ _) n)
theorem Fx.of {g k : Nat} {x y : Int} {w0 w' : World} (h : Fx g k x y w0 w0) (hb : Below w0.heap.size w0 w') : Fx g k x y w0 w' := h.go hb
theorem capS_big {sec : Int → List Rc} {X : List Int} (hf : ∀ z, IsForm (sec z)) (hA : Asc X) (hZ : InZ X) (hC : Chg sec X) {z : Int} (h : 200 < (sec z).length) : capS (solGo sec [] X) = ([], 6) := by
 obtain ⟨_, k⟩ := sol_is hf hA hZ hC
 have hne : secS (solGo sec [] X) z ≠ [] := by rw [k]; intro e; rw [e] at h; simp at h
 obtain ⟨s, hs, _, _, e⟩ := sec_mem hne
 exact capS_no (Or.inr ⟨s, hs, by rw [e, k]; exact h⟩)
set_option maxHeartbeats 40000000 in
theorem bform_ne (W : World) (K : Nat) (caps : Array Value) (eg : ∀ args w, (callFunc K args).run Tryz.prog w = .ok (.enter K args) w) (sec : Int → List Rc) (hs : List Int) (g cap : Nat) (w : World)
    (hf : ∀ z, IsForm (sec z)) (hZ : InZ hs) (hC : Chg sec hs) (hK : ∀ z w', Below W.heap.size W w' → Calls Tryz.prog K (#[.int .i64 z] ++ caps) w' (ResIs (capR (sec z)) w'))
    (own : w.ownsRow W.heap.size 3 1 (.slice (some ⟨g, 0, none⟩) hs.length cap) hs.length (icells hs)) (hb : Below W.heap.size W w) (hl : hs.length ≤ 100000) (h0 : 0 < hs.length) :
    Calls Tryz.prog 87 #[.slice (some ⟨g, 0, none⟩) hs.length cap, .func (.func K) #[] caps] w (SolRes (capS (solGo sec [] (sortS hs))) W) := by
  have HSORT := Lib.hid (gsort_holds W.heap.size g cap hs w own (by omega))
  have HF := Lib.hid hf; have HZ := Lib.hid hZ; have HC := Lib.hid hC; have HK := Lib.hid hK
  have hg0 := (own.lt g rfl).1
  have hg1 := (own.lt g rfl).2
  have hcap : hs.length ≤ cap := by
    have := own.2
    rcases this with ⟨e, _⟩ | ⟨g', cap', cur, e, _, _, h4⟩
    · cases e
    · injection e with _ _ e3; rw [e3]; exact h4.1
  have HBW := Lib.hid hb
  clear hf hZ hC hK own hb
  go_enter Tryz.func87, Tryz.ntmps87
  go_wp2_with fail
  refine HSORT.out.mono ?_
  rintro e w1 ⟨rfl, S, hp, hsrt, hH, hgr1⟩
  have hSl := hp.length_eq
  have HB1 := Lib.hid (Below.grown HBW.out hgr1 HBW.out.size (fun k hk => by cases hk; exact hg0))
  have HCP := Lib.hid (ycompact_any g cap S w1 hH (Nat.lt_of_lt_of_le hg1 hgr1.size) hsrt (by omega) (by omega))
  obtain ⟨X, hX⟩ : ∃ X, X = Lib.compact S := ⟨_, rfl⟩
  rw [← hX] at HCP
  rw [hSl] at HCP
  have HXA : Hid (Asc X ∧ (∀ z, z ∈ X ↔ z ∈ hs)) := Lib.hid (by
    obtain ⟨k1, k2, _⟩ := compact_is hsrt
    rw [hX]; exact ⟨k1, fun z => by rw [k2]; exact hp.mem_iff⟩)
  have hXl : X.length ≤ hs.length := by rw [hX, ← hSl]; exact (compact_is hsrt).2.2
  have hX0 : 0 < X.length := by
    have hm : hs[0] ∈ X := (HXA.out.2 _).2 (List.getElem_mem h0)
    exact List.length_pos_of_mem hm
  have HXE : Hid (sortS hs = X) := Lib.hid (by
    obtain ⟨s1, s2⟩ := sortS_is hs
    exact asc_eq s1 HXA.out.1 (fun z => by rw [s2, HXA.out.2]))
  have HXZ : Hid (InZ X) := Lib.hid (fun x hx => HZ.out x ((HXA.out.2 x).1 hx))
  have HXC : Hid (Chg sec X) := Lib.hid (HC.out.of (fun z => (HXA.out.2 z).symm))
  have hgw1 : g < w1.heap.size := Nat.lt_of_lt_of_le hg1 hgr1.size
  clear hp hsrt hH hgr1 hX hSl HSORT HC HZ
  go_wp2_with fail
  refine HCP.out.mono ?_
  rintro e w2 ⟨rfl, hxc, hgr2⟩
  have HB2 := Lib.hid (Below.grown HB1.out hgr2 HB1.out.size (fun k hk => by cases hk; exact hg0))
  have hg2 : g < w2.heap.size := Nat.lt_of_lt_of_le hgw1 hgr2.size
  have HXCL := Lib.hid hxc
  clear hgr2 hxc HCP HB1 HBW
  have K0 : Hid (SW (.slice none 0 0) [] w2 w2) := Lib.hid (SW.nil w2)
  have T0 : Hid (svS [] = solGo sec [] (X.take (0 + 1))) := Lib.hid (by
    obtain ⟨a, Y, rfl⟩ : ∃ a Y, X = a :: Y := by
      cases X with
      | nil => simp at hX0
      | cons a Y => exact ⟨a, Y, rfl⟩
    rfl)
  go_wp2_with fail
  go_loopw [6, 7] (fun v i wr => ∃ (k : Nat) (L : List SlV) (v0 : Value), k + 1 ≤ X.length ∧ i = .int .i64 ((k : Int) + 1) ∧ v0 = v ∧ Hid (svS L = solGo sec [] (X.take (k + 1))) ∧ Hid (SW v0 L w2 wr) ∧ L.length ≤ 80 ∧ Hid (∀ t ∈ L, t.s.ar.length ≤ 200)) (fun _ i _ => X.length - (intOf i).toNat)
  case atStart => exact ⟨0, [], _, by omega, rfl, rfl, T0, K0, by simp, Lib.hid (fun t ht => by cases ht)⟩
  case round =>
    clear K0 T0
    obtain ⟨k, L, v, hk, rfl, rfl, HT, HS, hL, HLA⟩ := hrel
    have hbs := HS.out.bel.size
    by_cases hlt : k + 1 < X.length
    · have xc := HXCL.out k (by omega)
      have xd := HXCL.out (k + 1) hlt
      have E00 : Hid (Fx g k (X[k]'(by omega)) X[k + 1] w2 w2) := Lib.hid ⟨xc, xd, hg2, hg2, Lib.hid (Below.refl _ _)⟩
      have E0 : Hid (Fx g k (X[k]'(by omega)) X[k + 1] w2 wr) := Lib.hid (E00.out.of HS.out.bel)
      have HNX := Lib.hid (solGo_next sec X k hlt)
      have HPRE := Lib.hid (solGo_pre sec X (k + 1) hlt)
      have BIG : Hid (200 < (sec (X[k]'(by omega))).length → capS (solGo sec [] X) = ([], 6)) := Lib.hid (fun h => capS_big HF.out HXA.out.1 HXZ.out HXC.out h)
      have HKK := Lib.hid (HK.out (X[k]'(by omega)))
      have r1 : IntKind.i64.wrap (k : Int) = (k : Int) := IntWalk.i64_in _ (by omega)
      have m0 : (0 : Int) ≤ (k : Int) := by omega
      have m1 : (k : Int) < (X.length : Int) := by omega
      have m2 : (k : Int) + 1 < (X.length : Int) := by omega
      have m3 : (0 : Int) ≤ (k : Int) + 1 := by omega
      clear xc xd
      obtain ⟨a, ha⟩ : ∃ a, a = X[k]'(by omega) := ⟨_, rfl⟩
      obtain ⟨b, hb⟩ : ∃ b, b = X[k + 1] := ⟨_, rfl⟩
      rw [← ha, ← hb] at E00 E0 HNX
      rw [← ha] at BIG HKK
      clear ha hb
      have HB := Lib.hid (HB2.out.trans (HS.out.bel.mono HB2.out.size))
      obtain ⟨x0, x1, _, xg, _⟩ := E0.out
      have HKW := Lib.hid (HKK.out wr HB.out)
      go_wp2_with fail
      refine HKW.out.mono ?_
      by_cases h200 : (sec a).length ≤ 200
      · rw [show capR (sec a) = (sec a, 0) from cap_le h200]
        intro e w3 hres
        obtain ⟨A3, c3, rfl, ho3, hb3⟩ := hres.parts
        simp only at ho3
        have HS3 := Lib.hid (HS.out.go hb3)
        have E3 : Hid (Fx g k a b w2 w3) := Lib.hid (E00.out.of HS3.out.bel)
        have HJ : Hid (Calls Tryz.prog 141 #[v, .agg #[.int .i64 a, .int .i64 b, .slice A3 (sec a).length c3]] w3.drew (JoinIs L ⟨⟨a, b, sec a⟩, A3, c3⟩ w2 w3.drew)) := Lib.hid (by
          have hd : Below w3.heap.size w3 w3.drew := (Below.refl _ _).drew
          exact bjoin_any L v ⟨⟨a, b, sec a⟩, A3, c3⟩ w2 w3.drew (HS3.out.go hd) (own_go (own_base ho3 hbs) hd) hL HLA.out h200)
        have HL2 : Hid (∀ L' : List SlV, svS L' = joinS (svS L) ⟨a, b, sec a⟩ → (∀ t ∈ L', t.s.ar.length ≤ 200) ∧ svS L' = solGo sec [] (X.take (k + 1 + 1))) := Lib.hid (fun L' hj => ⟨fun t ht => by
            have hm : t.s ∈ joinS (svS L) ⟨a, b, sec a⟩ := by rw [← hj]; exact List.mem_map_of_mem ht
            rcases join_mem hm with e | ⟨u, hu, e⟩
            · rw [e]; exact h200
            · obtain ⟨q, hq, rfl⟩ := List.mem_map.1 hu
              rw [← e]; exact HLA.out q hq, by rw [HNX.out, ← HT.out, hj]⟩)
        clear hres ho3 hb3 h200 BIG HKK HKW HS HLA HT HNX E0 x0 x1 xg
        obtain ⟨x0, x1, _, xg, _⟩ := E3.out
        generalize (sec a).length = na at *
        go_wp2_with fail
        go_region_held3 (fun w' => w'.cell? ⟨g, k, none⟩ = some (.int .i64 a) ∧ w'.cell? ⟨g, k + 1, none⟩ = some (.int .i64 b) ∧ g < w2.heap.size ∧ g < w'.heap.size ∧ Hid (Below w2.heap.size w2 w'))
          (first | exact E3.out | exact Fx.drewN E3.out 1 | exact Fx.of E00.out (SW.bel ‹_›) | assumption)
          (first | (go_at_call 141; refine HJ.out.mono ?_; rintro e w' ⟨v', L', rfl, hj, hsw⟩) | fail)
        obtain ⟨hla2, ht2⟩ := HL2.out L' hj
        have HT2 := Lib.hid ht2; have HLA2 := Lib.hid hla2
        obtain ⟨A', c', rfl, _, _, _⟩ := hsw.cells
        have HSW := Lib.hid hsw
        clear hj hsw hla2 ht2 HL2 HJ E3 HS3 E00
        by_cases h80 : 80 < L'.length
        · have s1 : (80 : Int) < (L'.length : Int) := by omega
          have FIN : Hid (SolRes (capS (solGo sec [] (sortS hs))) W (.returned (.tuple #[.slice none 0 0, .int .i64 6])) w') := Lib.hid (by
            have hl2 : L'.length = (svS L').length := (svS_len L').symm
            rw [HXE.out, capS_no (Or.inl (by have := HPRE.out; rw [← HT2.out, ← hl2] at this; omega))]
            exact ⟨none, 0, rfl, SIn.nil _, HB2.out.trans (HSW.out.bel.mono HB2.out.size)⟩)
          clear HPRE HT2 HLA2 h80
          go_wp2_with fail
          go_ret2
          exact FIN.out
        · have s1 : ¬ (80 : Int) < (L'.length : Int) := by omega
          clear HPRE
          go_wp2_with fail
          go_roundw
          case rel => exact ⟨k + 1, L', _, by omega, by go_num, rfl, HT2, HSW, by omega, HLA2⟩
          case measure => simp [intOf]; omega
      · rw [show capR (sec a) = ([], 6) from if_neg h200]
        intro e w3 hres
        obtain ⟨A3, c3, rfl, ho3, hb3⟩ := hres.parts
        have FIN : Hid (SolRes (capS (solGo sec [] (sortS hs))) W (.returned (.tuple #[.slice none 0 0, .int .i64 6])) w3) := Lib.hid (by
          rw [HXE.out, BIG.out (by omega)]
          exact ⟨none, 0, rfl, SIn.nil _, (HB.out.trans (hb3.mono HB.out.size))⟩)
        clear hres ho3 hb3 h200 BIG HKK HKW HS HLA HT HNX E0 E00 x0 x1 xg HPRE
        simp only [List.length_nil]
        go_wp2_with fail
        go_ret2
        exact FIN.out
    · have hkx : k + 1 = X.length := by omega
      obtain ⟨A', c', hv, _, _, _⟩ := HS.out.cells
      have FIN : Hid (SolRes (capS (solGo sec [] (sortS hs))) W (.returned (.tuple #[v, .int .i64 0])) wr) := Lib.hid (by
        obtain ⟨A2, c2, e2, h2⟩ := HS.out.sin (by omega) (fun t ht => by have := HLA.out t ht; omega)
        have e3 : solGo sec [] X = svS L := by
          have := HT.out
          rw [hkx, List.take_length] at this; exact this.symm
        have e4 : capS (svS L) = (svS L, 0) := capS_yes (by rw [svS_len]; exact hL) (fun s hs => by
          obtain ⟨q, hq, rfl⟩ := List.mem_map.1 hs
          exact HLA.out q hq)
        rw [HXE.out, e3, e4]
        exact ⟨A2, c2, by rw [e2], h2, HB2.out.trans (HS.out.bel.mono HB2.out.size)⟩)
      subst hv
      have m2 : ¬ ((k : Int) + 1 < (X.length : Int)) := by omega
      clear HS HT HLA hkx hlt
      go_wp2_with fail
      go_ret2
      exact FIN.out
set_option maxHeartbeats 4000000 in
theorem bform_nil (W : World) (K : Nat) (caps : Array Value) (sec : Int → List Rc) (A : Option Addr) (cap : Nat) (w : World) (hb : Below W.heap.size W w) :
  Calls Tryz.prog 87 #[.slice A 0 cap, .func (.func K) #[] caps] w (SolRes (capS (solGo sec [] (sortS []))) W) := by
 have HS := Lib.hid (gsort_none A cap w)
 have HC := Lib.hid (fun w' => ycompact_none A cap w')
 have HB := Lib.hid hb
 have FIN : Hid (SolRes (capS (solGo sec [] (sortS []))) W (.returned (.tuple #[.slice none 0 0, .int .i64 0])) w) := Lib.hid ⟨none, 0, rfl, SIn.nil _, hb⟩
 clear hb
 go_enter Tryz.func87, Tryz.ntmps87
 go_wp2_with fail
 refine HS.out.mono ?_
 rintro e w1 ⟨rfl, rfl⟩
 go_wp2_with fail
 refine (HC.out _).mono ?_
 rintro e w2 ⟨rfl, rfl⟩
 go_wp2_with fail
 go_loopw [6, 7] (fun v i wr => v = .slice none 0 0 ∧ i = .int .i64 1 ∧ wr = w2) (fun _ i _ => 0)
 case atStart => exact ⟨rfl, rfl, rfl⟩
 case round =>
  obtain ⟨rfl, rfl, rfl⟩ := hrel
  go_wp2_with fail
  go_ret2
  exact FIN.out
theorem bform_any (W : World) (K : Nat) (caps : Array Value) (eg : ∀ args w, (callFunc K args).run Tryz.prog w = .ok (.enter K args) w) (sec : Int → List Rc) (hs : List Int) (vh : Value) (w : World)
  (hf : ∀ z, IsForm (sec z)) (hZ : InZ hs) (hC : Chg sec hs) (hK : ∀ z w', Below W.heap.size W w' → Calls Tryz.prog K (#[.int .i64 z] ++ caps) w' (ResIs (capR (sec z)) w'))
  (own : w.ownsRow W.heap.size 3 1 vh hs.length (icells hs)) (hb : Below W.heap.size W w) (hl : hs.length ≤ 100000) :
  Calls Tryz.prog 87 #[vh, .func (.func K) #[] caps] w (SolRes (capS (solGo sec [] (sortS hs))) W) := by
 obtain ⟨A, cap, rfl, hA⟩ := own_parts own
 rcases Nat.eq_zero_or_pos hs.length with h0 | h0
 ·obtain rfl := List.length_eq_zero_iff.1 h0
  exact bform_nil W K caps sec A cap w hb
 ·obtain ⟨g, rfl, _⟩ := hA h0
  exact bform_ne W K caps eg sec hs g cap w hf hZ hC hK own hb hl h0
theorem SolRes.base {x : List Sl × Int} {w0 w w' : World} {e : Ending} (h : SolRes x w e w') (hb : Below w0.heap.size w0 w) : SolRes x w0 e w' := by
 obtain ⟨A, c, rfl, h1, h2⟩ := h
 exact ⟨A, c, rfl, h1, hb.trans (h2.mono hb.size)⟩
end Go.Proofs.YtngddecpfhlilaaGreat
