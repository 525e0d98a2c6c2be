/-
  Contracts of the program's layer 6 (11): Of, both, Union, Common, Minus.
  Contracts of the program's layer 6 (12): both, Union, Common, Minus; Area.
  Contracts of the program's layer 6 (14): Same, with slices.Equal.
-/
import Derived.Test.YtngddecpfhlilaaGreatC10
import Derived.Test.YtngddecpfhlilaaGreatC00
import Derived.Test.YtngddecpfhlilaaGreatC01
import Derived.Laws.StructEq
set_option linter.unusedVariables false
set_option maxRecDepth 100000
namespace Go.Proofs.YtngddecpfhlilaaGreat
open Go.RowKit
def kpOf (c : List Int) : Bool := decide (0 < c.getD 0 0)
def kpU (c : List Int) : Bool := decide (0 < c.getD 0 0) || decide (0 < c.getD 1 0)
def kpC (c : List Int) : Bool := decide (0 < c.getD 0 0) && decide (0 < c.getD 1 0)
def kpM (c : List Int) : Bool := decide (0 < c.getD 0 0) && decide (c.getD 1 0 = 0)
theorem keepOf : KeepOk 65 kpOf 1 := by
 intro w A cap c hr hl
 match c, hl with
 | [x], _ =>
  obtain ⟨b, o, rfl, hb, hc⟩ := hr (by simp)
  have y0 := hc 0 (by simp)
  simp only [List.getElem_cons_zero, Nat.add_zero] at y0
  show Calls Tryz.prog 65 _ w (BlIs (decide (0 < x)) w)
  clear hc hr
  by_cases h : 0 < x
  ·have d : decide (0 < x) = true := decide_eq_true h
   rw [d]
   go_enter Tryz.func65, Tryz.ntmps65
   go_wp2
   go_ret
   exact ⟨rfl, by (repeat' first | exact Below.refl _ _ | assumption | (apply below_drewN) | (refine Below.setCell ?_ (by (try simp); (try omega)) _) | (refine Below.alloc ?_ (by (try simp); (try omega)) _) | (refine Below.trans ?_ (Below.mono (Hid.out (by assumption)) (by (try simp); (try omega)))))⟩
  ·have d : decide (0 < x) = false := decide_eq_false h
   rw [d]
   go_enter Tryz.func65, Tryz.ntmps65
   go_wp2
   go_ret
   exact ⟨rfl, by (repeat' first | exact Below.refl _ _ | assumption | (apply below_drewN) | (refine Below.setCell ?_ (by (try simp); (try omega)) _) | (refine Below.alloc ?_ (by (try simp); (try omega)) _) | (refine Below.trans ?_ (Below.mono (Hid.out (by assumption)) (by (try simp); (try omega)))))⟩
set_option maxHeartbeats 4000000 in
theorem keepU : KeepOk 81 kpU 2 := by
 intro w A cap c hr hl
 match c, hl with
 | [x, y], _ =>
  obtain ⟨b, o, rfl, hb, hc⟩ := hr (by simp)
  have y0 := hc 0 (by simp)
  have y1 := hc 1 (by simp)
  simp only [List.getElem_cons_zero, List.getElem_cons_succ, Nat.add_zero] at y0 y1
  show Calls Tryz.prog 81 _ w (BlIs (decide (0 < x) || decide (0 < y)) w)
  clear hc hr
  by_cases h : 0 < x
  ·have d : decide (0 < x) = true := decide_eq_true h
   by_cases h2 : 0 < y
   ·have d2 : decide (0 < y) = true := decide_eq_true h2
    rw [d, d2]
    go_enter Tryz.func81, Tryz.ntmps81
    go_wp2
    go_ret
    exact ⟨rfl, by (repeat' first | exact Below.refl _ _ | assumption | (apply below_drewN) | (refine Below.setCell ?_ (by (try simp); (try omega)) _) | (refine Below.alloc ?_ (by (try simp); (try omega)) _) | (refine Below.trans ?_ (Below.mono (Hid.out (by assumption)) (by (try simp); (try omega)))))⟩
   ·have d2 : decide (0 < y) = false := decide_eq_false h2
    rw [d, d2]
    go_enter Tryz.func81, Tryz.ntmps81
    go_wp2
    go_ret
    exact ⟨rfl, by (repeat' first | exact Below.refl _ _ | assumption | (apply below_drewN) | (refine Below.setCell ?_ (by (try simp); (try omega)) _) | (refine Below.alloc ?_ (by (try simp); (try omega)) _) | (refine Below.trans ?_ (Below.mono (Hid.out (by assumption)) (by (try simp); (try omega)))))⟩
  ·have d : decide (0 < x) = false := decide_eq_false h
   by_cases h2 : 0 < y
   ·have d2 : decide (0 < y) = true := decide_eq_true h2
    rw [d, d2]
    go_enter Tryz.func81, Tryz.ntmps81
    go_wp2
    go_ret
    exact ⟨rfl, by (repeat' first | exact Below.refl _ _ | assumption | (apply below_drewN) | (refine Below.setCell ?_ (by (try simp); (try omega)) _) | (refine Below.alloc ?_ (by (try simp); (try omega)) _) | (refine Below.trans ?_ (Below.mono (Hid.out (by assumption)) (by (try simp); (try omega)))))⟩
   ·have d2 : decide (0 < y) = false := decide_eq_false h2
    rw [d, d2]
    go_enter Tryz.func81, Tryz.ntmps81
    go_wp2
    go_ret
    exact ⟨rfl, by (repeat' first | exact Below.refl _ _ | assumption | (apply below_drewN) | (refine Below.setCell ?_ (by (try simp); (try omega)) _) | (refine Below.alloc ?_ (by (try simp); (try omega)) _) | (refine Below.trans ?_ (Below.mono (Hid.out (by assumption)) (by (try simp); (try omega)))))⟩
set_option maxHeartbeats 4000000 in
theorem keepC : KeepOk 73 kpC 2 := by
 intro w A cap c hr hl
 match c, hl with
 | [x, y], _ =>
  obtain ⟨b, o, rfl, hb, hc⟩ := hr (by simp)
  have y0 := hc 0 (by simp)
  have y1 := hc 1 (by simp)
  simp only [List.getElem_cons_zero, List.getElem_cons_succ, Nat.add_zero] at y0 y1
  show Calls Tryz.prog 73 _ w (BlIs (decide (0 < x) && decide (0 < y)) w)
  clear hc hr
  by_cases h : 0 < x
  ·have d : decide (0 < x) = true := decide_eq_true h
   by_cases h2 : 0 < y
   ·have d2 : decide (0 < y) = true := decide_eq_true h2
    rw [d, d2]
    go_enter Tryz.func73, Tryz.ntmps73
    go_wp2
    go_ret
    exact ⟨rfl, by (repeat' first | exact Below.refl _ _ | assumption | (apply below_drewN) | (refine Below.setCell ?_ (by (try simp); (try omega)) _) | (refine Below.alloc ?_ (by (try simp); (try omega)) _) | (refine Below.trans ?_ (Below.mono (Hid.out (by assumption)) (by (try simp); (try omega)))))⟩
   ·have d2 : decide (0 < y) = false := decide_eq_false h2
    rw [d, d2]
    go_enter Tryz.func73, Tryz.ntmps73
    go_wp2
    go_ret
    exact ⟨rfl, by (repeat' first | exact Below.refl _ _ | assumption | (apply below_drewN) | (refine Below.setCell ?_ (by (try simp); (try omega)) _) | (refine Below.alloc ?_ (by (try simp); (try omega)) _) | (refine Below.trans ?_ (Below.mono (Hid.out (by assumption)) (by (try simp); (try omega)))))⟩
  ·have d : decide (0 < x) = false := decide_eq_false h
   by_cases h2 : 0 < y
   ·have d2 : decide (0 < y) = true := decide_eq_true h2
    rw [d, d2]
    go_enter Tryz.func73, Tryz.ntmps73
    go_wp2
    go_ret
    exact ⟨rfl, by (repeat' first | exact Below.refl _ _ | assumption | (apply below_drewN) | (refine Below.setCell ?_ (by (try simp); (try omega)) _) | (refine Below.alloc ?_ (by (try simp); (try omega)) _) | (refine Below.trans ?_ (Below.mono (Hid.out (by assumption)) (by (try simp); (try omega)))))⟩
   ·have d2 : decide (0 < y) = false := decide_eq_false h2
    rw [d, d2]
    go_enter Tryz.func73, Tryz.ntmps73
    go_wp2
    go_ret
    exact ⟨rfl, by (repeat' first | exact Below.refl _ _ | assumption | (apply below_drewN) | (refine Below.setCell ?_ (by (try simp); (try omega)) _) | (refine Below.alloc ?_ (by (try simp); (try omega)) _) | (refine Below.trans ?_ (Below.mono (Hid.out (by assumption)) (by (try simp); (try omega)))))⟩
set_option maxHeartbeats 4000000 in
theorem keepM : KeepOk 132 kpM 2 := by
 intro w A cap c hr hl
 match c, hl with
 | [x, y], _ =>
  obtain ⟨b, o, rfl, hb, hc⟩ := hr (by simp)
  have y0 := hc 0 (by simp)
  have y1 := hc 1 (by simp)
  simp only [List.getElem_cons_zero, List.getElem_cons_succ, Nat.add_zero] at y0 y1
  show Calls Tryz.prog 132 _ w (BlIs (decide (0 < x) && decide (y = 0)) w)
  clear hc hr
  by_cases h : 0 < x
  ·have d : decide (0 < x) = true := decide_eq_true h
   by_cases h2 : y = 0
   ·have d2 : decide (y = 0) = true := decide_eq_true h2
    have d3 : (y == 0) = true := by simp [h2]
    rw [d, d2]
    go_enter Tryz.func132, Tryz.ntmps132
    go_wp2
    go_ret
    exact ⟨rfl, by (repeat' first | exact Below.refl _ _ | assumption | (apply below_drewN) | (refine Below.setCell ?_ (by (try simp); (try omega)) _) | (refine Below.alloc ?_ (by (try simp); (try omega)) _) | (refine Below.trans ?_ (Below.mono (Hid.out (by assumption)) (by (try simp); (try omega)))))⟩
   ·have d2 : decide (y = 0) = false := decide_eq_false h2
    have d3 : (y == 0) = false := by simp [h2]
    rw [d, d2]
    go_enter Tryz.func132, Tryz.ntmps132
    go_wp2
    go_ret
    exact ⟨rfl, by (repeat' first | exact Below.refl _ _ | assumption | (apply below_drewN) | (refine Below.setCell ?_ (by (try simp); (try omega)) _) | (refine Below.alloc ?_ (by (try simp); (try omega)) _) | (refine Below.trans ?_ (Below.mono (Hid.out (by assumption)) (by (try simp); (try omega)))))⟩
  ·have d : decide (0 < x) = false := decide_eq_false h
   by_cases h2 : y = 0
   ·have d2 : decide (y = 0) = true := decide_eq_true h2
    have d3 : (y == 0) = true := by simp [h2]
    rw [d, d2]
    go_enter Tryz.func132, Tryz.ntmps132
    go_wp2
    go_ret
    exact ⟨rfl, by (repeat' first | exact Below.refl _ _ | assumption | (apply below_drewN) | (refine Below.setCell ?_ (by (try simp); (try omega)) _) | (refine Below.alloc ?_ (by (try simp); (try omega)) _) | (refine Below.trans ?_ (Below.mono (Hid.out (by assumption)) (by (try simp); (try omega)))))⟩
   ·have d2 : decide (y = 0) = false := decide_eq_false h2
    have d3 : (y == 0) = false := by simp [h2]
    rw [d, d2]
    go_enter Tryz.func132, Tryz.ntmps132
    go_wp2
    go_ret
    exact ⟨rfl, by (repeat' first | exact Below.refl _ _ | assumption | (apply below_drewN) | (refine Below.setCell ?_ (by (try simp); (try omega)) _) | (refine Below.alloc ?_ (by (try simp); (try omega)) _) | (refine Below.trans ?_ (Below.mono (Hid.out (by assumption)) (by (try simp); (try omega)))))⟩
theorem eg_of : ∀ args w, (callFunc 65 args).run Tryz.prog w = .ok (.enter 65 args) w := enters_of Tryz.func65 (by kernel_rfl) rfl
theorem eg_u : ∀ args w, (callFunc 81 args).run Tryz.prog w = .ok (.enter 81 args) w := enters_of Tryz.func81 (by kernel_rfl) rfl
theorem eg_c : ∀ args w, (callFunc 73 args).run Tryz.prog w = .ok (.enter 73 args) w := enters_of Tryz.func73 (by kernel_rfl) rfl
theorem eg_m : ∀ args w, (callFunc 132 args).run Tryz.prog w = .ok (.enter 132 args) w := enters_of Tryz.func132 (by kernel_rfl) rfl
theorem zero_all : ZeroK kpOf 1 ∧ ZeroK kpU 2 ∧ ZeroK kpC 2 ∧ ZeroK kpM 2 := by unfold ZeroK; exact ⟨rfl, rfl, rfl, rfl⟩
theorem kept_of (l : List Rc) (x y : Int) : keptB kpOf [l] x y = true ↔ HasL l x y := by
 rw [← covN_pos]; simp [keptB, kpOf]
theorem covN_hasB (l : List Rc) (x y : Int) : decide (0 < covN l x y) = hasB l x y := by
 rw [Bool.eq_iff_iff, hasB_iff, ← covN_pos]; simp
theorem kept_u (a b : List Rc) (x y : Int) : keptB kpU [a, b] x y = (hasB a x y || hasB b x y) := by
 rw [← covN_hasB, ← covN_hasB]; rfl
theorem kept_c (a b : List Rc) (x y : Int) : keptB kpC [a, b] x y = (hasB a x y && hasB b x y) := by
 rw [← covN_hasB, ← covN_hasB]; rfl
theorem kept_m (a b : List Rc) (x y : Int) : keptB kpM [a, b] x y = andnot (hasB a x y) (hasB b x y) := by
 rw [← covN_hasB, ← covN_hasB]
 show (decide (0 < covN a x y) && decide (covN b x y = 0)) = (decide (0 < covN a x y) && !decide (0 < covN b x y))
 congr 1
 have := covN_nn b x y
 rw [Bool.eq_iff_iff]; simp; omega
def ResIs (x : List Rc × Int) (w : World) (e : Ending) (w' : World) : Prop := ∃ v, e = .returned (.tuple #[v, .int .i64 x.2]) ∧ w'.ownsRow w.heap.size 68 4 v x.1.length (rcells x.1) ∧ Below w.heap.size w w'
def capR (F : List Rc) : List Rc × Int := if F.length ≤ 200 then (F, 0) else ([], 6)
theorem FormRes.res {F : List Rc} {w0 w w' : World} {e : Ending} (h : FormRes F w e w') (hb : Below w0.heap.size w0 w) : ResIs (capR F) w0 e w' := by
 unfold capR
 rcases h with ⟨h1, v, rfl, h2, h3⟩ | ⟨h1, rfl, h3⟩
 ·rw [if_pos h1]; exact ⟨v, rfl, own_base h2 hb.size, hb.trans (h3.mono hb.size)⟩
 ·rw [if_neg (by omega)]; exact ⟨_, rfl, World.ownsRow_nil _ _ _ _, hb.trans (h3.mono hb.size)⟩
theorem ResIs.parts {x : List Rc × Int} {w : World} {e : Ending} {w' : World} (h : ResIs x w e w') : ∃ A cap, e = .returned (.tuple #[.slice A x.1.length cap, .int .i64 x.2]) ∧ w'.ownsRow w.heap.size 68 4 (.slice A x.1.length cap) x.1.length (rcells x.1) ∧ Below w.heap.size w w' := by
 obtain ⟨v, rfl, h1, h2⟩ := h
 have h1' := h1
 obtain ⟨A, cap, rfl, _⟩ := own_rects h1'
 exact ⟨A, cap, rfl, h1, h2⟩
instance (l : List Rc) : Decidable (∀ r ∈ l, ROk r) := List.decidableBAll (fun r => ROk r) l
def ofR (l : List Rc) : List Rc × Int := if ∀ r ∈ l, ROk r then (if l.length ≤ 400 then capR (formL l) else ([], 6)) else ([], 1)
set_option maxHeartbeats 16000000 in
theorem gof_any (A : Option Addr) (cap : Nat) (l : List Rc) (w : World) (h1 : RRow w A l) (hl : l.length ≤ 1099511627776) : Calls Tryz.prog 24 #[.slice A l.length cap] w (ResIs (ofR l) w) := by
 have H1 := Lib.hid h1; clear h1
 have HB0 := Lib.hid (Below.refl w.heap.size w)
 go_enter Tryz.func24, Tryz.ntmps24
 go_wp2
 go_loopw [8] (fun i wr => ∃ (k : Nat), k ≤ l.length ∧ i = .int .i64 k ∧ Hid (Below w.heap.size w wr) ∧ ∀ j (h : j < l.length), j < k → ROk l[j]) (fun i _ => l.length - (intOf i).toNat)
 case atStart => exact ⟨0, Nat.zero_le _, rfl, HB0, fun j h hj => absurd hj (Nat.not_lt_zero _)⟩
 case round =>
  clear HB0
  obtain ⟨k, hk, rfl, HB, ht⟩ := hrel
  have HT := Lib.hid ht; clear ht
  by_cases hlt : k < l.length
  ·obtain ⟨b1, o1, rfl, hb1, hv1⟩ := H1.out (by omega)
   obtain ⟨x0, x1, x2, x3⟩ := hv1 k hlt
   have wc := fun o => HB.out.cell (p := ⟨b1, o, none⟩) hb1
   have x0 := (wc _).trans x0; have x1 := (wc _).trans x1; have x2 := (wc _).trans x2; have x3 := (wc _).trans x3
   have hbw : b1 < wr.heap.size := Nat.lt_of_lt_of_le hb1 HB.out.size
   have hbs := HB.out.size
   clear hv1 wc
   have i0 : (0 : Int) ≤ (k : Int) := by omega
   have i1 : (k : Int) < (l.length : Int) := by omega
   obtain ⟨u, hu⟩ : ∃ u, u = l[k] := ⟨_, rfl⟩
   rw [← hu] at x0 x1 x2 x3
   have HU := Lib.hid hu; clear hu
   have hal : Below w.heap.size w (wr.alloc (.cells #[.int .i64 u.X0, .int .i64 u.Y0, .int .i64 u.X1, .int .i64 u.Y1] 68)) := HB.out.alloc HB.out.size _
   have HAL := Lib.hid hal; clear hal
   by_cases ok : ROk u
   ·have oa : rokB ⟨u.X0, u.Y0, u.X1, u.Y1⟩ = true := (rokB_iff u).2 ok
    have OK := Lib.hid ok; clear ok
    go_wp2_with fail
    refine (tright_nd _ _ _ _ _).mono ?_
    rw [oa]
    rintro e w1 ⟨rfl, hb⟩
    have HB1 := Lib.hid (HAL.out.trans (hb.mono HAL.out.size)); clear hb
    go_wp2_with fail
    go_roundw
    case rel => exact ⟨k + 1, by omega, by go_num, HB1, fun j h hj => by
     by_cases e : j < k
     ·exact HT.out j h e
     ·obtain rfl : j = k := by omega
      rw [← HU.out]; exact OK.out⟩
    case measure => simp [intOf]; omega
   ·have oa : rokB ⟨u.X0, u.Y0, u.X1, u.Y1⟩ = false := (rokB_no u).2 ok
    have NO : Hid (ofR l = ([], 1)) := Lib.hid (if_neg (fun h => ok (by rw [HU.out]; exact h _ (List.getElem_mem hlt))))
    clear ok
    go_wp2_with fail
    refine (tright_nd _ _ _ _ _).mono ?_
    rw [oa]
    rintro e w1 ⟨rfl, hb⟩
    have HB1 := Lib.hid (HAL.out.trans (hb.mono HAL.out.size)); clear hb
    go_wp2_with fail
    go_ret2
    exact ⟨.slice none 0 0, by rw [NO.out]; rfl, by rw [NO.out]; exact World.ownsRow_nil _ _ _ _, HB1.out⟩
  ·obtain rfl : k = l.length := by omega
   have HALL : Hid (∀ r ∈ l, ROk r) := Lib.hid (fun r hr => by
    obtain ⟨j, hj, rfl⟩ := List.mem_iff_getElem.1 hr
    exact HT.out j hj hj)
   clear HT
   by_cases hbig : 400 < l.length
   ·have s1 : (400 : Int) < (l.length : Int) := by omega
    have NO : Hid (ofR l = ([], 6)) := Lib.hid (by unfold ofR; rw [if_pos HALL.out, if_neg (by omega)])
    clear hbig
    go_wp2_with fail
    go_ret2
    exact ⟨.slice none 0 0, by rw [NO.out]; rfl, by rw [NO.out]; exact World.ownsRow_nil _ _ _ _, HB.out⟩
   ·have s1 : ¬ (400 : Int) < (l.length : Int) := by omega
    have EQ : Hid (ofR l = capR (formL l)) := Lib.hid (by unfold ofR; rw [if_pos HALL.out, if_pos (by omega)])
    have HFORM : Hid (Calls Tryz.prog 64 #[.func (.func 65) #[] #[], .slice (some ⟨wr.heap.size, 0, none⟩) 1 1] (wr.alloc (.cells #[.slice A l.length cap] 30)) (FormRes (formL l) (wr.alloc (.cells #[.slice A l.length cap] 30)))) := Lib.hid (by
     obtain ⟨f1, f2⟩ := formL_is HALL.out
     refine gform1 65 eg_of kpOf [l] (formL l) _ _ _ rfl keepOf zero_all.1 (fun _ => ⟨wr.heap.size, 0, rfl, by simp, fun j hj => ?_⟩) (fun l' hl' r hr => ?_) (by simp [total]; omega) f1 (fun x y => by rw [f2, kept_of])
     ·obtain rfl : j = 0 := by simp at hj; omega
      exact ⟨A, cap, by simp, H1.out.below (HB.out.alloc HB.out.size _)⟩
     ·rw [List.mem_singleton] at hl'; subst hl'; exact HALL.out r hr)
    have HB2 := Lib.hid (HB.out.alloc HB.out.size (.cells #[.slice A l.length cap] 30))
    clear hbig
    go_wp2_with fail
    refine HFORM.out.mono ?_
    rintro e w1 hf
    obtain ⟨A2, c2, rfl, h2, h3⟩ := (hf.res HB2.out).parts
    have HR : Hid (ResIs (ofR l) w (.returned (.tuple #[.slice A2 (capR (formL l)).1.length c2, .int .i64 (capR (formL l)).2])) w1) := Lib.hid (by rw [EQ.out]; exact ⟨_, rfl, h2, h3⟩)
    clear hf h2 h3 HFORM
    generalize (capR (formL l)).1.length = n2 at *
    generalize (capR (formL l)).2 = e2 at *
    go_wp2_with fail
    go_ret2
    exact HR.out
end Go.Proofs.YtngddecpfhlilaaGreat
namespace Go.Proofs.YtngddecpfhlilaaGreat
open Go.RowKit
noncomputable instance (l : List Rc) : Decidable (RegP l) := Classical.propDecidable _
noncomputable def opR (op : Bool → Bool → Bool) (a b : List Rc) : List Rc × Int := if RegP a ∧ RegP b then capR (formO op a b) else ([], 1)
theorem gright_yes (A : Option Addr) (cap : Nat) (l : List Rc) (w : World) (h1 : RRow w A l) (hl : l.length ≤ 1099511627776) (hcap : l.length ≤ cap) (hcap2 : cap ≤ 9223372036854775807) (h : RegP l) : Calls Tryz.prog 66 #[.slice A l.length cap] w (BlIs true w) :=
 (gright_any A cap l w h1 hl hcap hcap2).mono fun e w' ⟨b, hb, h'⟩ => by obtain rfl := hb.2 h; exact h'
theorem gright_no (A : Option Addr) (cap : Nat) (l : List Rc) (w : World) (h1 : RRow w A l) (hl : l.length ≤ 1099511627776) (hcap : l.length ≤ cap) (hcap2 : cap ≤ 9223372036854775807) (h : ¬ RegP l) : Calls Tryz.prog 66 #[.slice A l.length cap] w (BlIs false w) :=
 (gright_any A cap l w h1 hl hcap hcap2).mono fun e w' ⟨b, hb, h'⟩ => by
  cases b with
  | false => exact h'
  | true => exact absurd (hb.1 rfl) h
structure RIn (w : World) (A : Option Addr) (cap : Nat) (l : List Rc) : Prop where
 row : RRow w A l
 len : l.length ≤ 1099511627776
 room : l.length ≤ cap
 room2 : cap ≤ 9223372036854775807
theorem RIn.below {w w' : World} {A : Option Addr} {cap : Nat} {l : List Rc} (h : RIn w A cap l) (hb : Below w.heap.size w w') : RIn w' A cap l := ⟨h.row.below hb, h.len, h.room, h.room2⟩
set_option maxHeartbeats 16000000 in
theorem gboth_any (K : Nat) (eg : ∀ args w, (callFunc K args).run Tryz.prog w = .ok (.enter K args) w) (kp : List Int → Bool) (op : Bool → Bool → Bool) (hkp : KeepOk K kp 2) (h0 : ZeroK kp 2) (hop : op false false = false) (hk : ∀ a b x y, keptB kp [a, b] x y = op (hasB a x y) (hasB b x y))
  (A1 : Option Addr) (c1 : Nat) (A2 : Option Addr) (c2 : Nat) (a b : List Rc) (w : World) (ha : RIn w A1 c1 a) (hb : RIn w A2 c2 b) :
  Calls Tryz.prog 72 #[.slice A1 a.length c1, .slice A2 b.length c2, .func (.func K) #[] #[]] w (ResIs (opR op a b) w) := by
 have HA := Lib.hid ha; have HB := Lib.hid hb
 clear ha hb
 by_cases ra : RegP a
 ·have RA := Lib.hid (fun w' (h : Below w.heap.size w w') => gright_yes A1 c1 a w' (HA.out.below h).row HA.out.len HA.out.room HA.out.room2 ra)
  by_cases rb : RegP b
  ·have RB := Lib.hid (fun w' (h : Below w.heap.size w w') => gright_yes A2 c2 b w' (HB.out.below h).row HB.out.len HB.out.room HB.out.room2 rb)
   have EQ : Hid (opR op a b = capR (formO op a b)) := Lib.hid (if_pos ⟨ra, rb⟩)
   have HFORM : Hid (∀ w', Below w.heap.size w w' → Calls Tryz.prog 64 #[.func (.func K) #[] #[], .slice (some ⟨w'.heap.size, 0, none⟩) 2 2] (w'.alloc (.cells #[.slice A1 a.length c1, .slice A2 b.length c2] 30)) (FormRes (formO op a b) (w'.alloc (.cells #[.slice A1 a.length c1, .slice A2 b.length c2] 30)))) := Lib.hid (fun w' hbel => by
    obtain ⟨f1, f2⟩ := formO_is hop (form_ok ra.1) (form_ok rb.1)
    have hbz := hbel.alloc hbel.size (.cells #[.slice A1 a.length c1, .slice A2 b.length c2] 30)
    refine gform2 K eg kp [a, b] (formO op a b) _ _ _ rfl hkp h0 (fun _ => ⟨w'.heap.size, 0, rfl, by simp, fun j hj => ?_⟩) (fun l' hl' r hr => ?_) (by have := ra.2; have := rb.2; simp [total]; omega) f1 (fun x y => by rw [f2, hk])
    ·match j, hj with
     | 0, _ => exact ⟨A1, c1, by simp, HA.out.row.below hbz⟩
     | 1, _ => exact ⟨A2, c2, by simp, HB.out.row.below hbz⟩
    ·simp only [List.mem_cons, List.not_mem_nil, or_false] at hl'
     rcases hl' with rfl | rfl
     ·exact form_ok ra.1 r hr
     ·exact form_ok rb.1 r hr)
   clear ra rb
   go_enter Tryz.func72, Tryz.ntmps72
   go_wp2_with fail
   refine (RA.out _ (Below.refl _ _)).mono ?_
   rintro e1 w1 ⟨rfl, hb1⟩
   have HB1 := Lib.hid hb1; clear hb1
   go_wp2_with fail
   refine (RB.out _ HB1.out).mono ?_
   rintro e2 w2 ⟨rfl, hb2⟩
   have HB2 := Lib.hid (HB1.out.trans (hb2.mono HB1.out.size)); clear hb2 HB1
   go_wp2_with fail
   refine (HFORM.out _ HB2.out).mono ?_
   rintro e w3 hf
   obtain ⟨A3, c3, rfl, h2, h3⟩ := (hf.res (HB2.out.alloc HB2.out.size _)).parts
   have HR : Hid (ResIs (opR op a b) w (.returned (.tuple #[.slice A3 (capR (formO op a b)).1.length c3, .int .i64 (capR (formO op a b)).2])) w3) := Lib.hid (by rw [EQ.out]; exact ⟨_, rfl, h2, h3⟩)
   clear hf h2 h3 HFORM RA RB
   generalize (capR (formO op a b)).1.length = n2 at *
   generalize (capR (formO op a b)).2 = e2 at *
   go_wp2_with fail
   go_ret2
   exact HR.out
  ·have RB := Lib.hid (fun w' (h : Below w.heap.size w w') => gright_no A2 c2 b w' (HB.out.below h).row HB.out.len HB.out.room HB.out.room2 rb)
   have EQ : Hid (opR op a b = ([], 1)) := Lib.hid (if_neg (fun h => rb h.2))
   clear ra rb
   go_enter Tryz.func72, Tryz.ntmps72
   go_wp2_with fail
   refine (RA.out _ (Below.refl _ _)).mono ?_
   rintro e1 w1 ⟨rfl, hb1⟩
   have HB1 := Lib.hid hb1; clear hb1
   go_wp2_with fail
   refine (RB.out _ HB1.out).mono ?_
   rintro e2 w2 ⟨rfl, hb2⟩
   have HB2 := Lib.hid (HB1.out.trans (hb2.mono HB1.out.size)); clear hb2 HB1
   go_wp2_with fail
   go_ret2
   exact ⟨.slice none 0 0, by rw [EQ.out]; rfl, by rw [EQ.out]; exact World.ownsRow_nil _ _ _ _, HB2.out⟩
 ·have RA := Lib.hid (fun w' (h : Below w.heap.size w w') => gright_no A1 c1 a w' (HA.out.below h).row HA.out.len HA.out.room HA.out.room2 ra)
  have EQ : Hid (opR op a b = ([], 1)) := Lib.hid (if_neg (fun h => ra h.1))
  clear ra
  go_enter Tryz.func72, Tryz.ntmps72
  go_wp2_with fail
  refine (RA.out _ (Below.refl _ _)).mono ?_
  rintro e1 w1 ⟨rfl, hb1⟩
  have HB1 := Lib.hid hb1; clear hb1
  go_wp2_with fail
  go_ret2
  exact ⟨.slice none 0 0, by rw [EQ.out]; rfl, by rw [EQ.out]; exact World.ownsRow_nil _ _ _ _, HB1.out⟩
set_option maxHeartbeats 4000000 in
theorem gunion_any (A1 : Option Addr) (c1 : Nat) (A2 : Option Addr) (c2 : Nat) (a b : List Rc) (w : World) (ha : RIn w A1 c1 a) (hb : RIn w A2 c2 b) :
  Calls Tryz.prog 33 #[.slice A1 a.length c1, .slice A2 b.length c2] w (ResIs (opR or a b) w) := by
 have HC := Lib.hid (gboth_any 81 eg_u kpU or keepU zero_all.2.1 rfl (fun a b x y => kept_u a b x y) A1 c1 A2 c2 a b w ha hb)
 clear ha hb
 go_enter Tryz.func33, Tryz.ntmps33
 go_wp2_with fail
 refine HC.out.mono ?_
 rintro e w3 hf
 obtain ⟨A3, c3, rfl, h2, h3⟩ := hf.parts
 have HR : Hid (ResIs (opR or a b) w (.returned (.tuple #[.slice A3 (opR or a b).1.length c3, .int .i64 (opR or a b).2])) w3) := Lib.hid ⟨_, rfl, h2, h3⟩
 clear hf h2 h3 HC
 generalize (opR or a b).1.length = n2 at *
 generalize (opR or a b).2 = e2 at *
 go_wp2_with fail
 go_ret2
 exact HR.out
set_option maxHeartbeats 4000000 in
theorem gcommon_any (A1 : Option Addr) (c1 : Nat) (A2 : Option Addr) (c2 : Nat) (a b : List Rc) (w : World) (ha : RIn w A1 c1 a) (hb : RIn w A2 c2 b) :
  Calls Tryz.prog 30 #[.slice A1 a.length c1, .slice A2 b.length c2] w (ResIs (opR and a b) w) := by
 have HC := Lib.hid (gboth_any 73 eg_c kpC and keepC zero_all.2.2.1 rfl (fun a b x y => kept_c a b x y) A1 c1 A2 c2 a b w ha hb)
 clear ha hb
 go_enter Tryz.func30, Tryz.ntmps30
 go_wp2_with fail
 refine HC.out.mono ?_
 rintro e w3 hf
 obtain ⟨A3, c3, rfl, h2, h3⟩ := hf.parts
 have HR : Hid (ResIs (opR and a b) w (.returned (.tuple #[.slice A3 (opR and a b).1.length c3, .int .i64 (opR and a b).2])) w3) := Lib.hid ⟨_, rfl, h2, h3⟩
 clear hf h2 h3 HC
 generalize (opR and a b).1.length = n2 at *
 generalize (opR and a b).2 = e2 at *
 go_wp2_with fail
 go_ret2
 exact HR.out
set_option maxHeartbeats 4000000 in
theorem gminus_any (A1 : Option Addr) (c1 : Nat) (A2 : Option Addr) (c2 : Nat) (a b : List Rc) (w : World) (ha : RIn w A1 c1 a) (hb : RIn w A2 c2 b) :
  Calls Tryz.prog 77 #[.slice A1 a.length c1, .slice A2 b.length c2] w (ResIs (opR andnot a b) w) := by
 have HC := Lib.hid (gboth_any 132 eg_m kpM andnot keepM zero_all.2.2.2 rfl (fun a b x y => kept_m a b x y) A1 c1 A2 c2 a b w ha hb)
 clear ha hb
 go_enter Tryz.func77, Tryz.ntmps77
 go_wp2_with fail
 refine HC.out.mono ?_
 rintro e w3 hf
 obtain ⟨A3, c3, rfl, h2, h3⟩ := hf.parts
 have HR : Hid (ResIs (opR andnot a b) w (.returned (.tuple #[.slice A3 (opR andnot a b).1.length c3, .int .i64 (opR andnot a b).2])) w3) := Lib.hid ⟨_, rfl, h2, h3⟩
 clear hf h2 h3 HC
 generalize (opR andnot a b).1.length = n2 at *
 generalize (opR andnot a b).2 = e2 at *
 go_wp2_with fail
 go_ret2
 exact HR.out
theorem areaL_bd : ∀ l : List Rc, 0 ≤ areaL l ∧ areaL l ≤ l.length * 1099511627776 := by
 intro l
 induction l with
 | nil => simp [areaL]
 | cons r l ih =>
  have h1 := area_nn r; have h2 := area_bd r
  have e : areaL (r :: l) = areaR r + areaL l := rfl
  rw [e, List.length_cons]
  omega
set_option maxHeartbeats 16000000 in
theorem garea_yes (A : Option Addr) (cap : Nat) (l : List Rc) (w : World) (h : RIn w A cap l) (hr : RegP l) : Calls Tryz.prog 27 #[.slice A l.length cap] w (InIs (areaL l) w) := by
 have RA := Lib.hid (gright_yes A cap l w h.row h.len h.room h.room2 hr)
 have H := Lib.hid h
 have HOK := Lib.hid (form_ok hr.1)
 have hlen := hr.2
 clear h hr
 go_enter Tryz.func27, Tryz.ntmps27
 go_wp2_with fail
 refine RA.out.mono ?_
 rintro e1 w1 ⟨rfl, hb1⟩
 have HB1 := Lib.hid hb1; clear hb1 RA
 go_wp2_with fail
 go_loopw [3, 11] (fun s i wr => ∃ k : Nat, k ≤ l.length ∧ i = .int .i64 k ∧ s = .int .i64 (areaL (l.take k)) ∧ Hid (Below w.heap.size w wr)) (fun _ i _ => l.length - (intOf i).toNat)
 case atStart => exact ⟨0, Nat.zero_le _, rfl, rfl, HB1⟩
 case round =>
  clear HB1
  obtain ⟨k, hk, rfl, rfl, HB⟩ := hrel
  by_cases hlt : k < l.length
  ·obtain ⟨b1, o1, rfl, hb1, hv1⟩ := H.out.row (by omega)
   obtain ⟨x0, x1, x2, x3⟩ := hv1 k hlt
   have wc := fun o => HB.out.cell (p := ⟨b1, o, none⟩) hb1
   have x0 := (wc _).trans x0; have x1 := (wc _).trans x1; have x2 := (wc _).trans x2; have x3 := (wc _).trans x3
   have hbw : b1 < wr.heap.size := Nat.lt_of_lt_of_le hb1 HB.out.size
   have hbs := HB.out.size
   clear hv1 wc
   have i0 : (0 : Int) ≤ (k : Int) := by omega
   have i1 : (k : Int) < (l.length : Int) := by omega
   have hok := HOK.out _ (List.getElem_mem hlt)
   have hin : InR l[k] := by have := hok.grid; unfold GridR at this; unfold InR In64; omega
   have HNX : Hid (areaL (l.take (k + 1)) = areaL (l.take k) + areaR l[k]) := Lib.hid (by rw [List.take_succ_eq_append_getElem hlt, areaL_append]; simp [areaL])
   have hb0 := areaL_bd (l.take k)
   have hb2 := area_bd l[k]
   have hb3 := area_nn l[k]
   have hkl : (l.take k).length = k := by rw [List.length_take]; omega
   rw [hkl] at hb0
   obtain ⟨hb4, hb5⟩ := hb0
   have hb6 : areaL (l.take k) ≤ 219902325555200 := by omega
   have HAR := Lib.hid (fun w' => tarea_any l[k] hin w')
   have hal : Below w.heap.size w (wr.alloc (.cells #[.int .i64 l[k].X0, .int .i64 l[k].Y0, .int .i64 l[k].X1, .int .i64 l[k].Y1] 68)) := HB.out.alloc HB.out.size _
   have HAL := Lib.hid hal
   clear hal hok hin hkl hb5
   generalize areaL (l.take k) = sm at *
   generalize areaR l[k] = ar at *
   go_wp2_with fail
   refine (HAR.out _).mono ?_
   rintro e w1 ⟨rfl, hb⟩
   have HB1 := Lib.hid (HAL.out.trans (hb.mono HAL.out.size)); clear hb
   have q1 : IntKind.i64.wrap (sm + ar) = sm + ar := IntWalk.i64_in _ (by omega)
   go_wp2_with fail
   go_roundw
   case rel => exact ⟨k + 1, by omega, by go_num, by rw [HNX.out], HB1⟩
   case measure => simp [intOf]; omega
  ·obtain rfl : k = l.length := by omega
   rw [List.take_length]
   generalize areaL l = ar at *
   go_wp2_with fail
   go_ret
   exact ⟨rfl, HB.out⟩
end Go.Proofs.YtngddecpfhlilaaGreat
namespace Go.Proofs.YtngddecpfhlilaaGreat
open Go.RowKit
set_option maxHeartbeats 16000000 in
theorem geq_any (A1 : Option Addr) (c1 : Nat) (A2 : Option Addr) (c2 : Nat) (l m : List Rc) (w : World) (h1 : RRow w A1 l) (h2 : RRow w A2 m) (hl : l.length ≤ 1099511627776) (hm : m.length ≤ 1099511627776) :
  Calls Tryz.prog 71 #[.slice A1 l.length c1, .slice A2 m.length c2] w (BlIs (decide (l = m)) w) := by
 have H1 := Lib.hid h1; clear h1
 have H2 := Lib.hid h2; clear h2
 by_cases hlen : l.length = m.length
 ·have hll : ((l.length : Int) != (m.length : Int)) = false := by simp [hlen]
  go_enter Tryz.func71, Tryz.ntmps71
  go_wp2
  go_loopw [13] (fun i wr => ∃ (k q : Nat), k ≤ l.length ∧ i = .int .i64 k ∧ wr = w.drewN q ∧ l.take k = m.take k) (fun i _ => l.length - (intOf i).toNat)
  case atStart => exact ⟨0, 0, Nat.zero_le _, rfl, rfl, rfl⟩
  case round =>
   obtain ⟨k, q, hk, rfl, rfl, ht⟩ := hrel
   by_cases hlt : k < l.length
   ·obtain ⟨b1, o1, rfl, hb1, hv1⟩ := H1.out (by omega)
    obtain ⟨b2, o2, rfl, hb2, hv2⟩ := H2.out (by omega)
    obtain ⟨x0, x1, x2, x3⟩ := hv1 k hlt
    obtain ⟨y0, y1, y2, y3⟩ := hv2 k (by omega)
    have hk2 : k < m.length := by omega
    have HT := Lib.hid (take_eq_step hlt hk2 ht); clear ht
    have HNE : Hid (l[k] ≠ m[k] → l ≠ m) := Lib.hid (fun h e => h (by subst e; rfl))
    have i0 : (0 : Int) ≤ (k : Int) := by omega
    have i1 : (k : Int) < (l.length : Int) := by omega
    have i2 : (k : Int) < (m.length : Int) := by omega
    clear hv1 hv2
    generalize l[k] = u at *
    generalize m[k] = v at *
    rcases rc_parts (u := u) (v := v) with rfl | ⟨e, hd⟩
    ·have HT2 := Lib.hid (HT.out rfl); clear HT HNE
     go_wp2_with fail
     go_quiet (fail)
     go_wp2
     go_roundw
     case rel => exact ⟨k + 1, _, by omega, by go_num, rfl, HT2.out⟩
     case measure => simp [intOf]; omega
    ·have HN := Lib.hid (HNE.out e); clear HT HNE e
     rcases hd with d0 | ⟨d0, d1⟩ | ⟨d0, d1, d2⟩ | ⟨d0, d1, d2, d3⟩
     all_goals
      go_wp2_with fail
      go_quiet (fail)
      go_wp2
      go_ret
      exact ⟨by rw [decide_eq_false HN.out]; rfl, by (repeat' first | exact Below.refl _ _ | assumption | (apply below_drewN) | (refine Below.setCell ?_ (by (try simp); (try omega)) _) | (refine Below.alloc ?_ (by (try simp); (try omega)) _) | (refine Below.trans ?_ (Below.mono (Hid.out (by assumption)) (by (try simp); (try omega)))))⟩
   ·obtain rfl : k = l.length := by omega
    have he : l = m := by
     rw [List.take_length] at ht
     rw [ht, hlen, List.take_length]
    go_wp2
    go_ret
    exact ⟨by rw [decide_eq_true he]; rfl, by (repeat' first | exact Below.refl _ _ | assumption | (apply below_drewN) | (refine Below.setCell ?_ (by (try simp); (try omega)) _) | (refine Below.alloc ?_ (by (try simp); (try omega)) _) | (refine Below.trans ?_ (Below.mono (Hid.out (by assumption)) (by (try simp); (try omega)))))⟩
 ·have hll : ((l.length : Int) != (m.length : Int)) = true := by simp; omega
  rw [decide_eq_false (fun e => hlen (by rw [e]))]
  go_enter Tryz.func71, Tryz.ntmps71
  go_wp2
  go_ret
  exact ⟨rfl, by (repeat' first | exact Below.refl _ _ | assumption | (apply below_drewN) | (refine Below.setCell ?_ (by (try simp); (try omega)) _) | (refine Below.alloc ?_ (by (try simp); (try omega)) _) | (refine Below.trans ?_ (Below.mono (Hid.out (by assumption)) (by (try simp); (try omega)))))⟩
set_option maxHeartbeats 4000000 in
theorem gsame_any (A1 : Option Addr) (c1 : Nat) (A2 : Option Addr) (c2 : Nat) (l m : List Rc) (w : World) (h1 : RRow w A1 l) (h2 : RRow w A2 m) (hl : l.length ≤ 1099511627776) (hm : m.length ≤ 1099511627776) :
  Calls Tryz.prog 28 #[.slice A1 l.length c1, .slice A2 m.length c2] w (BlIs (decide (l = m)) w) := by
 have HE := Lib.hid (geq_any A1 c1 A2 c2 l m w h1 h2 hl hm); clear h1 h2
 generalize decide (l = m) = d at *
 go_enter Tryz.func28, Tryz.ntmps28
 go_wp2_with (go_at_call 71; refine HE.out.mono ?_; rintro e w1 ⟨rfl, hb⟩; have HBl := Lib.hid hb; clear hb)
 go_ret
 exact ⟨rfl, by (repeat' first | exact Below.refl _ _ | assumption | (apply below_drewN) | (refine Below.setCell ?_ (by (try simp); (try omega)) _) | (refine Below.alloc ?_ (by (try simp); (try omega)) _) | (refine Below.trans ?_ (Below.mono (Hid.out (by assumption)) (by (try simp); (try omega)))))⟩
end Go.Proofs.YtngddecpfhlilaaGreat
