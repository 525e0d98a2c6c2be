/-
  Contracts of the program's layer 6 (11): Of, both, Union, Common, Minus.
  Contracts of the program's layer 6 (12): both, Union, Common, Minus; Area.
  Contracts of the program's layer 6 (15): Bounds, staysIn.
-/
import Derived.Test.YtkjblmfmaenllaaGreatWz
import Derived.Test.YtkjblmfmaenllaaGreatRa
set_option linter.unusedVariables false
set_option maxRecDepth 100000
namespace Go.Proofs.YtkjblmfmaenllaaGreat
open Go.RowKit

def kpOf (c : List Int) : Bool := decide (0 < c.getD 0 0)
def kpU (c : List Int) : Bool := decide (0 < c.getD 0 0) || decide (0 < c.getD 1 0)
def kpC (c : List Int) : Bool := decide (0 < c.getD 0 0) && decide (0 < c.getD 1 0)
def kpM (c : List Int) : Bool := decide (0 < c.getD 0 0) && decide (c.getD 1 0 = 0)
theorem keepOf : KeepOk 99 kpOf 1 := by
  intro w A cap c hr hl
  match c, hl with
  | [x], _ =>
    obtain ⟨b, o, rfl, hb, hc⟩ := hr (by simp)
    have y0 := hc 0 (by simp)
    simp only [List.getElem_cons_zero, Nat.add_zero] at y0
    show Calls Tryz.prog 99 _ w (BlIs (decide (0 < x)) w)
    clear hc hr
    by_cases h : 0 < x
    · have d : decide (0 < x) = true := decide_eq_true h
      rw [d]
      go_enter Tryz.func99, Tryz.ntmps99
      go_wp2
      go_ret
      exact ⟨rfl, by (repeat' first | exact Below.refl _ _ | assumption | (apply below_drewN) | (refine Below.setCell ?_ (by (try simp); (try omega)) _) | (refine Below.alloc ?_ (by (try simp); (try omega)) _) | (refine Below.trans ?_ (Below.mono (Hid.out (by assumption)) (by (try simp); (try omega)))))⟩
    · have d : decide (0 < x) = false := decide_eq_false h
      rw [d]
      go_enter Tryz.func99, Tryz.ntmps99
      go_wp2
      go_ret
      exact ⟨rfl, by (repeat' first | exact Below.refl _ _ | assumption | (apply below_drewN) | (refine Below.setCell ?_ (by (try simp); (try omega)) _) | (refine Below.alloc ?_ (by (try simp); (try omega)) _) | (refine Below.trans ?_ (Below.mono (Hid.out (by assumption)) (by (try simp); (try omega)))))⟩
set_option maxHeartbeats 4000000 in
theorem keepM : KeepOk 117 kpM 2 := by
  intro w A cap c hr hl
  match c, hl with
  | [x, y], _ =>
    obtain ⟨b, o, rfl, hb, hc⟩ := hr (by simp)
    have y0 := hc 0 (by simp)
    have y1 := hc 1 (by simp)
    simp only [List.getElem_cons_zero, List.getElem_cons_succ, Nat.add_zero] at y0 y1
    show Calls Tryz.prog 117 _ w (BlIs (decide (0 < x) && decide (y = 0)) w)
    clear hc hr
    by_cases h : 0 < x
    · have d : decide (0 < x) = true := decide_eq_true h
      by_cases h2 : y = 0
      · have d2 : decide (y = 0) = true := decide_eq_true h2
        have d3 : (y == 0) = true := by simp [h2]
        rw [d, d2]
        go_enter Tryz.func117, Tryz.ntmps117
        go_wp2
        go_ret
        exact ⟨rfl, by (repeat' first | exact Below.refl _ _ | assumption | (apply below_drewN) | (refine Below.setCell ?_ (by (try simp); (try omega)) _) | (refine Below.alloc ?_ (by (try simp); (try omega)) _) | (refine Below.trans ?_ (Below.mono (Hid.out (by assumption)) (by (try simp); (try omega)))))⟩
      · have d2 : decide (y = 0) = false := decide_eq_false h2
        have d3 : (y == 0) = false := by simp [h2]
        rw [d, d2]
        go_enter Tryz.func117, Tryz.ntmps117
        go_wp2
        go_ret
        exact ⟨rfl, by (repeat' first | exact Below.refl _ _ | assumption | (apply below_drewN) | (refine Below.setCell ?_ (by (try simp); (try omega)) _) | (refine Below.alloc ?_ (by (try simp); (try omega)) _) | (refine Below.trans ?_ (Below.mono (Hid.out (by assumption)) (by (try simp); (try omega)))))⟩
    · have d : decide (0 < x) = false := decide_eq_false h
      by_cases h2 : y = 0
      · have d2 : decide (y = 0) = true := decide_eq_true h2
        have d3 : (y == 0) = true := by simp [h2]
        rw [d, d2]
        go_enter Tryz.func117, Tryz.ntmps117
        go_wp2
        go_ret
        exact ⟨rfl, by (repeat' first | exact Below.refl _ _ | assumption | (apply below_drewN) | (refine Below.setCell ?_ (by (try simp); (try omega)) _) | (refine Below.alloc ?_ (by (try simp); (try omega)) _) | (refine Below.trans ?_ (Below.mono (Hid.out (by assumption)) (by (try simp); (try omega)))))⟩
      · have d2 : decide (y = 0) = false := decide_eq_false h2
        have d3 : (y == 0) = false := by simp [h2]
        rw [d, d2]
        go_enter Tryz.func117, Tryz.ntmps117
        go_wp2
        go_ret
        exact ⟨rfl, by (repeat' first | exact Below.refl _ _ | assumption | (apply below_drewN) | (refine Below.setCell ?_ (by (try simp); (try omega)) _) | (refine Below.alloc ?_ (by (try simp); (try omega)) _) | (refine Below.trans ?_ (Below.mono (Hid.out (by assumption)) (by (try simp); (try omega)))))⟩
theorem eg_of : ∀ args w, (callFunc 99 args).run Tryz.prog w = .ok (.enter 99 args) w := enters_of Tryz.func99 (by kernel_rfl) rfl
theorem eg_m : ∀ args w, (callFunc 117 args).run Tryz.prog w = .ok (.enter 117 args) w := enters_of Tryz.func117 (by kernel_rfl) rfl
theorem zero_all : ZeroK kpOf 1 ∧ ZeroK kpU 2 ∧ ZeroK kpC 2 ∧ ZeroK kpM 2 := by unfold ZeroK; exact ⟨rfl, rfl, rfl, rfl⟩
theorem kept_of (l : List Rc) (x y : Int) : keptB kpOf [l] x y = true ↔ HasL l x y := by
  rw [← covN_pos]; simp [keptB, kpOf]
theorem covN_hasB (l : List Rc) (x y : Int) : decide (0 < covN l x y) = hasB l x y := by
  rw [Bool.eq_iff_iff, hasB_iff, ← covN_pos]; simp
theorem kept_m (a b : List Rc) (x y : Int) : keptB kpM [a, b] x y = andnot (hasB a x y) (hasB b x y) := by
  rw [← covN_hasB, ← covN_hasB]
  show (decide (0 < covN a x y) && decide (covN b x y = 0)) = (decide (0 < covN a x y) && !decide (0 < covN b x y))
  congr 1
  have := covN_nn b x y
  rw [Bool.eq_iff_iff]; simp; omega
/-- a region and an error. -/
def ResIs (x : List Rc × Int) (w : World) (e : Ending) (w' : World) : Prop := ∃ v, e = .returned (.tuple #[v, .int .i64 x.2]) ∧ w'.ownsRow w.heap.size 33 4 v x.1.length (rcells x.1) ∧ Below w.heap.size w w'
def capR (F : List Rc) : List Rc × Int := if F.length ≤ 200 then (F, 0) else ([], 6)
theorem FormRes.res {F : List Rc} {w0 w w' : World} {e : Ending} (h : FormRes F w e w') (hb : Below w0.heap.size w0 w) : ResIs (capR F) w0 e w' := by
  unfold capR
  rcases h with ⟨h1, v, rfl, h2, h3⟩ | ⟨h1, rfl, h3⟩
  · rw [if_pos h1]; exact ⟨v, rfl, own_base h2 hb.size, hb.trans (h3.mono hb.size)⟩
  · rw [if_neg (by omega)]; exact ⟨_, rfl, World.ownsRow_nil _ _ _ _, hb.trans (h3.mono hb.size)⟩
theorem ResIs.parts {x : List Rc × Int} {w : World} {e : Ending} {w' : World} (h : ResIs x w e w') : ∃ A cap, e = .returned (.tuple #[.slice A x.1.length cap, .int .i64 x.2]) ∧ w'.ownsRow w.heap.size 33 4 (.slice A x.1.length cap) x.1.length (rcells x.1) ∧ Below w.heap.size w w' := by
  obtain ⟨v, rfl, h1, h2⟩ := h
  have h1' := h1
  obtain ⟨A, cap, rfl, _⟩ := own_rects h1'
  exact ⟨A, cap, rfl, h1, h2⟩
instance (l : List Rc) : Decidable (∀ r ∈ l, ROk r) := List.decidableBAll (fun r => ROk r) l
def ofR (l : List Rc) : List Rc × Int := if ∀ r ∈ l, ROk r then (if l.length ≤ 400 then capR (formL l) else ([], 6)) else ([], 1)
set_option maxHeartbeats 16000000 in
theorem gof_any (A : Option Addr) (cap : Nat) (l : List Rc) (w : World) (h1 : RRow w A l) (hl : l.length ≤ 1099511627776) : Calls Tryz.prog 53 #[.slice A l.length cap] w (ResIs (ofR l) w) := by
  have H1 := Lib.hid h1; clear h1
  have HB0 := Lib.hid (Below.refl w.heap.size w)
  go_enter Tryz.func53, Tryz.ntmps53
  go_wp2
  go_loopw [8] (fun i wr => ∃ (k : Nat), k ≤ l.length ∧ i = .int .i64 k ∧ Hid (Below w.heap.size w wr) ∧ ∀ j (h : j < l.length), j < k → ROk l[j]) (fun i _ => l.length - (intOf i).toNat)
  case atStart => exact ⟨0, Nat.zero_le _, rfl, HB0, fun j h hj => absurd hj (Nat.not_lt_zero _)⟩
  case round =>
    clear HB0
    obtain ⟨k, hk, rfl, HB, ht⟩ := hrel
    have HT := Lib.hid ht; clear ht
    by_cases hlt : k < l.length
    · obtain ⟨b1, o1, rfl, hb1, hv1⟩ := H1.out (by omega)
      obtain ⟨x0, x1, x2, x3⟩ := hv1 k hlt
      have wc := fun o => HB.out.cell (p := ⟨b1, o, none⟩) hb1
      have x0 := (wc _).trans x0; have x1 := (wc _).trans x1; have x2 := (wc _).trans x2; have x3 := (wc _).trans x3
      have hbw : b1 < wr.heap.size := Nat.lt_of_lt_of_le hb1 HB.out.size
      have hbs := HB.out.size
      clear hv1 wc
      have i0 : (0 : Int) ≤ (k : Int) := by omega
      have i1 : (k : Int) < (l.length : Int) := by omega
      obtain ⟨u, hu⟩ : ∃ u, u = l[k] := ⟨_, rfl⟩
      rw [← hu] at x0 x1 x2 x3
      have HU := Lib.hid hu; clear hu
      have hal : Below w.heap.size w (wr.alloc (.cells #[.int .i64 u.X0, .int .i64 u.Y0, .int .i64 u.X1, .int .i64 u.Y1] 33)) := HB.out.alloc HB.out.size _
      have HAL := Lib.hid hal; clear hal
      by_cases ok : ROk u
      · have oa : rokB ⟨u.X0, u.Y0, u.X1, u.Y1⟩ = true := (rokB_iff u).2 ok
        have OK := Lib.hid ok; clear ok
        go_wp2_with fail
        refine (tright_nd _ _ _ _ _).mono ?_
        rw [oa]
        rintro e w1 ⟨rfl, hb⟩
        have HB1 := Lib.hid (HAL.out.trans (hb.mono HAL.out.size)); clear hb
        go_wp2_with fail
        go_roundw
        case rel => exact ⟨k + 1, by omega, by go_num, HB1, fun j h hj => by
          by_cases e : j < k
          · exact HT.out j h e
          · obtain rfl : j = k := by omega
            rw [← HU.out]; exact OK.out⟩
        case measure => simp [intOf]; omega
      · have oa : rokB ⟨u.X0, u.Y0, u.X1, u.Y1⟩ = false := (rokB_no u).2 ok
        have NO : Hid (ofR l = ([], 1)) := Lib.hid (if_neg (fun h => ok (by rw [HU.out]; exact h _ (List.getElem_mem hlt))))
        clear ok
        go_wp2_with fail
        refine (tright_nd _ _ _ _ _).mono ?_
        rw [oa]
        rintro e w1 ⟨rfl, hb⟩
        have HB1 := Lib.hid (HAL.out.trans (hb.mono HAL.out.size)); clear hb
        go_wp2_with fail
        go_ret2
        exact ⟨.slice none 0 0, by rw [NO.out]; rfl, by rw [NO.out]; exact World.ownsRow_nil _ _ _ _, HB1.out⟩
    · obtain rfl : k = l.length := by omega
      have HALL : Hid (∀ r ∈ l, ROk r) := Lib.hid (fun r hr => by
        obtain ⟨j, hj, rfl⟩ := List.mem_iff_getElem.1 hr
        exact HT.out j hj hj)
      clear HT
      by_cases hbig : 400 < l.length
      · have s1 : (400 : Int) < (l.length : Int) := by omega
        have NO : Hid (ofR l = ([], 6)) := Lib.hid (by unfold ofR; rw [if_pos HALL.out, if_neg (by omega)])
        clear hbig
        go_wp2_with fail
        go_ret2
        exact ⟨.slice none 0 0, by rw [NO.out]; rfl, by rw [NO.out]; exact World.ownsRow_nil _ _ _ _, HB.out⟩
      · have s1 : ¬ (400 : Int) < (l.length : Int) := by omega
        have EQ : Hid (ofR l = capR (formL l)) := Lib.hid (by unfold ofR; rw [if_pos HALL.out, if_pos (by omega)])
        have HFORM : Hid (Calls Tryz.prog 98 #[.func (.func 99) #[] #[], .slice (some ⟨wr.heap.size, 0, none⟩) 1 1] (wr.alloc (.cells #[.slice A l.length cap] 40)) (FormRes (formL l) (wr.alloc (.cells #[.slice A l.length cap] 40)))) := Lib.hid (by
          obtain ⟨f1, f2⟩ := formL_is HALL.out
          refine gform1 99 eg_of kpOf [l] (formL l) _ _ _ rfl keepOf zero_all.1 (fun _ => ⟨wr.heap.size, 0, rfl, by simp, fun j hj => ?_⟩) (fun l' hl' r hr => ?_) (by simp [total]; omega) f1 (fun x y => by rw [f2, kept_of])
          · obtain rfl : j = 0 := by simp at hj; omega
            exact ⟨A, cap, by simp, H1.out.below (HB.out.alloc HB.out.size _)⟩
          · rw [List.mem_singleton] at hl'; subst hl'; exact HALL.out r hr)
        have HB2 := Lib.hid (HB.out.alloc HB.out.size (.cells #[.slice A l.length cap] 40))
        clear hbig
        go_wp2_with fail
        refine HFORM.out.mono ?_
        rintro e w1 hf
        obtain ⟨A2, c2, rfl, h2, h3⟩ := (hf.res HB2.out).parts
        have HR : Hid (ResIs (ofR l) w (.returned (.tuple #[.slice A2 (capR (formL l)).1.length c2, .int .i64 (capR (formL l)).2])) w1) := Lib.hid (by rw [EQ.out]; exact ⟨_, rfl, h2, h3⟩)
        clear hf h2 h3 HFORM
        generalize (capR (formL l)).1.length = n2 at *
        generalize (capR (formL l)).2 = e2 at *
        go_wp2_with fail
        go_ret2
        exact HR.out
end Go.Proofs.YtkjblmfmaenllaaGreat
namespace Go.Proofs.YtkjblmfmaenllaaGreat
open Go.RowKit

noncomputable instance (l : List Rc) : Decidable (RegP l) := Classical.propDecidable _
noncomputable def opR (op : Bool → Bool → Bool) (a b : List Rc) : List Rc × Int := if RegP a ∧ RegP b then capR (formO op a b) else ([], 1)
theorem gright_yes (A : Option Addr) (cap : Nat) (l : List Rc) (w : World) (h1 : RRow w A l) (hl : l.length ≤ 1099511627776) (hcap : l.length ≤ cap) (hcap2 : cap ≤ 9223372036854775807) (h : RegP l) : Calls Tryz.prog 86 #[.slice A l.length cap] w (BlIs true w) :=
  (gright_any A cap l w h1 hl hcap hcap2).mono fun e w' ⟨b, hb, h'⟩ => by obtain rfl := hb.2 h; exact h'
theorem gright_no (A : Option Addr) (cap : Nat) (l : List Rc) (w : World) (h1 : RRow w A l) (hl : l.length ≤ 1099511627776) (hcap : l.length ≤ cap) (hcap2 : cap ≤ 9223372036854775807) (h : ¬ RegP l) : Calls Tryz.prog 86 #[.slice A l.length cap] w (BlIs false w) :=
  (gright_any A cap l w h1 hl hcap hcap2).mono fun e w' ⟨b, hb, h'⟩ => by
    cases b with
    | false => exact h'
    | true => exact absurd (hb.1 rfl) h
/-- a list at a slice, as contracts ask it. -/
structure RIn (w : World) (A : Option Addr) (cap : Nat) (l : List Rc) : Prop where
  row : RRow w A l
  len : l.length ≤ 1099511627776
  room : l.length ≤ cap
  room2 : cap ≤ 9223372036854775807
theorem RIn.below {w w' : World} {A : Option Addr} {cap : Nat} {l : List Rc} (h : RIn w A cap l) (hb : Below w.heap.size w w') : RIn w' A cap l := ⟨h.row.below hb, h.len, h.room, h.room2⟩
set_option maxHeartbeats 16000000 in
theorem gboth_any (K : Nat) (eg : ∀ args w, (callFunc K args).run Tryz.prog w = .ok (.enter K args) w) (kp : List Int → Bool) (op : Bool → Bool → Bool) (hkp : KeepOk K kp 2) (h0 : ZeroK kp 2) (hop : op false false = false) (hk : ∀ a b x y, keptB kp [a, b] x y = op (hasB a x y) (hasB b x y))
    (A1 : Option Addr) (c1 : Nat) (A2 : Option Addr) (c2 : Nat) (a b : List Rc) (w : World) (ha : RIn w A1 c1 a) (hb : RIn w A2 c2 b) :
    Calls Tryz.prog 116 #[.slice A1 a.length c1, .slice A2 b.length c2, .func (.func K) #[] #[]] w (ResIs (opR op a b) w) := by
  have HA := Lib.hid ha; have HB := Lib.hid hb
  clear ha hb
  by_cases ra : RegP a
  · have RA := Lib.hid (fun w' (h : Below w.heap.size w w') => gright_yes A1 c1 a w' (HA.out.below h).row HA.out.len HA.out.room HA.out.room2 ra)
    by_cases rb : RegP b
    · have RB := Lib.hid (fun w' (h : Below w.heap.size w w') => gright_yes A2 c2 b w' (HB.out.below h).row HB.out.len HB.out.room HB.out.room2 rb)
      have EQ : Hid (opR op a b = capR (formO op a b)) := Lib.hid (if_pos ⟨ra, rb⟩)
      have HFORM : Hid (∀ w', Below w.heap.size w w' → Calls Tryz.prog 98 #[.func (.func K) #[] #[], .slice (some ⟨w'.heap.size, 0, none⟩) 2 2] (w'.alloc (.cells #[.slice A1 a.length c1, .slice A2 b.length c2] 40)) (FormRes (formO op a b) (w'.alloc (.cells #[.slice A1 a.length c1, .slice A2 b.length c2] 40)))) := Lib.hid (fun w' hbel => by
        obtain ⟨f1, f2⟩ := formO_is hop (form_ok ra.1) (form_ok rb.1)
        have hbz := hbel.alloc hbel.size (.cells #[.slice A1 a.length c1, .slice A2 b.length c2] 40)
        refine gform2 K eg kp [a, b] (formO op a b) _ _ _ rfl hkp h0 (fun _ => ⟨w'.heap.size, 0, rfl, by simp, fun j hj => ?_⟩) (fun l' hl' r hr => ?_) (by have := ra.2; have := rb.2; simp [total]; omega) f1 (fun x y => by rw [f2, hk])
        · match j, hj with
          | 0, _ => exact ⟨A1, c1, by simp, HA.out.row.below hbz⟩
          | 1, _ => exact ⟨A2, c2, by simp, HB.out.row.below hbz⟩
        · simp only [List.mem_cons, List.not_mem_nil, or_false] at hl'
          rcases hl' with rfl | rfl
          · exact form_ok ra.1 r hr
          · exact form_ok rb.1 r hr)
      clear ra rb
      go_enter Tryz.func116, Tryz.ntmps116
      go_wp2_with fail
      refine (RA.out _ (Below.refl _ _)).mono ?_
      rintro e1 w1 ⟨rfl, hb1⟩
      have HB1 := Lib.hid hb1; clear hb1
      go_wp2_with fail
      refine (RB.out _ HB1.out).mono ?_
      rintro e2 w2 ⟨rfl, hb2⟩
      have HB2 := Lib.hid (HB1.out.trans (hb2.mono HB1.out.size)); clear hb2 HB1
      go_wp2_with fail
      refine (HFORM.out _ HB2.out).mono ?_
      rintro e w3 hf
      obtain ⟨A3, c3, rfl, h2, h3⟩ := (hf.res (HB2.out.alloc HB2.out.size _)).parts
      have HR : Hid (ResIs (opR op a b) w (.returned (.tuple #[.slice A3 (capR (formO op a b)).1.length c3, .int .i64 (capR (formO op a b)).2])) w3) := Lib.hid (by rw [EQ.out]; exact ⟨_, rfl, h2, h3⟩)
      clear hf h2 h3 HFORM RA RB
      generalize (capR (formO op a b)).1.length = n2 at *
      generalize (capR (formO op a b)).2 = e2 at *
      go_wp2_with fail
      go_ret2
      exact HR.out
    · have RB := Lib.hid (fun w' (h : Below w.heap.size w w') => gright_no A2 c2 b w' (HB.out.below h).row HB.out.len HB.out.room HB.out.room2 rb)
      have EQ : Hid (opR op a b = ([], 1)) := Lib.hid (if_neg (fun h => rb h.2))
      clear ra rb
      go_enter Tryz.func116, Tryz.ntmps116
      go_wp2_with fail
      refine (RA.out _ (Below.refl _ _)).mono ?_
      rintro e1 w1 ⟨rfl, hb1⟩
      have HB1 := Lib.hid hb1; clear hb1
      go_wp2_with fail
      refine (RB.out _ HB1.out).mono ?_
      rintro e2 w2 ⟨rfl, hb2⟩
      have HB2 := Lib.hid (HB1.out.trans (hb2.mono HB1.out.size)); clear hb2 HB1
      go_wp2_with fail
      go_ret2
      exact ⟨.slice none 0 0, by rw [EQ.out]; rfl, by rw [EQ.out]; exact World.ownsRow_nil _ _ _ _, HB2.out⟩
  · have RA := Lib.hid (fun w' (h : Below w.heap.size w w') => gright_no A1 c1 a w' (HA.out.below h).row HA.out.len HA.out.room HA.out.room2 ra)
    have EQ : Hid (opR op a b = ([], 1)) := Lib.hid (if_neg (fun h => ra h.1))
    clear ra
    go_enter Tryz.func116, Tryz.ntmps116
    go_wp2_with fail
    refine (RA.out _ (Below.refl _ _)).mono ?_
    rintro e1 w1 ⟨rfl, hb1⟩
    have HB1 := Lib.hid hb1; clear hb1
    go_wp2_with fail
    go_ret2
    exact ⟨.slice none 0 0, by rw [EQ.out]; rfl, by rw [EQ.out]; exact World.ownsRow_nil _ _ _ _, HB1.out⟩
set_option maxHeartbeats 4000000 in
theorem gminus_any (A1 : Option Addr) (c1 : Nat) (A2 : Option Addr) (c2 : Nat) (a b : List Rc) (w : World) (ha : RIn w A1 c1 a) (hb : RIn w A2 c2 b) :
    Calls Tryz.prog 77 #[.slice A1 a.length c1, .slice A2 b.length c2] w (ResIs (opR andnot a b) w) := by
  have HC := Lib.hid (gboth_any 117 eg_m kpM andnot keepM zero_all.2.2.2 rfl (fun a b x y => kept_m a b x y) A1 c1 A2 c2 a b w ha hb)
  clear ha hb
  go_enter Tryz.func77, Tryz.ntmps77
  go_wp2_with fail
  refine HC.out.mono ?_
  rintro e w3 hf
  obtain ⟨A3, c3, rfl, h2, h3⟩ := hf.parts
  have HR : Hid (ResIs (opR andnot a b) w (.returned (.tuple #[.slice A3 (opR andnot a b).1.length c3, .int .i64 (opR andnot a b).2])) w3) := Lib.hid ⟨_, rfl, h2, h3⟩
  clear hf h2 h3 HC
  generalize (opR andnot a b).1.length = n2 at *
  generalize (opR andnot a b).2 = e2 at *
  go_wp2_with fail
  go_ret2
  exact HR.out
end Go.Proofs.YtkjblmfmaenllaaGreat
namespace Go.Proofs.YtkjblmfmaenllaaGreat
open Go.RowKit

noncomputable def boundsG (l : List Rc) : Rc × Bool := if RegP l then boundsR l else (⟨0, 0, 0, 0⟩, false)
set_option maxHeartbeats 4000000 in
theorem gbounds_any (A : Option Addr) (cap : Nat) (l : List Rc) (w : World) (hl : RIn w A cap l) :
    Calls Tryz.prog 106 #[.slice A l.length cap] w (RbIs (boundsG l) w) := by
  have HL := Lib.hid hl; clear hl
  by_cases hr : RegP l
  · have HR := Lib.hid (fun w' (h : Below w.heap.size w w') => gright_yes A cap l w' (HL.out.below h).row HL.out.len HL.out.room HL.out.room2 hr)
    have HC := Lib.hid (fun w' (h : Below w.heap.size w w') => tbounds_any A cap l w' (by have := HL.out.len; omega) (HL.out.below h).row)
    rw [show boundsG l = boundsR l from if_pos hr]
    clear hr
    generalize boundsR l = x at *
    obtain ⟨x, xb⟩ := x
    have K0 : Hid (RcAt (w.alloc (.cells #[.int .i64 0, .int .i64 0, .int .i64 0, .int .i64 0] 33)) w.heap.size zR) := Lib.hid (RcAt.new w zR _ rfl)
    have B0 : Hid (Below w.heap.size w (w.alloc (.cells #[.int .i64 0, .int .i64 0, .int .i64 0, .int .i64 0] 33))) := Lib.hid (by (repeat' first | exact Below.refl _ _ | assumption | (apply below_drewN) | (refine Below.setCell ?_ (by (try simp); (try omega)) _) | (refine Below.alloc ?_ (by (try simp); (try omega)) _) | (refine Below.trans ?_ (Below.mono (Hid.out (by assumption)) (by (try simp); (try omega))))))
    go_enter Tryz.func106, Tryz.ntmps106
    go_wp2_with fail
    generalize World.alloc w _ = w0 at *
    refine (HR.out _ B0.out).mono ?_
    rintro e1 w1 ⟨rfl, hb1⟩
    have K1 := Lib.hid (K0.out.below hb1 K0.out.lt)
    have B1 := Lib.hid (B0.out.trans (hb1.mono B0.out.size)); clear hb1 K0 B0
    go_wp2_with fail
    refine (HC.out _ B1.out).mono ?_
    rintro e2 w2 ⟨rfl, hb2⟩
    have K2 := Lib.hid (K1.out.below hb2 K1.out.lt)
    have B2 := Lib.hid (B1.out.trans (hb2.mono B1.out.size)); clear hb2 K1 B1
    have z0 := K2.out.cell0; have z1 := K2.out.cell1; have z2 := K2.out.cell2; have z3 := K2.out.cell3
    have f0 := K2.out.froz 0; have f1 := K2.out.froz 1; have f2 := K2.out.froz 2; have f3 := K2.out.froz 3
    have zl := K2.out.lt
    go_wp2_with fail
    exact bodyPost_ret (v := .tuple #[.agg #[.int .i64 x.X0, .int .i64 x.Y0, .int .i64 x.X1, .int .i64 x.Y1], .bool xb]) (by simp [results, Tryz.results106, go_sem, *]) rfl (RbIs.of rfl rfl rfl rfl rfl (by have hk := B2.out; (repeat' first | exact Below.refl _ _ | assumption | (apply below_drewN) | (refine Below.setCell ?_ (by (try simp); (try omega)) _) | (refine Below.alloc ?_ (by (try simp); (try omega)) _) | (refine Below.trans ?_ (Below.mono (Hid.out (by assumption)) (by (try simp); (try omega)))))))
  · have HR := Lib.hid (fun w' (h : Below w.heap.size w w') => gright_no A cap l w' (HL.out.below h).row HL.out.len HL.out.room HL.out.room2 hr)
    rw [show boundsG l = (⟨0, 0, 0, 0⟩, false) from if_neg hr]
    clear hr
    have K0 : Hid (RcAt (w.alloc (.cells #[.int .i64 0, .int .i64 0, .int .i64 0, .int .i64 0] 33)) w.heap.size zR) := Lib.hid (RcAt.new w zR _ rfl)
    have B0 : Hid (Below w.heap.size w (w.alloc (.cells #[.int .i64 0, .int .i64 0, .int .i64 0, .int .i64 0] 33))) := Lib.hid (by (repeat' first | exact Below.refl _ _ | assumption | (apply below_drewN) | (refine Below.setCell ?_ (by (try simp); (try omega)) _) | (refine Below.alloc ?_ (by (try simp); (try omega)) _) | (refine Below.trans ?_ (Below.mono (Hid.out (by assumption)) (by (try simp); (try omega))))))
    go_enter Tryz.func106, Tryz.ntmps106
    go_wp2_with fail
    generalize World.alloc w _ = w0 at *
    refine (HR.out _ B0.out).mono ?_
    rintro e1 w1 ⟨rfl, hb1⟩
    have K1 := Lib.hid (K0.out.below hb1 K0.out.lt)
    have B1 := Lib.hid (B0.out.trans (hb1.mono B0.out.size)); clear hb1 K0 B0
    have z0 := K1.out.cell0; have z1 := K1.out.cell1; have z2 := K1.out.cell2; have z3 := K1.out.cell3
    have f0 := K1.out.froz 0; have f1 := K1.out.froz 1; have f2 := K1.out.froz 2; have f3 := K1.out.froz 3
    have zl := K1.out.lt
    go_wp2_with fail
    exact bodyPost_ret (v := .tuple #[.agg #[.int .i64 0, .int .i64 0, .int .i64 0, .int .i64 0], .bool false]) (by simp [results, Tryz.results106, go_sem, *]) rfl (RbIs.of rfl rfl rfl rfl rfl (by have hk := B1.out; (repeat' first | exact Below.refl _ _ | assumption | (apply below_drewN) | (refine Below.setCell ?_ (by (try simp); (try omega)) _) | (refine Below.alloc ?_ (by (try simp); (try omega)) _) | (refine Below.trans ?_ (Below.mono (Hid.out (by assumption)) (by (try simp); (try omega)))))))
end Go.Proofs.YtkjblmfmaenllaaGreat
