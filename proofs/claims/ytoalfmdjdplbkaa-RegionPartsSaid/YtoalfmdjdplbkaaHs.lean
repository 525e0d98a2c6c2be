/-
  Contracts of the program's layer 6 (12): both, Union, Common, Minus; Area.
-/
import Derived.Test.YtoalfmdjdplbkaaHr
import Derived.Test.YtoalfmdjdplbkaaGd
set_option linter.unusedVariables false
set_option maxRecDepth 100000
namespace Go.Proofs.Ytoalfmdjdplbkaa
open Go.RowKit

noncomputable instance (l : List Rc) : Decidable (RegP l) := Classical.propDecidable _
noncomputable def opR (op : Bool → Bool → Bool) (a b : List Rc) : List Rc × Int := if RegP a ∧ RegP b then capR (formO op a b) else ([], 1)
theorem gright_yes (A : Option Addr) (cap : Nat) (l : List Rc) (w : World) (h1 : RRow w A l) (hl : l.length ≤ 1099511627776) (hcap : l.length ≤ cap) (hcap2 : cap ≤ 9223372036854775807) (h : RegP l) : Calls Try.prog 16 #[.slice A l.length cap] w (BlIs true w) :=
  (gright_any A cap l w h1 hl hcap hcap2).mono fun e w' ⟨b, hb, h'⟩ => by obtain rfl := hb.2 h; exact h'
theorem gright_no (A : Option Addr) (cap : Nat) (l : List Rc) (w : World) (h1 : RRow w A l) (hl : l.length ≤ 1099511627776) (hcap : l.length ≤ cap) (hcap2 : cap ≤ 9223372036854775807) (h : ¬ RegP l) : Calls Try.prog 16 #[.slice A l.length cap] w (BlIs false w) :=
  (gright_any A cap l w h1 hl hcap hcap2).mono fun e w' ⟨b, hb, h'⟩ => by
    cases b with
    | false => exact h'
    | true => exact absurd (hb.1 rfl) h
/-- a list at a slice, as contracts ask it. -/
structure RIn (w : World) (A : Option Addr) (cap : Nat) (l : List Rc) : Prop where
  row : RRow w A l
  len : l.length ≤ 1099511627776
  room : l.length ≤ cap
  room2 : cap ≤ 9223372036854775807
theorem RIn.below {w w' : World} {A : Option Addr} {cap : Nat} {l : List Rc} (h : RIn w A cap l) (hb : Below w.heap.size w w') : RIn w' A cap l := ⟨h.row.below hb, h.len, h.room, h.room2⟩
set_option maxHeartbeats 16000000 in
theorem gboth_any (K : Nat) (eg : ∀ args w, (callFunc K args).run Try.prog w = .ok (.enter K args) w) (kp : List Int → Bool) (op : Bool → Bool → Bool) (hkp : KeepOk K kp 2) (h0 : ZeroK kp 2) (hop : op false false = false) (hk : ∀ a b x y, keptB kp [a, b] x y = op (hasB a x y) (hasB b x y))
    (A1 : Option Addr) (c1 : Nat) (A2 : Option Addr) (c2 : Nat) (a b : List Rc) (w : World) (ha : RIn w A1 c1 a) (hb : RIn w A2 c2 b) :
    Calls Try.prog 39 #[.slice A1 a.length c1, .slice A2 b.length c2, .func (.func K) #[] #[]] w (ResIs (opR op a b) w) := by
  have HA := Lib.hid ha; have HB := Lib.hid hb
  clear ha hb
  by_cases ra : RegP a
  · have RA := Lib.hid (fun w' (h : Below w.heap.size w w') => gright_yes A1 c1 a w' (HA.out.below h).row HA.out.len HA.out.room HA.out.room2 ra)
    by_cases rb : RegP b
    · have RB := Lib.hid (fun w' (h : Below w.heap.size w w') => gright_yes A2 c2 b w' (HB.out.below h).row HB.out.len HB.out.room HB.out.room2 rb)
      have EQ : Hid (opR op a b = capR (formO op a b)) := Lib.hid (if_pos ⟨ra, rb⟩)
      have HFORM : Hid (∀ w', Below w.heap.size w w' → Calls Try.prog 26 #[.func (.func K) #[] #[], .slice (some ⟨w'.heap.size, 0, none⟩) 2 2] (w'.alloc (.cells #[.slice A1 a.length c1, .slice A2 b.length c2] 22)) (FormRes (formO op a b) (w'.alloc (.cells #[.slice A1 a.length c1, .slice A2 b.length c2] 22)))) := Lib.hid (fun w' hbel => by
        obtain ⟨f1, f2⟩ := formO_is hop (form_ok ra.1) (form_ok rb.1)
        have hbz := hbel.alloc hbel.size (.cells #[.slice A1 a.length c1, .slice A2 b.length c2] 22)
        refine gform2 K eg kp [a, b] (formO op a b) _ _ _ rfl hkp h0 (fun _ => ⟨w'.heap.size, 0, rfl, by simp, fun j hj => ?_⟩) (fun l' hl' r hr => ?_) (by have := ra.2; have := rb.2; simp [total]; omega) f1 (fun x y => by rw [f2, hk])
        · match j, hj with
          | 0, _ => exact ⟨A1, c1, by simp, HA.out.row.below hbz⟩
          | 1, _ => exact ⟨A2, c2, by simp, HB.out.row.below hbz⟩
        · simp only [List.mem_cons, List.not_mem_nil, or_false] at hl'
          rcases hl' with rfl | rfl
          · exact form_ok ra.1 r hr
          · exact form_ok rb.1 r hr)
      clear ra rb
      go_enter Try.func39, Try.ntmps39
      go_wp2_with fail
      refine (RA.out _ (Below.refl _ _)).mono ?_
      rintro e1 w1 ⟨rfl, hb1⟩
      have HB1 := Lib.hid hb1; clear hb1
      go_wp2_with fail
      refine (RB.out _ HB1.out).mono ?_
      rintro e2 w2 ⟨rfl, hb2⟩
      have HB2 := Lib.hid (HB1.out.trans (hb2.mono HB1.out.size)); clear hb2 HB1
      go_wp2_with fail
      refine (HFORM.out _ HB2.out).mono ?_
      rintro e w3 hf
      obtain ⟨A3, c3, rfl, h2, h3⟩ := (hf.res (HB2.out.alloc HB2.out.size _)).parts
      have HR : Hid (ResIs (opR op a b) w (.returned (.tuple #[.slice A3 (capR (formO op a b)).1.length c3, .int .i64 (capR (formO op a b)).2])) w3) := Lib.hid (by rw [EQ.out]; exact ⟨_, rfl, h2, h3⟩)
      clear hf h2 h3 HFORM RA RB
      generalize (capR (formO op a b)).1.length = n2 at *
      generalize (capR (formO op a b)).2 = e2 at *
      go_wp2_with fail
      go_ret2
      exact HR.out
    · have RB := Lib.hid (fun w' (h : Below w.heap.size w w') => gright_no A2 c2 b w' (HB.out.below h).row HB.out.len HB.out.room HB.out.room2 rb)
      have EQ : Hid (opR op a b = ([], 1)) := Lib.hid (if_neg (fun h => rb h.2))
      clear ra rb
      go_enter Try.func39, Try.ntmps39
      go_wp2_with fail
      refine (RA.out _ (Below.refl _ _)).mono ?_
      rintro e1 w1 ⟨rfl, hb1⟩
      have HB1 := Lib.hid hb1; clear hb1
      go_wp2_with fail
      refine (RB.out _ HB1.out).mono ?_
      rintro e2 w2 ⟨rfl, hb2⟩
      have HB2 := Lib.hid (HB1.out.trans (hb2.mono HB1.out.size)); clear hb2 HB1
      go_wp2_with fail
      go_ret2
      exact ⟨.slice none 0 0, by rw [EQ.out]; rfl, by rw [EQ.out]; exact World.ownsRow_nil _ _ _ _, HB2.out⟩
  · have RA := Lib.hid (fun w' (h : Below w.heap.size w w') => gright_no A1 c1 a w' (HA.out.below h).row HA.out.len HA.out.room HA.out.room2 ra)
    have EQ : Hid (opR op a b = ([], 1)) := Lib.hid (if_neg (fun h => ra h.1))
    clear ra
    go_enter Try.func39, Try.ntmps39
    go_wp2_with fail
    refine (RA.out _ (Below.refl _ _)).mono ?_
    rintro e1 w1 ⟨rfl, hb1⟩
    have HB1 := Lib.hid hb1; clear hb1
    go_wp2_with fail
    go_ret2
    exact ⟨.slice none 0 0, by rw [EQ.out]; rfl, by rw [EQ.out]; exact World.ownsRow_nil _ _ _ _, HB1.out⟩
set_option maxHeartbeats 4000000 in
theorem gunion_any (A1 : Option Addr) (c1 : Nat) (A2 : Option Addr) (c2 : Nat) (a b : List Rc) (w : World) (ha : RIn w A1 c1 a) (hb : RIn w A2 c2 b) :
    Calls Try.prog 13 #[.slice A1 a.length c1, .slice A2 b.length c2] w (ResIs (opR or a b) w) := by
  have HC := Lib.hid (gboth_any 40 eg_u kpU or keepU zero_all.2.1 rfl (fun a b x y => kept_u a b x y) A1 c1 A2 c2 a b w ha hb)
  clear ha hb
  go_enter Try.func13, Try.ntmps13
  go_wp2_with fail
  refine HC.out.mono ?_
  rintro e w3 hf
  obtain ⟨A3, c3, rfl, h2, h3⟩ := hf.parts
  have HR : Hid (ResIs (opR or a b) w (.returned (.tuple #[.slice A3 (opR or a b).1.length c3, .int .i64 (opR or a b).2])) w3) := Lib.hid ⟨_, rfl, h2, h3⟩
  clear hf h2 h3 HC
  generalize (opR or a b).1.length = n2 at *
  generalize (opR or a b).2 = e2 at *
  go_wp2_with fail
  go_ret2
  exact HR.out
set_option maxHeartbeats 4000000 in
theorem gcommon_any (A1 : Option Addr) (c1 : Nat) (A2 : Option Addr) (c2 : Nat) (a b : List Rc) (w : World) (ha : RIn w A1 c1 a) (hb : RIn w A2 c2 b) :
    Calls Try.prog 14 #[.slice A1 a.length c1, .slice A2 b.length c2] w (ResIs (opR and a b) w) := by
  have HC := Lib.hid (gboth_any 41 eg_c kpC and keepC zero_all.2.2.1 rfl (fun a b x y => kept_c a b x y) A1 c1 A2 c2 a b w ha hb)
  clear ha hb
  go_enter Try.func14, Try.ntmps14
  go_wp2_with fail
  refine HC.out.mono ?_
  rintro e w3 hf
  obtain ⟨A3, c3, rfl, h2, h3⟩ := hf.parts
  have HR : Hid (ResIs (opR and a b) w (.returned (.tuple #[.slice A3 (opR and a b).1.length c3, .int .i64 (opR and a b).2])) w3) := Lib.hid ⟨_, rfl, h2, h3⟩
  clear hf h2 h3 HC
  generalize (opR and a b).1.length = n2 at *
  generalize (opR and a b).2 = e2 at *
  go_wp2_with fail
  go_ret2
  exact HR.out
set_option maxHeartbeats 4000000 in
theorem gminus_any (A1 : Option Addr) (c1 : Nat) (A2 : Option Addr) (c2 : Nat) (a b : List Rc) (w : World) (ha : RIn w A1 c1 a) (hb : RIn w A2 c2 b) :
    Calls Try.prog 15 #[.slice A1 a.length c1, .slice A2 b.length c2] w (ResIs (opR andnot a b) w) := by
  have HC := Lib.hid (gboth_any 42 eg_m kpM andnot keepM zero_all.2.2.2 rfl (fun a b x y => kept_m a b x y) A1 c1 A2 c2 a b w ha hb)
  clear ha hb
  go_enter Try.func15, Try.ntmps15
  go_wp2_with fail
  refine HC.out.mono ?_
  rintro e w3 hf
  obtain ⟨A3, c3, rfl, h2, h3⟩ := hf.parts
  have HR : Hid (ResIs (opR andnot a b) w (.returned (.tuple #[.slice A3 (opR andnot a b).1.length c3, .int .i64 (opR andnot a b).2])) w3) := Lib.hid ⟨_, rfl, h2, h3⟩
  clear hf h2 h3 HC
  generalize (opR andnot a b).1.length = n2 at *
  generalize (opR andnot a b).2 = e2 at *
  go_wp2_with fail
  go_ret2
  exact HR.out
theorem areaL_bd : ∀ l : List Rc, 0 ≤ areaL l ∧ areaL l ≤ l.length * 1099511627776 := by
  intro l
  induction l with
  | nil => simp [areaL]
  | cons r l ih =>
    have h1 := area_nn r; have h2 := area_bd r
    have e : areaL (r :: l) = areaR r + areaL l := rfl
    rw [e, List.length_cons]
    omega
set_option maxHeartbeats 16000000 in
theorem garea_yes (A : Option Addr) (cap : Nat) (l : List Rc) (w : World) (h : RIn w A cap l) (hr : RegP l) : Calls Try.prog 19 #[.slice A l.length cap] w (InIs (areaL l) w) := by
  have RA := Lib.hid (gright_yes A cap l w h.row h.len h.room h.room2 hr)
  have H := Lib.hid h
  have HOK := Lib.hid (form_ok hr.1)
  have hlen := hr.2
  clear h hr
  go_enter Try.func19, Try.ntmps19
  go_wp2_with fail
  refine RA.out.mono ?_
  rintro e1 w1 ⟨rfl, hb1⟩
  have HB1 := Lib.hid hb1; clear hb1 RA
  go_wp2_with fail
  go_loopw [3, 11] (fun s i wr => ∃ k : Nat, k ≤ l.length ∧ i = .int .i64 k ∧ s = .int .i64 (areaL (l.take k)) ∧ Hid (Below w.heap.size w wr)) (fun _ i _ => l.length - (intOf i).toNat)
  case atStart => exact ⟨0, Nat.zero_le _, rfl, rfl, HB1⟩
  case round =>
    clear HB1
    obtain ⟨k, hk, rfl, rfl, HB⟩ := hrel
    by_cases hlt : k < l.length
    · obtain ⟨b1, o1, rfl, hb1, hv1⟩ := H.out.row (by omega)
      obtain ⟨x0, x1, x2, x3⟩ := hv1 k hlt
      have wc := fun o => HB.out.cell (p := ⟨b1, o, none⟩) hb1
      have x0 := (wc _).trans x0; have x1 := (wc _).trans x1; have x2 := (wc _).trans x2; have x3 := (wc _).trans x3
      have hbw : b1 < wr.heap.size := Nat.lt_of_lt_of_le hb1 HB.out.size
      have hbs := HB.out.size
      clear hv1 wc
      have i0 : (0 : Int) ≤ (k : Int) := by omega
      have i1 : (k : Int) < (l.length : Int) := by omega
      have hok := HOK.out _ (List.getElem_mem hlt)
      have hin : InR l[k] := by have := hok.grid; unfold GridR at this; unfold InR In64; omega
      have HNX : Hid (areaL (l.take (k + 1)) = areaL (l.take k) + areaR l[k]) := Lib.hid (by rw [List.take_succ_eq_append_getElem hlt, areaL_append]; simp [areaL])
      have hb0 := areaL_bd (l.take k)
      have hb2 := area_bd l[k]
      have hb3 := area_nn l[k]
      have hkl : (l.take k).length = k := by rw [List.length_take]; omega
      rw [hkl] at hb0
      obtain ⟨hb4, hb5⟩ := hb0
      have hb6 : areaL (l.take k) ≤ 219902325555200 := by omega
      have HAR := Lib.hid (fun w' => tarea_any l[k] hin w')
      have hal : Below w.heap.size w (wr.alloc (.cells #[.int .i64 l[k].X0, .int .i64 l[k].Y0, .int .i64 l[k].X1, .int .i64 l[k].Y1] 38)) := HB.out.alloc HB.out.size _
      have HAL := Lib.hid hal
      clear hal hok hin hkl hb5
      generalize areaL (l.take k) = sm at *
      generalize areaR l[k] = ar at *
      go_wp2_with fail
      refine (HAR.out _).mono ?_
      rintro e w1 ⟨rfl, hb⟩
      have HB1 := Lib.hid (HAL.out.trans (hb.mono HAL.out.size)); clear hb
      have q1 : IntKind.i64.wrap (sm + ar) = sm + ar := IntWalk.i64_in _ (by omega)
      go_wp2_with fail
      go_roundw
      case rel => exact ⟨k + 1, by omega, by go_num, by rw [HNX.out], HB1⟩
      case measure => simp [intOf]; omega
    · obtain rfl : k = l.length := by omega
      rw [List.take_length]
      generalize areaL l = ar at *
      go_wp2_with fail
      go_ret
      exact ⟨rfl, HB.out⟩
theorem garea_no (A : Option Addr) (cap : Nat) (l : List Rc) (w : World) (h : RIn w A cap l) (hr : ¬ RegP l) : Calls Try.prog 19 #[.slice A l.length cap] w (InIs 0 w) := by
  have RA := Lib.hid (gright_no A cap l w h.row h.len h.room h.room2 hr)
  clear h hr
  go_enter Try.func19, Try.ntmps19
  go_wp2_with fail
  refine RA.out.mono ?_
  rintro e1 w1 ⟨rfl, hb1⟩
  have HB1 := Lib.hid hb1; clear hb1 RA
  go_wp2_with fail
  go_ret
  exact ⟨rfl, HB1.out⟩
end Go.Proofs.Ytoalfmdjdplbkaa
