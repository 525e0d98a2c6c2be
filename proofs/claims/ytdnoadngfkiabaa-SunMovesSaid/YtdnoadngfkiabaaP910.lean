/-
  Contracts of the program's layer 6 (11): Of, both, Union, Common, Minus.
  Contracts of the program's layer 6 (12): both, Union, Common, Minus; Area.
-/
import Derived.Test.YtdnoadngfkiabaaP909
import Derived.Test.YtdnoadngfkiabaaP900
set_option linter.unusedVariables false
set_option maxRecDepth 100000
namespace Go.Proofs.Ytdnoadngfkiabaa
open Go.RowKit

def kpOf (c : List Int) : Bool := decide (0 < c.getD 0 0)
def kpU (c : List Int) : Bool := decide (0 < c.getD 0 0) || decide (0 < c.getD 1 0)
def kpC (c : List Int) : Bool := decide (0 < c.getD 0 0) && decide (0 < c.getD 1 0)
def kpM (c : List Int) : Bool := decide (0 < c.getD 0 0) && decide (c.getD 1 0 = 0)
theorem keepOf : KeepOk 54 kpOf 1 := by
  intro w A cap c hr hl
  match c, hl with
  | [x], _ =>
    obtain ⟨b, o, rfl, hb, hc⟩ := hr (by simp)
    have y0 := hc 0 (by simp)
    simp only [List.getElem_cons_zero, Nat.add_zero] at y0
    show Calls Try.prog 54 _ w (BlIs (decide (0 < x)) w)
    clear hc hr
    by_cases h : 0 < x
    · have d : decide (0 < x) = true := decide_eq_true h
      rw [d]
      go_enter Try.func54, Try.ntmps54
      go_wp2
      go_ret
      exact ⟨rfl, by (repeat' first | exact Below.refl _ _ | assumption | (apply below_drewN) | (refine Below.setCell ?_ (by (try simp); (try omega)) _) | (refine Below.alloc ?_ (by (try simp); (try omega)) _) | (refine Below.trans ?_ (Below.mono (Hid.out (by assumption)) (by (try simp); (try omega)))))⟩
    · have d : decide (0 < x) = false := decide_eq_false h
      rw [d]
      go_enter Try.func54, Try.ntmps54
      go_wp2
      go_ret
      exact ⟨rfl, by (repeat' first | exact Below.refl _ _ | assumption | (apply below_drewN) | (refine Below.setCell ?_ (by (try simp); (try omega)) _) | (refine Below.alloc ?_ (by (try simp); (try omega)) _) | (refine Below.trans ?_ (Below.mono (Hid.out (by assumption)) (by (try simp); (try omega)))))⟩
theorem eg_of : ∀ args w, (callFunc 54 args).run Try.prog w = .ok (.enter 54 args) w := enters_of Try.func54 (by kernel_rfl) rfl
theorem zero_all : ZeroK kpOf 1 ∧ ZeroK kpU 2 ∧ ZeroK kpC 2 ∧ ZeroK kpM 2 := by unfold ZeroK; exact ⟨rfl, rfl, rfl, rfl⟩
theorem kept_of (l : List Rc) (x y : Int) : keptB kpOf [l] x y = true ↔ HasL l x y := by
  rw [← covN_pos]; simp [keptB, kpOf]
/-- a region and an error. -/
def ResIs (x : List Rc × Int) (w : World) (e : Ending) (w' : World) : Prop := ∃ v, e = .returned (.tuple #[v, .int .i64 x.2]) ∧ w'.ownsRow w.heap.size 43 4 v x.1.length (rcells x.1) ∧ Below w.heap.size w w'
def capR (F : List Rc) : List Rc × Int := if F.length ≤ 200 then (F, 0) else ([], 6)
theorem FormRes.res {F : List Rc} {w0 w w' : World} {e : Ending} (h : FormRes F w e w') (hb : Below w0.heap.size w0 w) : ResIs (capR F) w0 e w' := by
  unfold capR
  rcases h with ⟨h1, v, rfl, h2, h3⟩ | ⟨h1, rfl, h3⟩
  · rw [if_pos h1]; exact ⟨v, rfl, own_base h2 hb.size, hb.trans (h3.mono hb.size)⟩
  · rw [if_neg (by omega)]; exact ⟨_, rfl, World.ownsRow_nil _ _ _ _, hb.trans (h3.mono hb.size)⟩
theorem ResIs.parts {x : List Rc × Int} {w : World} {e : Ending} {w' : World} (h : ResIs x w e w') : ∃ A cap, e = .returned (.tuple #[.slice A x.1.length cap, .int .i64 x.2]) ∧ w'.ownsRow w.heap.size 43 4 (.slice A x.1.length cap) x.1.length (rcells x.1) ∧ Below w.heap.size w w' := by
  obtain ⟨v, rfl, h1, h2⟩ := h
  have h1' := h1
  obtain ⟨A, cap, rfl, _⟩ := own_rects h1'
  exact ⟨A, cap, rfl, h1, h2⟩
instance (l : List Rc) : Decidable (∀ r ∈ l, ROk r) := List.decidableBAll (fun r => ROk r) l
def ofR (l : List Rc) : List Rc × Int := if ∀ r ∈ l, ROk r then (if l.length ≤ 400 then capR (formL l) else ([], 6)) else ([], 1)
set_option maxHeartbeats 16000000 in
theorem gof_any (A : Option Addr) (cap : Nat) (l : List Rc) (w : World) (h1 : RRow w A l) (hl : l.length ≤ 1099511627776) : Calls Try.prog 36 #[.slice A l.length cap] w (ResIs (ofR l) w) := by
  have H1 := Lib.hid h1; clear h1
  have HB0 := Lib.hid (Below.refl w.heap.size w)
  go_enter Try.func36, Try.ntmps36
  go_wp2
  go_loopw [8] (fun i wr => ∃ (k : Nat), k ≤ l.length ∧ i = .int .i64 k ∧ Hid (Below w.heap.size w wr) ∧ ∀ j (h : j < l.length), j < k → ROk l[j]) (fun i _ => l.length - (intOf i).toNat)
  case atStart => exact ⟨0, Nat.zero_le _, rfl, HB0, fun j h hj => absurd hj (Nat.not_lt_zero _)⟩
  case round =>
    clear HB0
    obtain ⟨k, hk, rfl, HB, ht⟩ := hrel
    have HT := Lib.hid ht; clear ht
    by_cases hlt : k < l.length
    · obtain ⟨b1, o1, rfl, hb1, hv1⟩ := H1.out (by omega)
      obtain ⟨x0, x1, x2, x3⟩ := hv1 k hlt
      have wc := fun o => HB.out.cell (p := ⟨b1, o, none⟩) hb1
      have x0 := (wc _).trans x0; have x1 := (wc _).trans x1; have x2 := (wc _).trans x2; have x3 := (wc _).trans x3
      have hbw : b1 < wr.heap.size := Nat.lt_of_lt_of_le hb1 HB.out.size
      have hbs := HB.out.size
      clear hv1 wc
      have i0 : (0 : Int) ≤ (k : Int) := by omega
      have i1 : (k : Int) < (l.length : Int) := by omega
      obtain ⟨u, hu⟩ : ∃ u, u = l[k] := ⟨_, rfl⟩
      rw [← hu] at x0 x1 x2 x3
      have HU := Lib.hid hu; clear hu
      have hal : Below w.heap.size w (wr.alloc (.cells #[.int .i64 u.X0, .int .i64 u.Y0, .int .i64 u.X1, .int .i64 u.Y1] 43)) := HB.out.alloc HB.out.size _
      have HAL := Lib.hid hal; clear hal
      by_cases ok : ROk u
      · have oa : rokB ⟨u.X0, u.Y0, u.X1, u.Y1⟩ = true := (rokB_iff u).2 ok
        have OK := Lib.hid ok; clear ok
        go_wp2_with fail
        refine (tright_nd _ _ _ _ _).mono ?_
        rw [oa]
        rintro e w1 ⟨rfl, hb⟩
        have HB1 := Lib.hid (HAL.out.trans (hb.mono HAL.out.size)); clear hb
        go_wp2_with fail
        go_roundw
        case rel => exact ⟨k + 1, by omega, by go_num, HB1, fun j h hj => by
          by_cases e : j < k
          · exact HT.out j h e
          · obtain rfl : j = k := by omega
            rw [← HU.out]; exact OK.out⟩
        case measure => simp [intOf]; omega
      · have oa : rokB ⟨u.X0, u.Y0, u.X1, u.Y1⟩ = false := (rokB_no u).2 ok
        have NO : Hid (ofR l = ([], 1)) := Lib.hid (if_neg (fun h => ok (by rw [HU.out]; exact h _ (List.getElem_mem hlt))))
        clear ok
        go_wp2_with fail
        refine (tright_nd _ _ _ _ _).mono ?_
        rw [oa]
        rintro e w1 ⟨rfl, hb⟩
        have HB1 := Lib.hid (HAL.out.trans (hb.mono HAL.out.size)); clear hb
        go_wp2_with fail
        go_ret2
        exact ⟨.slice none 0 0, by rw [NO.out]; rfl, by rw [NO.out]; exact World.ownsRow_nil _ _ _ _, HB1.out⟩
    · obtain rfl : k = l.length := by omega
      have HALL : Hid (∀ r ∈ l, ROk r) := Lib.hid (fun r hr => by
        obtain ⟨j, hj, rfl⟩ := List.mem_iff_getElem.1 hr
        exact HT.out j hj hj)
      clear HT
      by_cases hbig : 400 < l.length
      · have s1 : (400 : Int) < (l.length : Int) := by omega
        have NO : Hid (ofR l = ([], 6)) := Lib.hid (by unfold ofR; rw [if_pos HALL.out, if_neg (by omega)])
        clear hbig
        go_wp2_with fail
        go_ret2
        exact ⟨.slice none 0 0, by rw [NO.out]; rfl, by rw [NO.out]; exact World.ownsRow_nil _ _ _ _, HB.out⟩
      · have s1 : ¬ (400 : Int) < (l.length : Int) := by omega
        have EQ : Hid (ofR l = capR (formL l)) := Lib.hid (by unfold ofR; rw [if_pos HALL.out, if_pos (by omega)])
        have HFORM : Hid (Calls Try.prog 53 #[.func (.func 54) #[] #[], .slice (some ⟨wr.heap.size, 0, none⟩) 1 1] (wr.alloc (.cells #[.slice A l.length cap] 48)) (FormRes (formL l) (wr.alloc (.cells #[.slice A l.length cap] 48)))) := Lib.hid (by
          obtain ⟨f1, f2⟩ := formL_is HALL.out
          refine gform1 54 eg_of kpOf [l] (formL l) _ _ _ rfl keepOf zero_all.1 (fun _ => ⟨wr.heap.size, 0, rfl, by simp, fun j hj => ?_⟩) (fun l' hl' r hr => ?_) (by simp [total]; omega) f1 (fun x y => by rw [f2, kept_of])
          · obtain rfl : j = 0 := by simp at hj; omega
            exact ⟨A, cap, by simp, H1.out.below (HB.out.alloc HB.out.size _)⟩
          · rw [List.mem_singleton] at hl'; subst hl'; exact HALL.out r hr)
        have HB2 := Lib.hid (HB.out.alloc HB.out.size (.cells #[.slice A l.length cap] 48))
        clear hbig
        go_wp2_with fail
        refine HFORM.out.mono ?_
        rintro e w1 hf
        obtain ⟨A2, c2, rfl, h2, h3⟩ := (hf.res HB2.out).parts
        have HR : Hid (ResIs (ofR l) w (.returned (.tuple #[.slice A2 (capR (formL l)).1.length c2, .int .i64 (capR (formL l)).2])) w1) := Lib.hid (by rw [EQ.out]; exact ⟨_, rfl, h2, h3⟩)
        clear hf h2 h3 HFORM
        generalize (capR (formL l)).1.length = n2 at *
        generalize (capR (formL l)).2 = e2 at *
        go_wp2_with fail
        go_ret2
        exact HR.out
end Go.Proofs.Ytdnoadngfkiabaa
namespace Go.Proofs.Ytdnoadngfkiabaa
open Go.RowKit

noncomputable instance (l : List Rc) : Decidable (RegP l) := Classical.propDecidable _
noncomputable def opR (op : Bool → Bool → Bool) (a b : List Rc) : List Rc × Int := if RegP a ∧ RegP b then capR (formO op a b) else ([], 1)
theorem gright_yes (A : Option Addr) (cap : Nat) (l : List Rc) (w : World) (h1 : RRow w A l) (hl : l.length ≤ 1099511627776) (hcap : l.length ≤ cap) (hcap2 : cap ≤ 9223372036854775807) (h : RegP l) : Calls Try.prog 43 #[.slice A l.length cap] w (BlIs true w) :=
  (gright_any A cap l w h1 hl hcap hcap2).mono fun e w' ⟨b, hb, h'⟩ => by obtain rfl := hb.2 h; exact h'
theorem gright_no (A : Option Addr) (cap : Nat) (l : List Rc) (w : World) (h1 : RRow w A l) (hl : l.length ≤ 1099511627776) (hcap : l.length ≤ cap) (hcap2 : cap ≤ 9223372036854775807) (h : ¬ RegP l) : Calls Try.prog 43 #[.slice A l.length cap] w (BlIs false w) :=
  (gright_any A cap l w h1 hl hcap hcap2).mono fun e w' ⟨b, hb, h'⟩ => by
    cases b with
    | false => exact h'
    | true => exact absurd (hb.1 rfl) h
/-- a list at a slice, as contracts ask it. -/
structure RIn (w : World) (A : Option Addr) (cap : Nat) (l : List Rc) : Prop where
  row : RRow w A l
  len : l.length ≤ 1099511627776
  room : l.length ≤ cap
  room2 : cap ≤ 9223372036854775807
theorem RIn.below {w w' : World} {A : Option Addr} {cap : Nat} {l : List Rc} (h : RIn w A cap l) (hb : Below w.heap.size w w') : RIn w' A cap l := ⟨h.row.below hb, h.len, h.room, h.room2⟩
end Go.Proofs.Ytdnoadngfkiabaa
