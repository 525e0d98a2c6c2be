/-
  Contracts of the program's layer 9, 3: Has, Volume, Section, Same.
-/
import Derived.Test.YtppomhgknhmceaaGreatAe
import Derived.Test.YtppomhgknhmceaaGreatIh
import Derived.Test.YtppomhgknhmceaaGreatIb
import Derived.Shelf.Abstract
set_option linter.unusedVariables false
set_option maxRecDepth 100000
namespace Go.Proofs.YtppomhgknhmceaaGreat
open Go.RowKit

theorem bright_yes {A : Option Addr} {cap : Nat} {S : List Sl} {w : World} (h : SIn w A cap S) (hs : SolP S) : Calls Tryz.prog 41 #[.slice A S.length cap] w (BlIs true w) :=
  (bright_any A cap S w h).mono fun e w' ⟨b, hb, h'⟩ => by obtain rfl := hb.2 hs; exact h'
theorem bright_no {A : Option Addr} {cap : Nat} {S : List Sl} {w : World} (h : SIn w A cap S) (hs : ¬ SolP S) : Calls Tryz.prog 41 #[.slice A S.length cap] w (BlIs false w) :=
  (bright_any A cap S w h).mono fun e w' ⟨b, hb, h'⟩ => by
    cases b with
    | false => exact h'
    | true => exact absurd (hb.1 rfl) hs
theorem sol_reg {S : List Sl} (h : SolP S) (z : Int) : RegP (secS S z) := by
  refine ⟨sec_form h.form z, ?_⟩
  by_cases e : secS S z = []
  · rw [e]; simp
  · obtain ⟨s, hs, _, _, k⟩ := sec_mem e
    rw [← k]; exact h.rects s hs
noncomputable def hasGS (S : List Sl) (x y z : Int) : Bool := @decide (SolP S) (Classical.propDecidable _) && hasB (secS S z) x y
theorem hasGS_yes {S : List Sl} (h : SolP S) (x y z : Int) : hasGS S x y z = hasB (secS S z) x y := by unfold hasGS; rw [@decide_eq_true _ (Classical.propDecidable _) h, Bool.true_and]
theorem hasGS_no {S : List Sl} (h : ¬ SolP S) (x y z : Int) : hasGS S x y z = false := by unfold hasGS; rw [@decide_eq_false _ (Classical.propDecidable _) h, Bool.false_and]
set_option maxHeartbeats 4000000 in
theorem bhas_any (A : Option Addr) (cap : Nat) (S : List Sl) (x y z : Int) (w : World) (h : SIn w A cap S) : Calls Tryz.prog 31 #[.slice A S.length cap, .int .i64 x, .int .i64 y, .int .i64 z] w (BlIs (hasGS S x y z) w) := by
  by_cases hs : SolP S
  · have HR := Lib.hid (bright_yes h hs)
    have HA := Lib.hid (fun w' (hb : Below w.heap.size w w') => barea_any A cap S z w' (h.below hb))
    have HH := Lib.hid (fun (A' : Option Addr) (c' : Nat) (w' : World) (hr : RIn w' A' c' (secS S z)) => ghas_any A' c' (secS S z) x y w' hr)
    rw [hasGS_yes hs]
    have HE : Hid (hasRg (secS S z) x y = hasB (secS S z) x y) := Lib.hid (by unfold hasRg; rw [decide_eq_true (sol_reg hs z), Bool.true_and])
    clear h hs
    go_enter Tryz.func31, Tryz.ntmps31
    go_wp2_with fail
    refine HR.out.mono ?_
    rintro e1 w1 ⟨rfl, hb1⟩
    have HB1 := Lib.hid hb1; clear hb1
    go_wp2_with fail
    refine (HA.out _ HB1.out).mono ?_
    rintro e2 w2 ⟨A2, c2, rfl, hr2, hb2⟩
    have HB2 := Lib.hid (HB1.out.trans (hb2.mono HB1.out.size))
    have HHH := Lib.hid (HH.out _ _ _ hr2)
    rw [HE.out] at HHH
    clear hb2 hr2 HA HH HE HR
    generalize hasB (secS S z) x y = bb at *
    generalize (secS S z).length = nn at *
    go_wp2_with fail
    refine HHH.out.mono ?_
    rintro e3 w3 ⟨rfl, hb3⟩
    have HB3 := Lib.hid (HB2.out.trans (hb3.mono HB2.out.size))
    clear hb3 HHH
    go_wp2_with fail
    go_ret
    exact ⟨rfl, HB3.out⟩
  · have HR := Lib.hid (bright_no h hs)
    rw [hasGS_no hs]
    clear h hs
    go_enter Tryz.func31, Tryz.ntmps31
    go_wp2_with fail
    refine HR.out.mono ?_
    rintro e1 w1 ⟨rfl, hb1⟩
    have HB1 := Lib.hid hb1; clear hb1
    go_wp2_with fail
    go_ret
    exact ⟨rfl, HB1.out⟩
/-! ### the volume -/
theorem volS_next (S : List Sl) (k : Nat) (h : k < S.length) : volS (S.take (k + 1)) = volS (S.take k) + areaL S[k].ar * (S[k].z1 - S[k].z0) := by
  rw [List.take_succ_eq_append_getElem h, volS_append]; simp [volS]
def Vx (p : Nat) (u : Sl) (A : Option Addr) (c : Nat) (w0 w : World) : Prop := w.cell? ⟨p, 0, none⟩ = some (.int .i64 u.z0) ∧ w.cell? ⟨p, 1, none⟩ = some (.int .i64 u.z1) ∧ w.cell? ⟨p, 2, none⟩ = some (.slice A u.ar.length c) ∧ p < w.heap.size ∧ Hid (Below w0.heap.size w0 w)
theorem Vx.go {p : Nat} {u : Sl} {A : Option Addr} {c : Nat} {w0 w w' : World} (h : Vx p u A c w0 w) (hb : Below w.heap.size w w') : Vx p u A c w0 w' := by
  obtain ⟨h0, h1, h2, h6, h8⟩ := h
  have cp := fun i => hb.cell (p := ⟨p, i, none⟩) h6
  exact ⟨(cp _).trans h0, (cp _).trans h1, (cp _).trans h2, Nat.lt_of_lt_of_le h6 hb.size, Lib.hid (h8.out.trans (hb.mono h8.out.size))⟩
theorem Vx.drewN {p : Nat} {u : Sl} {A : Option Addr} {c : Nat} {w0 w : World} (h : Vx p u A c w0 w) (n : Nat) : Vx p u A c w0 (w.drewN n) := h.go (below_drewN (Below.refl _ _) n)
noncomputable def volG (S : List Sl) : Int := @ite _ (SolP S) (Classical.propDecidable _) (volS S) 0
theorem prod_bd {a d : Int} (h0 : 0 ≤ a) (h1 : a ≤ 1099511627776) (h2 : 0 ≤ d) (h3 : d ≤ 4096) : 0 ≤ a * d ∧ a * d ≤ 4503599627370496 := by
  refine ⟨Int.mul_nonneg h0 h2, Int.le_trans (Int.mul_le_mul h1 h3 h2 (by omega)) (by decide)⟩
theorem sumN_le {n : Nat} {f : Nat → Nat} {b : Nat} (h : ∀ i, i < n → f i ≤ b) : sumN n f ≤ n * b := by
  induction n with
  | zero => simp [sumN]
  | succ n ih =>
    have h1 := ih (fun i hi => h i (by omega))
    have h2 := h n (by omega)
    have e : sumN (n + 1) f = sumN n f + f n := rfl
    rw [e, Nat.add_mul]; omega
/-- a form's area is at most that of the grid. -/
theorem form_grid {l : List Rc} (h : IsForm l) : areaL l ≤ 1099511627776 := by
  rw [form_area h]
  have : cntC 1048576 (hasD l) ≤ 1048576 * 1048576 := sumN_le (fun i _ => by
    have := sumN_le (n := 1048576) (b := 1) (f := fun y : Nat => if hasD l (i : Int) (y : Int) = true then 1 else 0) (fun j _ => by split <;> omega)
    omega)
  omega
theorem vol_bd {S : List Sl} (h : SForm S) : 0 ≤ volS S ∧ volS S ≤ S.length * 4503599627370496 := by
  have key : ∀ T : List Sl, (∀ s ∈ T, SlOk s) → 0 ≤ volS T ∧ volS T ≤ T.length * 4503599627370496 := by
    intro T
    induction T with
    | nil => intro _; simp [volS]
    | cons s T ih =>
      intro hT
      have k := ih (fun s hs => hT s (List.mem_cons_of_mem _ hs))
      have hs := hT s List.mem_cons_self
      have hh := hs.h
      unfold HOk at hh
      have h1 := prod_bd (area_nnL s.ar) (form_grid hs.form) (d := s.z1 - s.z0) (by omega) (by omega)
      rw [volS, List.length_cons]
      omega
  exact key S h.each
set_option maxHeartbeats 16000000 in
theorem bvolume_yes {A : Option Addr} {cap : Nat} {S : List Sl} {w : World} (h : SIn w A cap S) (hs : SolP S) : Calls Tryz.prog 37 #[.slice A S.length cap] w (InIs (volS S) w) := by
  have HR := Lib.hid (bright_yes h hs)
  have H1 := Lib.hid h.row
  have HS := Lib.hid hs
  have hlen := hs.len
  clear h hs
  go_enter Tryz.func37, Tryz.ntmps37
  go_wp2_with fail
  refine HR.out.mono ?_
  rintro e1 w1 ⟨rfl, hb1⟩
  have HB1 := Lib.hid hb1; clear hb1 HR
  go_wp2_with fail
  go_loopw [3, 11] (fun s i wr => ∃ k : Nat, k ≤ S.length ∧ i = .int .i64 k ∧ s = .int .i64 (volS (S.take k)) ∧ Hid (Below w.heap.size w wr)) (fun _ i _ => S.length - (intOf i).toNat)
  case atStart => exact ⟨0, Nat.zero_le _, rfl, rfl, HB1⟩
  case round =>
    clear HB1
    obtain ⟨k, hk, rfl, rfl, HB⟩ := hrel
    by_cases hlt : k < S.length
    · obtain ⟨b1, o1, rfl, hb1, hv1⟩ := H1.out (by omega)
      obtain ⟨x0, x1, Aj, cj, x2, hr⟩ := hv1 k hlt
      have wc := fun o => HB.out.cell (p := ⟨b1, o, none⟩) hb1
      have x0 := (wc _).trans x0; have x1 := (wc _).trans x1; have x2 := (wc _).trans x2
      have hbs := HB.out.size
      have hbw : b1 < wr.heap.size := Nat.lt_of_lt_of_le hb1 hbs
      have n0 : (0 : Int) ≤ (k : Int) := by omega
      have n1 : (k : Int) < (S.length : Int) := by omega
      have hmem := List.getElem_mem hlt
      have hok := HS.out.form.each _ hmem
      have hh := hok.h
      unfold HOk at hh
      have HN := Lib.hid (volS_next S k hlt)
      have hvk : 0 ≤ volS (S.take k) ∧ volS (S.take k) ≤ (S.take k).length * 4503599627370496 := by
        refine vol_bd (sform_of (fun j hj => ?_) (fun j hj => ?_))
        · rw [List.getElem_take]; exact HS.out.form.each _ (List.getElem_mem _)
        · rw [List.getElem_take, List.getElem_take]; exact sform_pair HS.out.form j (by rw [List.length_take] at hj; omega)
      rw [List.length_take] at hvk
      have hw1 : volS (S.take k) ≤ 400000000000000000 := by omega
      have hw0 := hvk.1
      have ha0 := area_nnL S[k].ar
      have ha1 := form_grid hok.form
      have hp := prod_bd ha0 ha1 (d := S[k].z1 - S[k].z0) (by omega) (by omega)
      have HGA := Lib.hid (fun w' (hb : Below w.heap.size w w') => garea_yes Aj cj S[k].ar w' (hr.below hb) ⟨hok.form, HS.out.rects _ hmem⟩)
      clear wc hr hvk hmem hok hv1
      obtain ⟨u, hu⟩ : ∃ u, u = S[k] := ⟨_, rfl⟩
      rw [← hu] at x0 x1 x2 HN ha0 ha1 hp HGA hh
      clear hu
      have q1 : IntKind.i64.wrap (u.z1 - u.z0) = u.z1 - u.z0 := IntWalk.i64_in _ (by omega)
      obtain ⟨pr, hpr⟩ : ∃ pr, pr = areaL u.ar * (u.z1 - u.z0) := ⟨_, rfl⟩
      rw [← hpr] at HN hp
      have q2 : IntKind.i64.wrap (areaL u.ar * (u.z1 - u.z0)) = pr := by rw [← hpr]; exact IntWalk.i64_in _ (by omega)
      have HPR := Lib.hid hpr; clear hpr
      generalize areaL u.ar = ar at *
      obtain ⟨sm, hsm⟩ : ∃ sm, sm = volS (S.take k) := ⟨_, rfl⟩
      rw [← hsm] at HN hw0 hw1 ⊢
      clear hsm
      have q3 : IntKind.i64.wrap (sm + pr) = sm + pr := IntWalk.i64_in _ (by omega)
      have hsa := SlAt.new wr u Aj cj u.ar.length rfl
      have E0 : Hid (Vx wr.heap.size u Aj cj w (wr.alloc (.cells #[.int .i64 u.z0, .int .i64 u.z1, .slice Aj u.ar.length cj] 61))) := Lib.hid ⟨hsa.c0, hsa.c1, hsa.c2, hsa.lt, Lib.hid (HB.out.alloc hbs _)⟩
      have HBA := Lib.hid (HB.out.alloc hbs (.cells #[.int .i64 u.z0, .int .i64 u.z1, .slice Aj u.ar.length cj] 61))
      clear hsa hh ha0 ha1 hp hw0 hw1
      go_wp2_with fail
      go_region_held3 (fun w' => w'.cell? ⟨wr.heap.size, 0, none⟩ = some (.int .i64 u.z0) ∧ w'.cell? ⟨wr.heap.size, 1, none⟩ = some (.int .i64 u.z1) ∧ w'.cell? ⟨wr.heap.size, 2, none⟩ = some (.slice Aj u.ar.length cj) ∧ wr.heap.size < w'.heap.size ∧ Hid (Below w.heap.size w w'))
        (first | exact E0.out | exact Vx.drewN E0.out 1 | exact Vx.go ‹_› ‹_› | assumption)
        (first | (go_at_call 89; refine (HGA.out _ HBA.out.drew).mono ?_; rintro e w' ⟨rfl, hb⟩) | fail)
      have E2 : Vx wr.heap.size u Aj cj w w' := by assumption
      have HB3 := E2.2.2.2.2
      clear E0 E2
      go_wp2_with fail
      go_roundw
      case rel => exact ⟨k + 1, by omega, by go_num, by rw [HN.out], HB3⟩
      case measure => simp [intOf]; omega
    · obtain rfl : k = S.length := by omega
      rw [List.take_length]
      generalize volS S = ar at *
      go_wp2_with fail
      go_ret
      exact ⟨rfl, HB.out⟩
theorem bvolume_no {A : Option Addr} {cap : Nat} {S : List Sl} {w : World} (h : SIn w A cap S) (hs : ¬ SolP S) : Calls Tryz.prog 37 #[.slice A S.length cap] w (InIs 0 w) := by
  have HR := Lib.hid (bright_no h hs)
  clear h hs
  go_enter Tryz.func37, Tryz.ntmps37
  go_wp2_with fail
  refine HR.out.mono ?_
  rintro e1 w1 ⟨rfl, hb1⟩
  have HB1 := Lib.hid hb1; clear hb1 HR
  go_wp2_with fail
  go_ret
  exact ⟨rfl, HB1.out⟩
end Go.Proofs.YtppomhgknhmceaaGreat
