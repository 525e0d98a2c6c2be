/-
  Contracts of the program's layer 6 (13): Has, with slices.ContainsFunc and slices.IndexFunc at its closure.
  Contracts of the program's layer 9, 3: Has, Volume, Section, Same.
-/
import Derived.Test.YtkjblmfmaenllaaHr
import Derived.Test.YtkjblmfmaenllaaAe
import Derived.Test.YtkjblmfmaenllaaIb
import Derived.Shelf.Abstract
set_option linter.unusedVariables false
set_option maxRecDepth 100000
namespace Go.Proofs.Ytkjblmfmaenllaa
open Go.RowKit

theorem rok_in {r : Rc} (h : ROk r) : InR r := by
  obtain ⟨⟨a, b, c⟩, d, e, f⟩ := h
  refine ⟨?_, ?_, ?_, ?_⟩ <;> constructor <;> omega
set_option maxHeartbeats 4000000 in
theorem ghasC_any (r : Rc) (x y : Int) (b1 b2 : Nat) (w : World) (hr : ROk r) (h1 : w.cell? ⟨b1, 0, none⟩ = some (.int .i64 x)) (h2 : w.cell? ⟨b2, 0, none⟩ = some (.int .i64 y)) (z1 : b1 < w.heap.size) (z2 : b2 < w.heap.size) :
    Calls Try.prog 61 #[.agg #[.int .i64 r.X0, .int .i64 r.Y0, .int .i64 r.X1, .int .i64 r.Y1], .pointer (some ⟨b1, 0, none⟩), .pointer (some ⟨b2, 0, none⟩)] w (BlIs (decide (HasR r x y)) w) := by
  have HH := Lib.hid (fun w' => thas_any r x y (rok_in hr) w')
  clear hr
  generalize decide (HasR r x y) = d at *
  go_enter Try.func61, Try.ntmps61
  go_wp2_with (go_at_call 62; refine (HH.out _).mono ?_; rintro e w1 ⟨rfl, hb⟩; obtain ⟨hc, hf⟩ := bcell hb; have hz := hb.size; (try simp at hz); have hz0 : w.heap.size < w1.heap.size := (by omega); have HBl := Lib.hid hb; clear hb)
  go_ret
  exact ⟨rfl, by (repeat' first | exact Below.refl _ _ | assumption | (apply below_drewN) | (refine Below.setCell ?_ (by (try simp); (try omega)) _) | (refine Below.alloc ?_ (by (try simp); (try omega)) _) | (refine Below.trans ?_ (Below.mono (Hid.out (by assumption)) (by (try simp); (try omega)))))⟩
def IdxIs (l : List Rc) (x y : Int) (w : World) (e : Ending) (w' : World) : Prop := ∃ i : Int, e = .returned (.int .i64 i) ∧ (0 ≤ i ↔ HasL l x y) ∧ Below w.heap.size w w'
set_option maxHeartbeats 8000000 in
theorem gidx_any (A : Option Addr) (cap : Nat) (l : List Rc) (x y : Int) (b1 b2 : Nat) (w : World) (hl : RIn w A cap l) (hok : ∀ r ∈ l, ROk r) (h1 : w.cell? ⟨b1, 0, none⟩ = some (.int .i64 x)) (h2 : w.cell? ⟨b2, 0, none⟩ = some (.int .i64 y)) (z1 : b1 < w.heap.size) (z2 : b2 < w.heap.size) :
    Calls Try.prog 81 #[.slice A l.length cap, .func (.func 61) #[] #[.pointer (some ⟨b1, 0, none⟩), .pointer (some ⟨b2, 0, none⟩)]] w (IdxIs l x y w) := by
  have HL := Lib.hid hl; clear hl
  have HOK := Lib.hid hok; clear hok
  have HC := Lib.hid (fun (w' : World) (hb : Below w.heap.size w w') (r : Rc) (hr : ROk r) => ghasC_any r x y b1 b2 w' hr ((hb.cell z1).trans h1) ((hb.cell z2).trans h2) (Nat.lt_of_lt_of_le z1 hb.size) (Nat.lt_of_lt_of_le z2 hb.size))
  clear h1 h2 z1 z2
  have HB0 := Lib.hid (Below.refl w.heap.size w)
  go_enter Try.func81, Try.ntmps81
  go_wp2
  go_loopw [8] (fun i wr => ∃ (k : Nat), k ≤ l.length ∧ i = .int .i64 k ∧ Hid (Below w.heap.size w wr) ∧ ∀ j (h : j < l.length), j < k → ¬ HasR l[j] x y) (fun i _ => l.length - (intOf i).toNat)
  case atStart => exact ⟨0, Nat.zero_le _, rfl, HB0, fun j h hj => absurd hj (Nat.not_lt_zero _)⟩
  case round =>
    clear HB0
    obtain ⟨k, hk, rfl, HB, ht⟩ := hrel
    have HT := Lib.hid ht; clear ht
    by_cases hlt : k < l.length
    · obtain ⟨ba, oa, rfl, hba, hva⟩ := HL.out.row (by omega)
      obtain ⟨x0, x1, x2, x3⟩ := hva k hlt
      have eu : ∃ u, u = l[k] := ⟨_, rfl⟩
      obtain ⟨u, hu⟩ := eu
      have hr : ROk u := hu ▸ HOK.out _ (List.getElem_mem hlt)
      rw [← hu] at x0 x1 x2 x3
      have HU := Lib.hid hu; clear hu
      have HC2 := Lib.hid (fun w' hb => HC.out w' hb u hr); clear hr
      have i0 : (0 : Int) ≤ (k : Int) := by omega
      have i1 : (k : Int) < (l.length : Int) := by omega
      clear hva
      have wc := fun o => HB.out.cell (p := ⟨ba, o, none⟩) hba
      have x0 := (wc _).trans x0; have x1 := (wc _).trans x1; have x2 := (wc _).trans x2; have x3 := (wc _).trans x3
      clear wc
      have hbs := HB.out.size
      have hlen := HL.out.len
      by_cases c : HasR u x y
      · have HY : Hid (0 ≤ (k : Int) ↔ HasL l x y) := Lib.hid ⟨fun _ => ⟨u, by rw [HU.out]; exact List.getElem_mem hlt, c⟩, fun _ => by omega⟩
        have HD := Lib.hid (decide_eq_true c); clear c
        go_wp2_with (go_at_call 61; refine (HC2.out _ (by (repeat' first | exact Below.refl _ _ | assumption | (apply below_drewN) | (refine Below.setCell ?_ (by (try simp); (try omega)) _) | (refine Below.alloc ?_ (by (try simp); (try omega)) _) | (refine Below.trans ?_ (Below.mono (Hid.out (by assumption)) (by (try simp); (try omega))))))).mono ?_; rw [HD.out]; rintro e w1 ⟨rfl, hb⟩; have HBl := Lib.hid hb; clear hb)
        go_ret
        exact ⟨_, rfl, HY.out, by (repeat' first | exact Below.refl _ _ | assumption | (apply below_drewN) | (refine Below.setCell ?_ (by (try simp); (try omega)) _) | (refine Below.alloc ?_ (by (try simp); (try omega)) _) | (refine Below.trans ?_ (Below.mono (Hid.out (by assumption)) (by (try simp); (try omega)))))⟩
      · have HN : Hid (∀ j (h : j < l.length), j < k + 1 → ¬ HasR l[j] x y) := Lib.hid (fun j h hj => by
          by_cases e : j < k
          · exact HT.out j h e
          · obtain rfl : j = k := by omega
            rw [← HU.out]; exact c)
        have HD := Lib.hid (decide_eq_false c); clear c
        go_wp2_with (go_at_call 61; refine (HC2.out _ (by (repeat' first | exact Below.refl _ _ | assumption | (apply below_drewN) | (refine Below.setCell ?_ (by (try simp); (try omega)) _) | (refine Below.alloc ?_ (by (try simp); (try omega)) _) | (refine Below.trans ?_ (Below.mono (Hid.out (by assumption)) (by (try simp); (try omega))))))).mono ?_; rw [HD.out]; rintro e w1 ⟨rfl, hb⟩; have HBl := Lib.hid hb; clear hb)
        go_roundw
        case rel => exact ⟨k + 1, by omega, by go_num, Lib.hid (by (repeat' first | exact Below.refl _ _ | assumption | (apply below_drewN) | (refine Below.setCell ?_ (by (try simp); (try omega)) _) | (refine Below.alloc ?_ (by (try simp); (try omega)) _) | (refine Below.trans ?_ (Below.mono (Hid.out (by assumption)) (by (try simp); (try omega)))))), HN.out⟩
        case measure => simp [intOf]; omega
    · obtain rfl : k = l.length := by omega
      have HY : Hid (0 ≤ (-1 : Int) ↔ HasL l x y) := Lib.hid ⟨fun h => absurd h (by decide), fun ⟨r, hr, h⟩ => by
        obtain ⟨j, hj, rfl⟩ := List.mem_iff_getElem.1 hr
        exact absurd h (HT.out j hj hj)⟩
      go_wp2
      go_ret
      exact ⟨_, rfl, HY.out, HB.out⟩
set_option maxHeartbeats 8000000 in
theorem gcf_any (A : Option Addr) (cap : Nat) (l : List Rc) (x y : Int) (b1 b2 : Nat) (w : World) (hl : RIn w A cap l) (hok : ∀ r ∈ l, ROk r) (h1 : w.cell? ⟨b1, 0, none⟩ = some (.int .i64 x)) (h2 : w.cell? ⟨b2, 0, none⟩ = some (.int .i64 y)) (z1 : b1 < w.heap.size) (z2 : b2 < w.heap.size) :
    Calls Try.prog 60 #[.slice A l.length cap, .func (.func 61) #[] #[.pointer (some ⟨b1, 0, none⟩), .pointer (some ⟨b2, 0, none⟩)]] w (BlIs (hasB l x y) w) := by
  have HI := Lib.hid (gidx_any A cap l x y b1 b2 w hl hok h1 h2 z1 z2)
  clear hl hok h1 h2 z1 z2
  go_enter Try.func60, Try.ntmps60
  go_wp2_with (go_at_call 81; refine HI.out.mono ?_; rintro e w1 ⟨i, rfl, hi, hb⟩; have HBl := Lib.hid hb; clear hb)
  go_ret
  refine ⟨?_, by (repeat' first | exact Below.refl _ _ | assumption | (apply below_drewN) | (refine Below.setCell ?_ (by (try simp); (try omega)) _) | (refine Below.alloc ?_ (by (try simp); (try omega)) _) | (refine Below.trans ?_ (Below.mono (Hid.out (by assumption)) (by (try simp); (try omega)))))⟩
  have : decide (0 ≤ i) = hasB l x y := by
    rw [Bool.eq_iff_iff, hasB_iff, decide_eq_true_iff]; exact hi
  rw [← this]; rfl
noncomputable def hasRg (l : List Rc) (x y : Int) : Bool := @decide (RegP l) (Classical.propDecidable _) && hasB l x y
set_option maxHeartbeats 8000000 in
theorem ghas_any (A : Option Addr) (cap : Nat) (l : List Rc) (x y : Int) (w : World) (hl : RIn w A cap l) :
    Calls Try.prog 36 #[.slice A l.length cap, .int .i64 x, .int .i64 y] w (BlIs (hasRg l x y) w) := by
  have HL := Lib.hid hl; clear hl
  by_cases hr : RegP l
  · have HR := Lib.hid (fun w' (h : Below w.heap.size w w') => gright_yes A cap l w' (HL.out.below h).row HL.out.len HL.out.room HL.out.room2 hr)
    have HC := Lib.hid (fun w' (h : Below w.heap.size w w') b1 b2 h1 h2 z1 z2 => gcf_any A cap l x y b1 b2 w' (HL.out.below h) (form_ok hr.1) h1 h2 z1 z2)
    rw [show hasRg l x y = hasB l x y by unfold hasRg; rw [decide_eq_true hr, Bool.true_and]]
    clear hr
    go_enter Try.func36, Try.ntmps36
    go_wp2_with fail
    refine (HR.out _ (by (repeat' first | exact Below.refl _ _ | assumption | (apply below_drewN) | (refine Below.setCell ?_ (by (try simp); (try omega)) _) | (refine Below.alloc ?_ (by (try simp); (try omega)) _) | (refine Below.trans ?_ (Below.mono (Hid.out (by assumption)) (by (try simp); (try omega))))))).mono ?_
    rintro e1 w1 ⟨rfl, hb1⟩
    have HB1 := Lib.hid hb1; clear hb1
    go_wp2_with fail
    have HBW := Lib.hid ((((Below.refl w.heap.size w).alloc (Nat.le_refl _) (Obj.cells #[Value.int IntKind.i64 x] 3)).alloc (by simp <;> omega) (Obj.cells #[Value.int IntKind.i64 y] 3)).trans (HB1.out.mono (by simp <;> omega)))
    have z1 := HB1.out.size
    refine (HC.out w1 HBW.out _ _ ?_ ?_ ?_ ?_).mono ?_
    · exact (HB1.out.cell (p := ⟨w.heap.size, 0, none⟩) (by simp <;> omega)).trans (((Below.refl _ (w.alloc (Obj.cells #[Value.int IntKind.i64 x] 3))).alloc (Nat.le_refl _) (Obj.cells #[Value.int IntKind.i64 y] 3)).cell (p := ⟨w.heap.size, 0, none⟩) (by simp) |>.trans (by rw [Lib.cell_of_heap (heap_alloc_new w _)]; rfl))
    · exact (HB1.out.cell (p := ⟨w.heap.size + 1, 0, none⟩) (by simp)).trans (by rw [show w.heap.size + 1 = (w.alloc (Obj.cells #[Value.int IntKind.i64 x] 3)).heap.size by simp, Lib.cell_of_heap (heap_alloc_new _ _)]; rfl)
    · simp at z1 ⊢; omega
    · simp at z1 ⊢; omega
    rintro e2 w2 ⟨rfl, hb2⟩
    have HB2 := Lib.hid (HBW.out.trans (hb2.mono HBW.out.size)); clear hb2 HB1 HBW z1
    go_wp2_with fail
    go_ret
    exact ⟨rfl, HB2.out⟩
  · have HR := Lib.hid (fun w' (h : Below w.heap.size w w') => gright_no A cap l w' (HL.out.below h).row HL.out.len HL.out.room HL.out.room2 hr)
    rw [show hasRg l x y = false by unfold hasRg; rw [decide_eq_false hr, Bool.false_and]]
    clear hr
    go_enter Try.func36, Try.ntmps36
    go_wp2_with fail
    refine (HR.out _ (by (repeat' first | exact Below.refl _ _ | assumption | (apply below_drewN) | (refine Below.setCell ?_ (by (try simp); (try omega)) _) | (refine Below.alloc ?_ (by (try simp); (try omega)) _) | (refine Below.trans ?_ (Below.mono (Hid.out (by assumption)) (by (try simp); (try omega))))))).mono ?_
    rintro e1 w1 ⟨rfl, hb1⟩
    have HB1 := Lib.hid hb1; clear hb1
    go_wp2_with fail
    have HBW := Lib.hid ((((Below.refl w.heap.size w).alloc (Nat.le_refl _) (Obj.cells #[Value.int IntKind.i64 x] 3)).alloc (by simp <;> omega) (Obj.cells #[Value.int IntKind.i64 y] 3)).trans (HB1.out.mono (by simp <;> omega)))
    go_ret
    exact ⟨rfl, HBW.out⟩
end Go.Proofs.Ytkjblmfmaenllaa
namespace Go.Proofs.Ytkjblmfmaenllaa
open Go.RowKit

theorem bright_yes {A : Option Addr} {cap : Nat} {S : List Sl} {w : World} (h : SIn w A cap S) (hs : SolP S) : Calls Try.prog 27 #[.slice A S.length cap] w (BlIs true w) :=
  (bright_any A cap S w h).mono fun e w' ⟨b, hb, h'⟩ => by obtain rfl := hb.2 hs; exact h'
theorem bright_no {A : Option Addr} {cap : Nat} {S : List Sl} {w : World} (h : SIn w A cap S) (hs : ¬ SolP S) : Calls Try.prog 27 #[.slice A S.length cap] w (BlIs false w) :=
  (bright_any A cap S w h).mono fun e w' ⟨b, hb, h'⟩ => by
    cases b with
    | false => exact h'
    | true => exact absurd (hb.1 rfl) hs
theorem sol_reg {S : List Sl} (h : SolP S) (z : Int) : RegP (secS S z) := by
  refine ⟨sec_form h.form z, ?_⟩
  by_cases e : secS S z = []
  · rw [e]; simp
  · obtain ⟨s, hs, _, _, k⟩ := sec_mem e
    rw [← k]; exact h.rects s hs
noncomputable def hasGS (S : List Sl) (x y z : Int) : Bool := @decide (SolP S) (Classical.propDecidable _) && hasB (secS S z) x y
theorem hasGS_yes {S : List Sl} (h : SolP S) (x y z : Int) : hasGS S x y z = hasB (secS S z) x y := by unfold hasGS; rw [@decide_eq_true _ (Classical.propDecidable _) h, Bool.true_and]
theorem hasGS_no {S : List Sl} (h : ¬ SolP S) (x y z : Int) : hasGS S x y z = false := by unfold hasGS; rw [@decide_eq_false _ (Classical.propDecidable _) h, Bool.false_and]
set_option maxHeartbeats 4000000 in
theorem bhas_any (A : Option Addr) (cap : Nat) (S : List Sl) (x y z : Int) (w : World) (h : SIn w A cap S) : Calls Try.prog 22 #[.slice A S.length cap, .int .i64 x, .int .i64 y, .int .i64 z] w (BlIs (hasGS S x y z) w) := by
  by_cases hs : SolP S
  · have HR := Lib.hid (bright_yes h hs)
    have HA := Lib.hid (fun w' (hb : Below w.heap.size w w') => barea_any A cap S z w' (h.below hb))
    have HH := Lib.hid (fun (A' : Option Addr) (c' : Nat) (w' : World) (hr : RIn w' A' c' (secS S z)) => ghas_any A' c' (secS S z) x y w' hr)
    rw [hasGS_yes hs]
    have HE : Hid (hasRg (secS S z) x y = hasB (secS S z) x y) := Lib.hid (by unfold hasRg; rw [decide_eq_true (sol_reg hs z), Bool.true_and])
    clear h hs
    go_enter Try.func22, Try.ntmps22
    go_wp2_with fail
    refine HR.out.mono ?_
    rintro e1 w1 ⟨rfl, hb1⟩
    have HB1 := Lib.hid hb1; clear hb1
    go_wp2_with fail
    refine (HA.out _ HB1.out).mono ?_
    rintro e2 w2 ⟨A2, c2, rfl, hr2, hb2⟩
    have HB2 := Lib.hid (HB1.out.trans (hb2.mono HB1.out.size))
    have HHH := Lib.hid (HH.out _ _ _ hr2)
    rw [HE.out] at HHH
    clear hb2 hr2 HA HH HE HR
    generalize hasB (secS S z) x y = bb at *
    generalize (secS S z).length = nn at *
    go_wp2_with fail
    refine HHH.out.mono ?_
    rintro e3 w3 ⟨rfl, hb3⟩
    have HB3 := Lib.hid (HB2.out.trans (hb3.mono HB2.out.size))
    clear hb3 HHH
    go_wp2_with fail
    go_ret
    exact ⟨rfl, HB3.out⟩
  · have HR := Lib.hid (bright_no h hs)
    rw [hasGS_no hs]
    clear h hs
    go_enter Try.func22, Try.ntmps22
    go_wp2_with fail
    refine HR.out.mono ?_
    rintro e1 w1 ⟨rfl, hb1⟩
    have HB1 := Lib.hid hb1; clear hb1
    go_wp2_with fail
    go_ret
    exact ⟨rfl, HB1.out⟩
/-! ### the volume -/
theorem volS_next (S : List Sl) (k : Nat) (h : k < S.length) : volS (S.take (k + 1)) = volS (S.take k) + areaL S[k].ar * (S[k].z1 - S[k].z0) := by
  rw [List.take_succ_eq_append_getElem h, volS_append]; simp [volS]
def Vx (p : Nat) (u : Sl) (A : Option Addr) (c : Nat) (w0 w : World) : Prop := w.cell? ⟨p, 0, none⟩ = some (.int .i64 u.z0) ∧ w.cell? ⟨p, 1, none⟩ = some (.int .i64 u.z1) ∧ w.cell? ⟨p, 2, none⟩ = some (.slice A u.ar.length c) ∧ p < w.heap.size ∧ Hid (Below w0.heap.size w0 w)
theorem Vx.go {p : Nat} {u : Sl} {A : Option Addr} {c : Nat} {w0 w w' : World} (h : Vx p u A c w0 w) (hb : Below w.heap.size w w') : Vx p u A c w0 w' := by
  obtain ⟨h0, h1, h2, h6, h8⟩ := h
  have cp := fun i => hb.cell (p := ⟨p, i, none⟩) h6
  exact ⟨(cp _).trans h0, (cp _).trans h1, (cp _).trans h2, Nat.lt_of_lt_of_le h6 hb.size, Lib.hid (h8.out.trans (hb.mono h8.out.size))⟩
theorem Vx.drewN {p : Nat} {u : Sl} {A : Option Addr} {c : Nat} {w0 w : World} (h : Vx p u A c w0 w) (n : Nat) : Vx p u A c w0 (w.drewN n) := h.go (below_drewN (Below.refl _ _) n)
noncomputable def volG (S : List Sl) : Int := @ite _ (SolP S) (Classical.propDecidable _) (volS S) 0
theorem prod_bd {a d : Int} (h0 : 0 ≤ a) (h1 : a ≤ 1099511627776) (h2 : 0 ≤ d) (h3 : d ≤ 4096) : 0 ≤ a * d ∧ a * d ≤ 4503599627370496 := by
  refine ⟨Int.mul_nonneg h0 h2, Int.le_trans (Int.mul_le_mul h1 h3 h2 (by omega)) (by decide)⟩
theorem sumN_le {n : Nat} {f : Nat → Nat} {b : Nat} (h : ∀ i, i < n → f i ≤ b) : sumN n f ≤ n * b := by
  induction n with
  | zero => simp [sumN]
  | succ n ih =>
    have h1 := ih (fun i hi => h i (by omega))
    have h2 := h n (by omega)
    have e : sumN (n + 1) f = sumN n f + f n := rfl
    rw [e, Nat.add_mul]; omega
/-- a form's area is at most that of the grid. -/
theorem form_grid {l : List Rc} (h : IsForm l) : areaL l ≤ 1099511627776 := by
  rw [form_area h]
  have : cntC 1048576 (hasD l) ≤ 1048576 * 1048576 := sumN_le (fun i _ => by
    have := sumN_le (n := 1048576) (b := 1) (f := fun y : Nat => if hasD l (i : Int) (y : Int) = true then 1 else 0) (fun j _ => by split <;> omega)
    omega)
  omega
theorem vol_bd {S : List Sl} (h : SForm S) : 0 ≤ volS S ∧ volS S ≤ S.length * 4503599627370496 := by
  have key : ∀ T : List Sl, (∀ s ∈ T, SlOk s) → 0 ≤ volS T ∧ volS T ≤ T.length * 4503599627370496 := by
    intro T
    induction T with
    | nil => intro _; simp [volS]
    | cons s T ih =>
      intro hT
      have k := ih (fun s hs => hT s (List.mem_cons_of_mem _ hs))
      have hs := hT s List.mem_cons_self
      have hh := hs.h
      unfold HOk at hh
      have h1 := prod_bd (area_nnL s.ar) (form_grid hs.form) (d := s.z1 - s.z0) (by omega) (by omega)
      rw [volS, List.length_cons]
      omega
  exact key S h.each
end Go.Proofs.Ytkjblmfmaenllaa
