/-
  Contracts of the program's layer 6 (13): Has, with slices.ContainsFunc and slices.IndexFunc at its closure.
  Contracts of the program's layer 9, 3: Has, Volume, Section, Same.
  Contracts of the program's layer 9, 4: the closures of Of and both; join.
-/
import Derived.Test.YtdnoadngfkiabaaGreatS911
import Derived.Test.YtdnoadngfkiabaaGreatS921
import Derived.Test.YtdnoadngfkiabaaGreatS920
import Derived.Shelf.Abstract
set_option linter.unusedVariables false
set_option maxRecDepth 100000
namespace Go.Proofs.YtdnoadngfkiabaaGreat
open Go.RowKit

theorem rok_in {r : Rc} (h : ROk r) : InR r := by
  obtain ⟨⟨a, b, c⟩, d, e, f⟩ := h
  refine ⟨?_, ?_, ?_, ?_⟩ <;> constructor <;> omega
set_option maxHeartbeats 4000000 in
theorem ghasC_any (r : Rc) (x y : Int) (b1 b2 : Nat) (w : World) (hr : ROk r) (h1 : w.cell? ⟨b1, 0, none⟩ = some (.int .i64 x)) (h2 : w.cell? ⟨b2, 0, none⟩ = some (.int .i64 y)) (z1 : b1 < w.heap.size) (z2 : b2 < w.heap.size) :
    Calls Tryz.prog 81 #[.agg #[.int .i64 r.X0, .int .i64 r.Y0, .int .i64 r.X1, .int .i64 r.Y1], .pointer (some ⟨b1, 0, none⟩), .pointer (some ⟨b2, 0, none⟩)] w (BlIs (decide (HasR r x y)) w) := by
  have HH := Lib.hid (fun w' => thas_any r x y (rok_in hr) w')
  clear hr
  generalize decide (HasR r x y) = d at *
  go_enter Tryz.func81, Tryz.ntmps81
  go_wp2_with (go_at_call 82; refine (HH.out _).mono ?_; rintro e w1 ⟨rfl, hb⟩; obtain ⟨hc, hf⟩ := bcell hb; have hz := hb.size; (try simp at hz); have hz0 : w.heap.size < w1.heap.size := (by omega); have HBl := Lib.hid hb; clear hb)
  go_ret
  exact ⟨rfl, by (repeat' first | exact Below.refl _ _ | assumption | (apply below_drewN) | (refine Below.setCell ?_ (by (try simp); (try omega)) _) | (refine Below.alloc ?_ (by (try simp); (try omega)) _) | (refine Below.trans ?_ (Below.mono (Hid.out (by assumption)) (by (try simp); (try omega)))))⟩
def IdxIs (l : List Rc) (x y : Int) (w : World) (e : Ending) (w' : World) : Prop := ∃ i : Int, e = .returned (.int .i64 i) ∧ (0 ≤ i ↔ HasL l x y) ∧ Below w.heap.size w w'
set_option maxHeartbeats 8000000 in
theorem gidx_any (A : Option Addr) (cap : Nat) (l : List Rc) (x y : Int) (b1 b2 : Nat) (w : World) (hl : RIn w A cap l) (hok : ∀ r ∈ l, ROk r) (h1 : w.cell? ⟨b1, 0, none⟩ = some (.int .i64 x)) (h2 : w.cell? ⟨b2, 0, none⟩ = some (.int .i64 y)) (z1 : b1 < w.heap.size) (z2 : b2 < w.heap.size) :
    Calls Tryz.prog 98 #[.slice A l.length cap, .func (.func 81) #[] #[.pointer (some ⟨b1, 0, none⟩), .pointer (some ⟨b2, 0, none⟩)]] w (IdxIs l x y w) := by
  have HL := Lib.hid hl; clear hl
  have HOK := Lib.hid hok; clear hok
  have HC := Lib.hid (fun (w' : World) (hb : Below w.heap.size w w') (r : Rc) (hr : ROk r) => ghasC_any r x y b1 b2 w' hr ((hb.cell z1).trans h1) ((hb.cell z2).trans h2) (Nat.lt_of_lt_of_le z1 hb.size) (Nat.lt_of_lt_of_le z2 hb.size))
  clear h1 h2 z1 z2
  have HB0 := Lib.hid (Below.refl w.heap.size w)
  go_enter Tryz.func98, Tryz.ntmps98
  go_wp2
  go_loopw [8] (fun i wr => ∃ (k : Nat), k ≤ l.length ∧ i = .int .i64 k ∧ Hid (Below w.heap.size w wr) ∧ ∀ j (h : j < l.length), j < k → ¬ HasR l[j] x y) (fun i _ => l.length - (intOf i).toNat)
  case atStart => exact ⟨0, Nat.zero_le _, rfl, HB0, fun j h hj => absurd hj (Nat.not_lt_zero _)⟩
  case round =>
    clear HB0
    obtain ⟨k, hk, rfl, HB, ht⟩ := hrel
    have HT := Lib.hid ht; clear ht
    by_cases hlt : k < l.length
    · obtain ⟨ba, oa, rfl, hba, hva⟩ := HL.out.row (by omega)
      obtain ⟨x0, x1, x2, x3⟩ := hva k hlt
      have eu : ∃ u, u = l[k] := ⟨_, rfl⟩
      obtain ⟨u, hu⟩ := eu
      have hr : ROk u := hu ▸ HOK.out _ (List.getElem_mem hlt)
      rw [← hu] at x0 x1 x2 x3
      have HU := Lib.hid hu; clear hu
      have HC2 := Lib.hid (fun w' hb => HC.out w' hb u hr); clear hr
      have i0 : (0 : Int) ≤ (k : Int) := by omega
      have i1 : (k : Int) < (l.length : Int) := by omega
      clear hva
      have wc := fun o => HB.out.cell (p := ⟨ba, o, none⟩) hba
      have x0 := (wc _).trans x0; have x1 := (wc _).trans x1; have x2 := (wc _).trans x2; have x3 := (wc _).trans x3
      clear wc
      have hbs := HB.out.size
      have hlen := HL.out.len
      by_cases c : HasR u x y
      · have HY : Hid (0 ≤ (k : Int) ↔ HasL l x y) := Lib.hid ⟨fun _ => ⟨u, by rw [HU.out]; exact List.getElem_mem hlt, c⟩, fun _ => by omega⟩
        have HD := Lib.hid (decide_eq_true c); clear c
        go_wp2_with (go_at_call 81; refine (HC2.out _ (by (repeat' first | exact Below.refl _ _ | assumption | (apply below_drewN) | (refine Below.setCell ?_ (by (try simp); (try omega)) _) | (refine Below.alloc ?_ (by (try simp); (try omega)) _) | (refine Below.trans ?_ (Below.mono (Hid.out (by assumption)) (by (try simp); (try omega))))))).mono ?_; rw [HD.out]; rintro e w1 ⟨rfl, hb⟩; have HBl := Lib.hid hb; clear hb)
        go_ret
        exact ⟨_, rfl, HY.out, by (repeat' first | exact Below.refl _ _ | assumption | (apply below_drewN) | (refine Below.setCell ?_ (by (try simp); (try omega)) _) | (refine Below.alloc ?_ (by (try simp); (try omega)) _) | (refine Below.trans ?_ (Below.mono (Hid.out (by assumption)) (by (try simp); (try omega)))))⟩
      · have HN : Hid (∀ j (h : j < l.length), j < k + 1 → ¬ HasR l[j] x y) := Lib.hid (fun j h hj => by
          by_cases e : j < k
          · exact HT.out j h e
          · obtain rfl : j = k := by omega
            rw [← HU.out]; exact c)
        have HD := Lib.hid (decide_eq_false c); clear c
        go_wp2_with (go_at_call 81; refine (HC2.out _ (by (repeat' first | exact Below.refl _ _ | assumption | (apply below_drewN) | (refine Below.setCell ?_ (by (try simp); (try omega)) _) | (refine Below.alloc ?_ (by (try simp); (try omega)) _) | (refine Below.trans ?_ (Below.mono (Hid.out (by assumption)) (by (try simp); (try omega))))))).mono ?_; rw [HD.out]; rintro e w1 ⟨rfl, hb⟩; have HBl := Lib.hid hb; clear hb)
        go_roundw
        case rel => exact ⟨k + 1, by omega, by go_num, Lib.hid (by (repeat' first | exact Below.refl _ _ | assumption | (apply below_drewN) | (refine Below.setCell ?_ (by (try simp); (try omega)) _) | (refine Below.alloc ?_ (by (try simp); (try omega)) _) | (refine Below.trans ?_ (Below.mono (Hid.out (by assumption)) (by (try simp); (try omega)))))), HN.out⟩
        case measure => simp [intOf]; omega
    · obtain rfl : k = l.length := by omega
      have HY : Hid (0 ≤ (-1 : Int) ↔ HasL l x y) := Lib.hid ⟨fun h => absurd h (by decide), fun ⟨r, hr, h⟩ => by
        obtain ⟨j, hj, rfl⟩ := List.mem_iff_getElem.1 hr
        exact absurd h (HT.out j hj hj)⟩
      go_wp2
      go_ret
      exact ⟨_, rfl, HY.out, HB.out⟩
set_option maxHeartbeats 8000000 in
theorem gcf_any (A : Option Addr) (cap : Nat) (l : List Rc) (x y : Int) (b1 b2 : Nat) (w : World) (hl : RIn w A cap l) (hok : ∀ r ∈ l, ROk r) (h1 : w.cell? ⟨b1, 0, none⟩ = some (.int .i64 x)) (h2 : w.cell? ⟨b2, 0, none⟩ = some (.int .i64 y)) (z1 : b1 < w.heap.size) (z2 : b2 < w.heap.size) :
    Calls Tryz.prog 80 #[.slice A l.length cap, .func (.func 81) #[] #[.pointer (some ⟨b1, 0, none⟩), .pointer (some ⟨b2, 0, none⟩)]] w (BlIs (hasB l x y) w) := by
  have HI := Lib.hid (gidx_any A cap l x y b1 b2 w hl hok h1 h2 z1 z2)
  clear hl hok h1 h2 z1 z2
  go_enter Tryz.func80, Tryz.ntmps80
  go_wp2_with (go_at_call 98; refine HI.out.mono ?_; rintro e w1 ⟨i, rfl, hi, hb⟩; have HBl := Lib.hid hb; clear hb)
  go_ret
  refine ⟨?_, by (repeat' first | exact Below.refl _ _ | assumption | (apply below_drewN) | (refine Below.setCell ?_ (by (try simp); (try omega)) _) | (refine Below.alloc ?_ (by (try simp); (try omega)) _) | (refine Below.trans ?_ (Below.mono (Hid.out (by assumption)) (by (try simp); (try omega)))))⟩
  have : decide (0 ≤ i) = hasB l x y := by
    rw [Bool.eq_iff_iff, hasB_iff, decide_eq_true_iff]; exact hi
  rw [← this]; rfl
noncomputable def hasRg (l : List Rc) (x y : Int) : Bool := @decide (RegP l) (Classical.propDecidable _) && hasB l x y
set_option maxHeartbeats 8000000 in
theorem ghas_any (A : Option Addr) (cap : Nat) (l : List Rc) (x y : Int) (w : World) (hl : RIn w A cap l) :
    Calls Tryz.prog 52 #[.slice A l.length cap, .int .i64 x, .int .i64 y] w (BlIs (hasRg l x y) w) := by
  have HL := Lib.hid hl; clear hl
  by_cases hr : RegP l
  · have HR := Lib.hid (fun w' (h : Below w.heap.size w w') => gright_yes A cap l w' (HL.out.below h).row HL.out.len HL.out.room HL.out.room2 hr)
    have HC := Lib.hid (fun w' (h : Below w.heap.size w w') b1 b2 h1 h2 z1 z2 => gcf_any A cap l x y b1 b2 w' (HL.out.below h) (form_ok hr.1) h1 h2 z1 z2)
    rw [show hasRg l x y = hasB l x y by unfold hasRg; rw [decide_eq_true hr, Bool.true_and]]
    clear hr
    go_enter Tryz.func52, Tryz.ntmps52
    go_wp2_with fail
    refine (HR.out _ (by (repeat' first | exact Below.refl _ _ | assumption | (apply below_drewN) | (refine Below.setCell ?_ (by (try simp); (try omega)) _) | (refine Below.alloc ?_ (by (try simp); (try omega)) _) | (refine Below.trans ?_ (Below.mono (Hid.out (by assumption)) (by (try simp); (try omega))))))).mono ?_
    rintro e1 w1 ⟨rfl, hb1⟩
    have HB1 := Lib.hid hb1; clear hb1
    go_wp2_with fail
    have HBW := Lib.hid ((((Below.refl w.heap.size w).alloc (Nat.le_refl _) (Obj.cells #[Value.int IntKind.i64 x] 3)).alloc (by simp <;> omega) (Obj.cells #[Value.int IntKind.i64 y] 3)).trans (HB1.out.mono (by simp <;> omega)))
    have z1 := HB1.out.size
    refine (HC.out w1 HBW.out _ _ ?_ ?_ ?_ ?_).mono ?_
    · exact (HB1.out.cell (p := ⟨w.heap.size, 0, none⟩) (by simp <;> omega)).trans (((Below.refl _ (w.alloc (Obj.cells #[Value.int IntKind.i64 x] 3))).alloc (Nat.le_refl _) (Obj.cells #[Value.int IntKind.i64 y] 3)).cell (p := ⟨w.heap.size, 0, none⟩) (by simp) |>.trans (by rw [Lib.cell_of_heap (heap_alloc_new w _)]; rfl))
    · exact (HB1.out.cell (p := ⟨w.heap.size + 1, 0, none⟩) (by simp)).trans (by rw [show w.heap.size + 1 = (w.alloc (Obj.cells #[Value.int IntKind.i64 x] 3)).heap.size by simp, Lib.cell_of_heap (heap_alloc_new _ _)]; rfl)
    · simp at z1 ⊢; omega
    · simp at z1 ⊢; omega
    rintro e2 w2 ⟨rfl, hb2⟩
    have HB2 := Lib.hid (HBW.out.trans (hb2.mono HBW.out.size)); clear hb2 HB1 HBW z1
    go_wp2_with fail
    go_ret
    exact ⟨rfl, HB2.out⟩
  · have HR := Lib.hid (fun w' (h : Below w.heap.size w w') => gright_no A cap l w' (HL.out.below h).row HL.out.len HL.out.room HL.out.room2 hr)
    rw [show hasRg l x y = false by unfold hasRg; rw [decide_eq_false hr, Bool.false_and]]
    clear hr
    go_enter Tryz.func52, Tryz.ntmps52
    go_wp2_with fail
    refine (HR.out _ (by (repeat' first | exact Below.refl _ _ | assumption | (apply below_drewN) | (refine Below.setCell ?_ (by (try simp); (try omega)) _) | (refine Below.alloc ?_ (by (try simp); (try omega)) _) | (refine Below.trans ?_ (Below.mono (Hid.out (by assumption)) (by (try simp); (try omega))))))).mono ?_
    rintro e1 w1 ⟨rfl, hb1⟩
    have HB1 := Lib.hid hb1; clear hb1
    go_wp2_with fail
    have HBW := Lib.hid ((((Below.refl w.heap.size w).alloc (Nat.le_refl _) (Obj.cells #[Value.int IntKind.i64 x] 3)).alloc (by simp <;> omega) (Obj.cells #[Value.int IntKind.i64 y] 3)).trans (HB1.out.mono (by simp <;> omega)))
    go_ret
    exact ⟨rfl, HBW.out⟩
end Go.Proofs.YtdnoadngfkiabaaGreat
namespace Go.Proofs.YtdnoadngfkiabaaGreat
open Go.RowKit

theorem bright_yes {A : Option Addr} {cap : Nat} {S : List Sl} {w : World} (h : SIn w A cap S) (hs : SolP S) : Calls Tryz.prog 19 #[.slice A S.length cap] w (BlIs true w) :=
  (bright_any A cap S w h).mono fun e w' ⟨b, hb, h'⟩ => by obtain rfl := hb.2 hs; exact h'
theorem bright_no {A : Option Addr} {cap : Nat} {S : List Sl} {w : World} (h : SIn w A cap S) (hs : ¬ SolP S) : Calls Tryz.prog 19 #[.slice A S.length cap] w (BlIs false w) :=
  (bright_any A cap S w h).mono fun e w' ⟨b, hb, h'⟩ => by
    cases b with
    | false => exact h'
    | true => exact absurd (hb.1 rfl) hs
theorem sol_reg {S : List Sl} (h : SolP S) (z : Int) : RegP (secS S z) := by
  refine ⟨sec_form h.form z, ?_⟩
  by_cases e : secS S z = []
  · rw [e]; simp
  · obtain ⟨s, hs, _, _, k⟩ := sec_mem e
    rw [← k]; exact h.rects s hs
noncomputable def hasGS (S : List Sl) (x y z : Int) : Bool := @decide (SolP S) (Classical.propDecidable _) && hasB (secS S z) x y
theorem hasGS_yes {S : List Sl} (h : SolP S) (x y z : Int) : hasGS S x y z = hasB (secS S z) x y := by unfold hasGS; rw [@decide_eq_true _ (Classical.propDecidable _) h, Bool.true_and]
theorem hasGS_no {S : List Sl} (h : ¬ SolP S) (x y z : Int) : hasGS S x y z = false := by unfold hasGS; rw [@decide_eq_false _ (Classical.propDecidable _) h, Bool.false_and]
set_option maxHeartbeats 4000000 in
theorem bhas_any (A : Option Addr) (cap : Nat) (S : List Sl) (x y z : Int) (w : World) (h : SIn w A cap S) : Calls Tryz.prog 18 #[.slice A S.length cap, .int .i64 x, .int .i64 y, .int .i64 z] w (BlIs (hasGS S x y z) w) := by
  by_cases hs : SolP S
  · have HR := Lib.hid (bright_yes h hs)
    have HA := Lib.hid (fun w' (hb : Below w.heap.size w w') => barea_any A cap S z w' (h.below hb))
    have HH := Lib.hid (fun (A' : Option Addr) (c' : Nat) (w' : World) (hr : RIn w' A' c' (secS S z)) => ghas_any A' c' (secS S z) x y w' hr)
    rw [hasGS_yes hs]
    have HE : Hid (hasRg (secS S z) x y = hasB (secS S z) x y) := Lib.hid (by unfold hasRg; rw [decide_eq_true (sol_reg hs z), Bool.true_and])
    clear h hs
    go_enter Tryz.func18, Tryz.ntmps18
    go_wp2_with fail
    refine HR.out.mono ?_
    rintro e1 w1 ⟨rfl, hb1⟩
    have HB1 := Lib.hid hb1; clear hb1
    go_wp2_with fail
    refine (HA.out _ HB1.out).mono ?_
    rintro e2 w2 ⟨A2, c2, rfl, hr2, hb2⟩
    have HB2 := Lib.hid (HB1.out.trans (hb2.mono HB1.out.size))
    have HHH := Lib.hid (HH.out _ _ _ hr2)
    rw [HE.out] at HHH
    clear hb2 hr2 HA HH HE HR
    generalize hasB (secS S z) x y = bb at *
    generalize (secS S z).length = nn at *
    go_wp2_with fail
    refine HHH.out.mono ?_
    rintro e3 w3 ⟨rfl, hb3⟩
    have HB3 := Lib.hid (HB2.out.trans (hb3.mono HB2.out.size))
    clear hb3 HHH
    go_wp2_with fail
    go_ret
    exact ⟨rfl, HB3.out⟩
  · have HR := Lib.hid (bright_no h hs)
    rw [hasGS_no hs]
    clear h hs
    go_enter Tryz.func18, Tryz.ntmps18
    go_wp2_with fail
    refine HR.out.mono ?_
    rintro e1 w1 ⟨rfl, hb1⟩
    have HB1 := Lib.hid hb1; clear hb1
    go_wp2_with fail
    go_ret
    exact ⟨rfl, HB1.out⟩
/-! ### the volume -/
theorem volS_next (S : List Sl) (k : Nat) (h : k < S.length) : volS (S.take (k + 1)) = volS (S.take k) + areaL S[k].ar * (S[k].z1 - S[k].z0) := by
  rw [List.take_succ_eq_append_getElem h, volS_append]; simp [volS]
def Vx (p : Nat) (u : Sl) (A : Option Addr) (c : Nat) (w0 w : World) : Prop := w.cell? ⟨p, 0, none⟩ = some (.int .i64 u.z0) ∧ w.cell? ⟨p, 1, none⟩ = some (.int .i64 u.z1) ∧ w.cell? ⟨p, 2, none⟩ = some (.slice A u.ar.length c) ∧ p < w.heap.size ∧ Hid (Below w0.heap.size w0 w)
theorem Vx.go {p : Nat} {u : Sl} {A : Option Addr} {c : Nat} {w0 w w' : World} (h : Vx p u A c w0 w) (hb : Below w.heap.size w w') : Vx p u A c w0 w' := by
  obtain ⟨h0, h1, h2, h6, h8⟩ := h
  have cp := fun i => hb.cell (p := ⟨p, i, none⟩) h6
  exact ⟨(cp _).trans h0, (cp _).trans h1, (cp _).trans h2, Nat.lt_of_lt_of_le h6 hb.size, Lib.hid (h8.out.trans (hb.mono h8.out.size))⟩
theorem Vx.drewN {p : Nat} {u : Sl} {A : Option Addr} {c : Nat} {w0 w : World} (h : Vx p u A c w0 w) (n : Nat) : Vx p u A c w0 (w.drewN n) := h.go (below_drewN (Below.refl _ _) n)
noncomputable def volG (S : List Sl) : Int := @ite _ (SolP S) (Classical.propDecidable _) (volS S) 0
theorem prod_bd {a d : Int} (h0 : 0 ≤ a) (h1 : a ≤ 1099511627776) (h2 : 0 ≤ d) (h3 : d ≤ 4096) : 0 ≤ a * d ∧ a * d ≤ 4503599627370496 := by
  refine ⟨Int.mul_nonneg h0 h2, Int.le_trans (Int.mul_le_mul h1 h3 h2 (by omega)) (by decide)⟩
theorem sumN_le {n : Nat} {f : Nat → Nat} {b : Nat} (h : ∀ i, i < n → f i ≤ b) : sumN n f ≤ n * b := by
  induction n with
  | zero => simp [sumN]
  | succ n ih =>
    have h1 := ih (fun i hi => h i (by omega))
    have h2 := h n (by omega)
    have e : sumN (n + 1) f = sumN n f + f n := rfl
    rw [e, Nat.add_mul]; omega
/-- a form's area is at most that of the grid. -/
theorem form_grid {l : List Rc} (h : IsForm l) : areaL l ≤ 1099511627776 := by
  rw [form_area h]
  have : cntC 1048576 (hasD l) ≤ 1048576 * 1048576 := sumN_le (fun i _ => by
    have := sumN_le (n := 1048576) (b := 1) (f := fun y : Nat => if hasD l (i : Int) (y : Int) = true then 1 else 0) (fun j _ => by split <;> omega)
    omega)
  omega
theorem vol_bd {S : List Sl} (h : SForm S) : 0 ≤ volS S ∧ volS S ≤ S.length * 4503599627370496 := by
  have key : ∀ T : List Sl, (∀ s ∈ T, SlOk s) → 0 ≤ volS T ∧ volS T ≤ T.length * 4503599627370496 := by
    intro T
    induction T with
    | nil => intro _; simp [volS]
    | cons s T ih =>
      intro hT
      have k := ih (fun s hs => hT s (List.mem_cons_of_mem _ hs))
      have hs := hT s List.mem_cons_self
      have hh := hs.h
      unfold HOk at hh
      have h1 := prod_bd (area_nnL s.ar) (form_grid hs.form) (d := s.z1 - s.z0) (by omega) (by omega)
      rw [volS, List.length_cons]
      omega
  exact key S h.each
set_option maxHeartbeats 16000000 in
theorem bvolume_yes {A : Option Addr} {cap : Nat} {S : List Sl} {w : World} (h : SIn w A cap S) (hs : SolP S) : Calls Tryz.prog 14 #[.slice A S.length cap] w (InIs (volS S) w) := by
  have HR := Lib.hid (bright_yes h hs)
  have H1 := Lib.hid h.row
  have HS := Lib.hid hs
  have hlen := hs.len
  clear h hs
  go_enter Tryz.func14, Tryz.ntmps14
  go_wp2_with fail
  refine HR.out.mono ?_
  rintro e1 w1 ⟨rfl, hb1⟩
  have HB1 := Lib.hid hb1; clear hb1 HR
  go_wp2_with fail
  go_loopw [3, 11] (fun s i wr => ∃ k : Nat, k ≤ S.length ∧ i = .int .i64 k ∧ s = .int .i64 (volS (S.take k)) ∧ Hid (Below w.heap.size w wr)) (fun _ i _ => S.length - (intOf i).toNat)
  case atStart => exact ⟨0, Nat.zero_le _, rfl, rfl, HB1⟩
  case round =>
    clear HB1
    obtain ⟨k, hk, rfl, rfl, HB⟩ := hrel
    by_cases hlt : k < S.length
    · obtain ⟨b1, o1, rfl, hb1, hv1⟩ := H1.out (by omega)
      obtain ⟨x0, x1, Aj, cj, x2, hr⟩ := hv1 k hlt
      have wc := fun o => HB.out.cell (p := ⟨b1, o, none⟩) hb1
      have x0 := (wc _).trans x0; have x1 := (wc _).trans x1; have x2 := (wc _).trans x2
      have hbs := HB.out.size
      have hbw : b1 < wr.heap.size := Nat.lt_of_lt_of_le hb1 hbs
      have n0 : (0 : Int) ≤ (k : Int) := by omega
      have n1 : (k : Int) < (S.length : Int) := by omega
      have hmem := List.getElem_mem hlt
      have hok := HS.out.form.each _ hmem
      have hh := hok.h
      unfold HOk at hh
      have HN := Lib.hid (volS_next S k hlt)
      have hvk : 0 ≤ volS (S.take k) ∧ volS (S.take k) ≤ (S.take k).length * 4503599627370496 := by
        refine vol_bd (sform_of (fun j hj => ?_) (fun j hj => ?_))
        · rw [List.getElem_take]; exact HS.out.form.each _ (List.getElem_mem _)
        · rw [List.getElem_take, List.getElem_take]; exact sform_pair HS.out.form j (by rw [List.length_take] at hj; omega)
      rw [List.length_take] at hvk
      have hw1 : volS (S.take k) ≤ 400000000000000000 := by omega
      have hw0 := hvk.1
      have ha0 := area_nnL S[k].ar
      have ha1 := form_grid hok.form
      have hp := prod_bd ha0 ha1 (d := S[k].z1 - S[k].z0) (by omega) (by omega)
      have HGA := Lib.hid (fun w' (hb : Below w.heap.size w w') => garea_yes Aj cj S[k].ar w' (hr.below hb) ⟨hok.form, HS.out.rects _ hmem⟩)
      clear wc hr hvk hmem hok hv1
      obtain ⟨u, hu⟩ : ∃ u, u = S[k] := ⟨_, rfl⟩
      rw [← hu] at x0 x1 x2 HN ha0 ha1 hp HGA hh
      clear hu
      have q1 : IntKind.i64.wrap (u.z1 - u.z0) = u.z1 - u.z0 := IntWalk.i64_in _ (by omega)
      obtain ⟨pr, hpr⟩ : ∃ pr, pr = areaL u.ar * (u.z1 - u.z0) := ⟨_, rfl⟩
      rw [← hpr] at HN hp
      have q2 : IntKind.i64.wrap (areaL u.ar * (u.z1 - u.z0)) = pr := by rw [← hpr]; exact IntWalk.i64_in _ (by omega)
      have HPR := Lib.hid hpr; clear hpr
      generalize areaL u.ar = ar at *
      obtain ⟨sm, hsm⟩ : ∃ sm, sm = volS (S.take k) := ⟨_, rfl⟩
      rw [← hsm] at HN hw0 hw1 ⊢
      clear hsm
      have q3 : IntKind.i64.wrap (sm + pr) = sm + pr := IntWalk.i64_in _ (by omega)
      have hsa := SlAt.new wr u Aj cj u.ar.length rfl
      have E0 : Hid (Vx wr.heap.size u Aj cj w (wr.alloc (.cells #[.int .i64 u.z0, .int .i64 u.z1, .slice Aj u.ar.length cj] 40))) := Lib.hid ⟨hsa.c0, hsa.c1, hsa.c2, hsa.lt, Lib.hid (HB.out.alloc hbs _)⟩
      have HBA := Lib.hid (HB.out.alloc hbs (.cells #[.int .i64 u.z0, .int .i64 u.z1, .slice Aj u.ar.length cj] 40))
      clear hsa hh ha0 ha1 hp hw0 hw1
      go_wp2_with fail
      go_region_held3 (fun w' => w'.cell? ⟨wr.heap.size, 0, none⟩ = some (.int .i64 u.z0) ∧ w'.cell? ⟨wr.heap.size, 1, none⟩ = some (.int .i64 u.z1) ∧ w'.cell? ⟨wr.heap.size, 2, none⟩ = some (.slice Aj u.ar.length cj) ∧ wr.heap.size < w'.heap.size ∧ Hid (Below w.heap.size w w'))
        (first | exact E0.out | exact Vx.drewN E0.out 1 | exact Vx.go ‹_› ‹_› | assumption)
        (first | (go_at_call 50; refine (HGA.out _ HBA.out.drew).mono ?_; rintro e w' ⟨rfl, hb⟩) | fail)
      have E2 : Vx wr.heap.size u Aj cj w w' := by assumption
      have HB3 := E2.2.2.2.2
      clear E0 E2
      go_wp2_with fail
      go_roundw
      case rel => exact ⟨k + 1, by omega, by go_num, by rw [HN.out], HB3⟩
      case measure => simp [intOf]; omega
    · obtain rfl : k = S.length := by omega
      rw [List.take_length]
      generalize volS S = ar at *
      go_wp2_with fail
      go_ret
      exact ⟨rfl, HB.out⟩
theorem bvolume_no {A : Option Addr} {cap : Nat} {S : List Sl} {w : World} (h : SIn w A cap S) (hs : ¬ SolP S) : Calls Tryz.prog 14 #[.slice A S.length cap] w (InIs 0 w) := by
  have HR := Lib.hid (bright_no h hs)
  clear h hs
  go_enter Tryz.func14, Tryz.ntmps14
  go_wp2_with fail
  refine HR.out.mono ?_
  rintro e1 w1 ⟨rfl, hb1⟩
  have HB1 := Lib.hid hb1; clear hb1 HR
  go_wp2_with fail
  go_ret
  exact ⟨rfl, HB1.out⟩
end Go.Proofs.YtdnoadngfkiabaaGreat
namespace Go.Proofs.YtdnoadngfkiabaaGreat
open Go.RowKit

set_option maxHeartbeats 4000000 in
theorem bofC_any (bl : Nat) (A : Option Addr) (cap : Nat) (l : List Bx) (z : Int) (w : World) (hc : w.cell? ⟨bl, 0, none⟩ = some (.slice A l.length cap)) (hbl : bl < w.heap.size) (h : BxRow w A l) (hok : ∀ b ∈ l, BOk b) (hl : l.length ≤ 200) :
    Calls Tryz.prog 36 #[.int .i64 z, .pointer (some ⟨bl, 0, none⟩)] w (ResIs (capR (secB l z)) w) := by
  have HB := Lib.hid (bbases_any A cap l z w h (by omega))
  have hbl2 := bases_len l z
  have EQ : Hid (ofR (basesB l z) = capR (secB l z)) := Lib.hid (by unfold ofR secB; rw [if_pos (bases_ok hok z), if_pos (by omega)])
  have HG := Lib.hid (fun (A' : Option Addr) (c' : Nat) (w' : World) (hr : RRow w' A' (basesB l z)) => gof_any A' c' (basesB l z) w' hr (by omega))
  clear h hok hl hbl2
  go_enter Tryz.func36, Tryz.ntmps36
  go_wp2_with fail
  refine HB.out.mono ?_
  rintro e1 w1 ⟨v1, rfl, ho1, hb1⟩
  obtain ⟨A1, c1, rfl, hr1, _⟩ := own_rects ho1
  have HB1 := Lib.hid hb1
  have HG1 := Lib.hid (HG.out A1 c1 w1 hr1)
  rw [EQ.out] at HG1
  clear ho1 hr1 hb1 HG HB EQ
  generalize (basesB l z).length = nn at *
  go_wp2_with fail
  refine HG1.out.mono ?_
  rintro e w3 hf
  obtain ⟨A3, c3, rfl, h2, h3⟩ := hf.parts
  have HR : Hid (ResIs (capR (secB l z)) w (.returned (.tuple #[.slice A3 (capR (secB l z)).1.length c3, .int .i64 (capR (secB l z)).2])) w3) := Lib.hid ⟨_, rfl, own_base h2 HB1.out.size, HB1.out.trans (h3.mono HB1.out.size)⟩
  clear hf h2 h3 HG1
  generalize (capR (secB l z)).1.length = n2 at *
  generalize (capR (secB l z)).2 = e2 at *
  go_wp2_with fail
  go_ret2
  exact HR.out
/-! ### both's closure -/
def Zx (bo ba bb K : Nat) (A1 : Option Addr) (n1 c1 : Nat) (A2 : Option Addr) (n2 c2 : Nat) (w0 w : World) : Prop := w.cell? ⟨bo, 0, none⟩ = some (.func (.func K) #[] #[]) ∧ w.cell? ⟨ba, 0, none⟩ = some (.slice A1 n1 c1) ∧ w.cell? ⟨bb, 0, none⟩ = some (.slice A2 n2 c2) ∧ bo < w.heap.size ∧ ba < w.heap.size ∧ bb < w.heap.size ∧ Hid (Below w0.heap.size w0 w)
theorem Zx.go {bo ba bb K : Nat} {A1 : Option Addr} {n1 c1 : Nat} {A2 : Option Addr} {n2 c2 : Nat} {w0 w w' : World} (h : Zx bo ba bb K A1 n1 c1 A2 n2 c2 w0 w) (hb : Below w.heap.size w w') : Zx bo ba bb K A1 n1 c1 A2 n2 c2 w0 w' := by
  obtain ⟨h0, h1, h2, h3, h4, h5, h8⟩ := h
  exact ⟨(hb.cell (p := ⟨bo, 0, none⟩) h3).trans h0, (hb.cell (p := ⟨ba, 0, none⟩) h4).trans h1, (hb.cell (p := ⟨bb, 0, none⟩) h5).trans h2, Nat.lt_of_lt_of_le h3 hb.size, Nat.lt_of_lt_of_le h4 hb.size, Nat.lt_of_lt_of_le h5 hb.size, Lib.hid (h8.out.trans (hb.mono h8.out.size))⟩
theorem Zx.drewN {bo ba bb K : Nat} {A1 : Option Addr} {n1 c1 : Nat} {A2 : Option Addr} {n2 c2 : Nat} {w0 w : World} (h : Zx bo ba bb K A1 n1 c1 A2 n2 c2 w0 w) (n : Nat) : Zx bo ba bb K A1 n1 c1 A2 n2 c2 w0 (w.drewN n) := h.go (below_drewN (Below.refl _ _) n)
/-- a combination of two regions, as the function K gives it. -/
def OpOk (K : Nat) (op : Bool → Bool → Bool) : Prop := ∀ (A1 : Option Addr) (c1 : Nat) (A2 : Option Addr) (c2 : Nat) (a b : List Rc) (w : World), RIn w A1 c1 a → RIn w A2 c2 b → Calls Tryz.prog K #[.slice A1 a.length c1, .slice A2 b.length c2] w (ResIs (opR op a b) w)
set_option maxHeartbeats 16000000 in
theorem bbothC_any (K : Nat) (eg : ∀ args w, (callFunc K args).run Tryz.prog w = .ok (.enter K args) w) (op : Bool → Bool → Bool) (hop : OpOk K op) (bo ba bb : Nat) (A1 : Option Addr) (c1 : Nat) (A2 : Option Addr) (c2 : Nat) (a b : List Sl) (z : Int) (w : World)
    (hz : Zx bo ba bb K A1 a.length c1 A2 b.length c2 w w) (ha : SIn w A1 c1 a) (hb : SIn w A2 c2 b) (pa : SolP a) (pb : SolP b) :
    Calls Tryz.prog 74 #[.int .i64 z, .pointer (some ⟨bo, 0, none⟩), .pointer (some ⟨ba, 0, none⟩), .pointer (some ⟨bb, 0, none⟩)] w (ResIs (capR (secO op a b z)) w) := by
  have E0 := Lib.hid hz
  have HAR : Hid (∀ (S : List Sl) (A : Option Addr) (cap : Nat) (w' : World), ((A = A1 ∧ S = a ∧ cap = c1) ∨ (A = A2 ∧ S = b ∧ cap = c2)) → Zx bo ba bb K A1 a.length c1 A2 b.length c2 w w' → Calls Tryz.prog 54 #[.slice A S.length cap, .int .i64 z] w' (ArIs (secS S z) w')) := Lib.hid (by
    rintro S A cap w' (⟨rfl, rfl, rfl⟩ | ⟨rfl, rfl, rfl⟩) h
    · exact barea_any _ _ _ z w' (ha.below h.2.2.2.2.2.2.out)
    · exact barea_any _ _ _ z w' (hb.below h.2.2.2.2.2.2.out))
  have EQ : Hid (opR op (secS a z) (secS b z) = capR (secO op a b z)) := Lib.hid (op_cap (sol_reg pa z) (sol_reg pb z))
  have HOP : Hid (∀ (B1 : Option Addr) (d1 : Nat) (B2 : Option Addr) (d2 : Nat) (w' : World), RIn w' B1 d1 (secS a z) → RIn w' B2 d2 (secS b z) → Calls Tryz.prog K #[.slice B1 (secS a z).length d1, .slice B2 (secS b z).length d2] w' (ResIs (capR (secO op a b z)) w')) := Lib.hid (fun B1 d1 B2 d2 w' h1 h2 => by
    have := hop B1 d1 B2 d2 _ _ w' h1 h2
    rw [EQ.out] at this; exact this)
  have HOP2 : Hid (∀ e w' w'', ResIs (capR (secO op a b z)) w' e w'' → Zx bo ba bb K A1 a.length c1 A2 b.length c2 w w' → ∃ A3 c3, e = .returned (.tuple #[.slice A3 (capR (secO op a b z)).1.length c3, .int .i64 (capR (secO op a b z)).2]) ∧ Hid (ResIs (capR (secO op a b z)) w (.returned (.tuple #[.slice A3 (capR (secO op a b z)).1.length c3, .int .i64 (capR (secO op a b z)).2])) w'') ∧ Below w'.heap.size w' w'') := Lib.hid (fun e w' w'' h hz => by
    obtain ⟨A3, c3, rfl, h2, h3⟩ := h.parts
    have hb := hz.2.2.2.2.2.2.out
    exact ⟨A3, c3, rfl, Lib.hid ⟨_, rfl, own_base h2 hb.size, hb.trans (h3.mono hb.size)⟩, h3⟩)
  clear hz ha hb pa pb EQ hop
  generalize capR (secO op a b z) = R at *
  obtain ⟨nR, hnR⟩ : ∃ nR, nR = R.1.length := ⟨_, rfl⟩
  rw [← hnR] at HOP2
  clear hnR
  obtain ⟨x0, x1, x2, z0, z1, z2, _⟩ := E0.out
  go_enter Tryz.func74, Tryz.ntmps74
  go_wp2_with fail
  go_region_held3 (fun w' => w'.cell? ⟨bo, 0, none⟩ = some (.func (.func K) #[] #[]) ∧ w'.cell? ⟨ba, 0, none⟩ = some (.slice A1 a.length c1) ∧ w'.cell? ⟨bb, 0, none⟩ = some (.slice A2 b.length c2) ∧ bo < w'.heap.size ∧ ba < w'.heap.size ∧ bb < w'.heap.size ∧ Hid (Below w.heap.size w w'))
    (first | exact E0.out | exact Zx.drewN E0.out 1 | exact Zx.go ‹_› ‹_› | assumption)
    (first
      | (go_at_call 54; refine (HAR.out _ _ _ _ ?_ ?_).mono ?_; (first | exact Or.inl ⟨rfl, rfl, rfl⟩ | exact Or.inr ⟨rfl, rfl, rfl⟩); (first | assumption | exact Zx.drewN E0.out 1); rintro e w' ⟨A', c', rfl, hr, hb⟩)
      | (go_at_fn K; refine (HOP.out _ _ _ _ _ ?_ ?_).mono ?_; (first | assumption | exact RIn.below ‹_› ‹_›); (first | assumption | exact RIn.below ‹_› ‹_›); intro e w' hres; obtain ⟨A3, c3, rfl, HO3, hb⟩ := HOP2.out _ _ _ hres (by assumption); clear hres)
      | fail)
  go_wp2_with fail
  go_ret2
  exact HO3.out
end Go.Proofs.YtdnoadngfkiabaaGreat
