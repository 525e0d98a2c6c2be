/-
  Contracts of the program's layer 6 (13): Has, with slices.ContainsFunc and slices.IndexFunc at its closure.
-/
import Derived.Test.YtppomhgknhmceaaGreatHr
set_option linter.unusedVariables false
set_option maxRecDepth 100000
namespace Go.Proofs.YtppomhgknhmceaaGreat
open Go.RowKit

theorem rok_in {r : Rc} (h : ROk r) : InR r := by
  obtain ⟨⟨a, b, c⟩, d, e, f⟩ := h
  refine ⟨?_, ?_, ?_, ?_⟩ <;> constructor <;> omega
set_option maxHeartbeats 4000000 in
theorem ghasC_any (r : Rc) (x y : Int) (b1 b2 : Nat) (w : World) (hr : ROk r) (h1 : w.cell? ⟨b1, 0, none⟩ = some (.int .i64 x)) (h2 : w.cell? ⟨b2, 0, none⟩ = some (.int .i64 y)) (z1 : b1 < w.heap.size) (z2 : b2 < w.heap.size) :
    Calls Tryz.prog 120 #[.agg #[.int .i64 r.X0, .int .i64 r.Y0, .int .i64 r.X1, .int .i64 r.Y1], .pointer (some ⟨b1, 0, none⟩), .pointer (some ⟨b2, 0, none⟩)] w (BlIs (decide (HasR r x y)) w) := by
  have HH := Lib.hid (fun w' => thas_any r x y (rok_in hr) w')
  clear hr
  generalize decide (HasR r x y) = d at *
  go_enter Tryz.func120, Tryz.ntmps120
  go_wp2_with (go_at_call 117; refine (HH.out _).mono ?_; rintro e w1 ⟨rfl, hb⟩; obtain ⟨hc, hf⟩ := bcell hb; have hz := hb.size; (try simp at hz); have hz0 : w.heap.size < w1.heap.size := (by omega); have HBl := Lib.hid hb; clear hb)
  go_ret
  exact ⟨rfl, by (repeat' first | exact Below.refl _ _ | assumption | (apply below_drewN) | (refine Below.setCell ?_ (by (try simp); (try omega)) _) | (refine Below.alloc ?_ (by (try simp); (try omega)) _) | (refine Below.trans ?_ (Below.mono (Hid.out (by assumption)) (by (try simp); (try omega)))))⟩
def IdxIs (l : List Rc) (x y : Int) (w : World) (e : Ending) (w' : World) : Prop := ∃ i : Int, e = .returned (.int .i64 i) ∧ (0 ≤ i ↔ HasL l x y) ∧ Below w.heap.size w w'
set_option maxHeartbeats 8000000 in
theorem gidx_any (A : Option Addr) (cap : Nat) (l : List Rc) (x y : Int) (b1 b2 : Nat) (w : World) (hl : RIn w A cap l) (hok : ∀ r ∈ l, ROk r) (h1 : w.cell? ⟨b1, 0, none⟩ = some (.int .i64 x)) (h2 : w.cell? ⟨b2, 0, none⟩ = some (.int .i64 y)) (z1 : b1 < w.heap.size) (z2 : b2 < w.heap.size) :
    Calls Tryz.prog 143 #[.slice A l.length cap, .func (.func 120) #[] #[.pointer (some ⟨b1, 0, none⟩), .pointer (some ⟨b2, 0, none⟩)]] w (IdxIs l x y w) := by
  have HL := Lib.hid hl; clear hl
  have HOK := Lib.hid hok; clear hok
  have HC := Lib.hid (fun (w' : World) (hb : Below w.heap.size w w') (r : Rc) (hr : ROk r) => ghasC_any r x y b1 b2 w' hr ((hb.cell z1).trans h1) ((hb.cell z2).trans h2) (Nat.lt_of_lt_of_le z1 hb.size) (Nat.lt_of_lt_of_le z2 hb.size))
  clear h1 h2 z1 z2
  have HB0 := Lib.hid (Below.refl w.heap.size w)
  go_enter Tryz.func143, Tryz.ntmps143
  go_wp2
  go_loopw [8] (fun i wr => ∃ (k : Nat), k ≤ l.length ∧ i = .int .i64 k ∧ Hid (Below w.heap.size w wr) ∧ ∀ j (h : j < l.length), j < k → ¬ HasR l[j] x y) (fun i _ => l.length - (intOf i).toNat)
  case atStart => exact ⟨0, Nat.zero_le _, rfl, HB0, fun j h hj => absurd hj (Nat.not_lt_zero _)⟩
  case round =>
    clear HB0
    obtain ⟨k, hk, rfl, HB, ht⟩ := hrel
    have HT := Lib.hid ht; clear ht
    by_cases hlt : k < l.length
    · obtain ⟨ba, oa, rfl, hba, hva⟩ := HL.out.row (by omega)
      obtain ⟨x0, x1, x2, x3⟩ := hva k hlt
      have eu : ∃ u, u = l[k] := ⟨_, rfl⟩
      obtain ⟨u, hu⟩ := eu
      have hr : ROk u := hu ▸ HOK.out _ (List.getElem_mem hlt)
      rw [← hu] at x0 x1 x2 x3
      have HU := Lib.hid hu; clear hu
      have HC2 := Lib.hid (fun w' hb => HC.out w' hb u hr); clear hr
      have i0 : (0 : Int) ≤ (k : Int) := by omega
      have i1 : (k : Int) < (l.length : Int) := by omega
      clear hva
      have wc := fun o => HB.out.cell (p := ⟨ba, o, none⟩) hba
      have x0 := (wc _).trans x0; have x1 := (wc _).trans x1; have x2 := (wc _).trans x2; have x3 := (wc _).trans x3
      clear wc
      have hbs := HB.out.size
      have hlen := HL.out.len
      by_cases c : HasR u x y
      · have HY : Hid (0 ≤ (k : Int) ↔ HasL l x y) := Lib.hid ⟨fun _ => ⟨u, by rw [HU.out]; exact List.getElem_mem hlt, c⟩, fun _ => by omega⟩
        have HD := Lib.hid (decide_eq_true c); clear c
        go_wp2_with (go_at_call 120; refine (HC2.out _ (by (repeat' first | exact Below.refl _ _ | assumption | (apply below_drewN) | (refine Below.setCell ?_ (by (try simp); (try omega)) _) | (refine Below.alloc ?_ (by (try simp); (try omega)) _) | (refine Below.trans ?_ (Below.mono (Hid.out (by assumption)) (by (try simp); (try omega))))))).mono ?_; rw [HD.out]; rintro e w1 ⟨rfl, hb⟩; have HBl := Lib.hid hb; clear hb)
        go_ret
        exact ⟨_, rfl, HY.out, by (repeat' first | exact Below.refl _ _ | assumption | (apply below_drewN) | (refine Below.setCell ?_ (by (try simp); (try omega)) _) | (refine Below.alloc ?_ (by (try simp); (try omega)) _) | (refine Below.trans ?_ (Below.mono (Hid.out (by assumption)) (by (try simp); (try omega)))))⟩
      · have HN : Hid (∀ j (h : j < l.length), j < k + 1 → ¬ HasR l[j] x y) := Lib.hid (fun j h hj => by
          by_cases e : j < k
          · exact HT.out j h e
          · obtain rfl : j = k := by omega
            rw [← HU.out]; exact c)
        have HD := Lib.hid (decide_eq_false c); clear c
        go_wp2_with (go_at_call 120; refine (HC2.out _ (by (repeat' first | exact Below.refl _ _ | assumption | (apply below_drewN) | (refine Below.setCell ?_ (by (try simp); (try omega)) _) | (refine Below.alloc ?_ (by (try simp); (try omega)) _) | (refine Below.trans ?_ (Below.mono (Hid.out (by assumption)) (by (try simp); (try omega))))))).mono ?_; rw [HD.out]; rintro e w1 ⟨rfl, hb⟩; have HBl := Lib.hid hb; clear hb)
        go_roundw
        case rel => exact ⟨k + 1, by omega, by go_num, Lib.hid (by (repeat' first | exact Below.refl _ _ | assumption | (apply below_drewN) | (refine Below.setCell ?_ (by (try simp); (try omega)) _) | (refine Below.alloc ?_ (by (try simp); (try omega)) _) | (refine Below.trans ?_ (Below.mono (Hid.out (by assumption)) (by (try simp); (try omega)))))), HN.out⟩
        case measure => simp [intOf]; omega
    · obtain rfl : k = l.length := by omega
      have HY : Hid (0 ≤ (-1 : Int) ↔ HasL l x y) := Lib.hid ⟨fun h => absurd h (by decide), fun ⟨r, hr, h⟩ => by
        obtain ⟨j, hj, rfl⟩ := List.mem_iff_getElem.1 hr
        exact absurd h (HT.out j hj hj)⟩
      go_wp2
      go_ret
      exact ⟨_, rfl, HY.out, HB.out⟩
set_option maxHeartbeats 8000000 in
theorem gcf_any (A : Option Addr) (cap : Nat) (l : List Rc) (x y : Int) (b1 b2 : Nat) (w : World) (hl : RIn w A cap l) (hok : ∀ r ∈ l, ROk r) (h1 : w.cell? ⟨b1, 0, none⟩ = some (.int .i64 x)) (h2 : w.cell? ⟨b2, 0, none⟩ = some (.int .i64 y)) (z1 : b1 < w.heap.size) (z2 : b2 < w.heap.size) :
    Calls Tryz.prog 119 #[.slice A l.length cap, .func (.func 120) #[] #[.pointer (some ⟨b1, 0, none⟩), .pointer (some ⟨b2, 0, none⟩)]] w (BlIs (hasB l x y) w) := by
  have HI := Lib.hid (gidx_any A cap l x y b1 b2 w hl hok h1 h2 z1 z2)
  clear hl hok h1 h2 z1 z2
  go_enter Tryz.func119, Tryz.ntmps119
  go_wp2_with (go_at_call 143; refine HI.out.mono ?_; rintro e w1 ⟨i, rfl, hi, hb⟩; have HBl := Lib.hid hb; clear hb)
  go_ret
  refine ⟨?_, by (repeat' first | exact Below.refl _ _ | assumption | (apply below_drewN) | (refine Below.setCell ?_ (by (try simp); (try omega)) _) | (refine Below.alloc ?_ (by (try simp); (try omega)) _) | (refine Below.trans ?_ (Below.mono (Hid.out (by assumption)) (by (try simp); (try omega)))))⟩
  have : decide (0 ≤ i) = hasB l x y := by
    rw [Bool.eq_iff_iff, hasB_iff, decide_eq_true_iff]; exact hi
  rw [← this]; rfl
noncomputable def hasRg (l : List Rc) (x y : Int) : Bool := @decide (RegP l) (Classical.propDecidable _) && hasB l x y
set_option maxHeartbeats 8000000 in
theorem ghas_any (A : Option Addr) (cap : Nat) (l : List Rc) (x y : Int) (w : World) (hl : RIn w A cap l) :
    Calls Tryz.prog 80 #[.slice A l.length cap, .int .i64 x, .int .i64 y] w (BlIs (hasRg l x y) w) := by
  have HL := Lib.hid hl; clear hl
  by_cases hr : RegP l
  · have HR := Lib.hid (fun w' (h : Below w.heap.size w w') => gright_yes A cap l w' (HL.out.below h).row HL.out.len HL.out.room HL.out.room2 hr)
    have HC := Lib.hid (fun w' (h : Below w.heap.size w w') b1 b2 h1 h2 z1 z2 => gcf_any A cap l x y b1 b2 w' (HL.out.below h) (form_ok hr.1) h1 h2 z1 z2)
    rw [show hasRg l x y = hasB l x y by unfold hasRg; rw [decide_eq_true hr, Bool.true_and]]
    clear hr
    go_enter Tryz.func80, Tryz.ntmps80
    go_wp2_with fail
    refine (HR.out _ (by (repeat' first | exact Below.refl _ _ | assumption | (apply below_drewN) | (refine Below.setCell ?_ (by (try simp); (try omega)) _) | (refine Below.alloc ?_ (by (try simp); (try omega)) _) | (refine Below.trans ?_ (Below.mono (Hid.out (by assumption)) (by (try simp); (try omega))))))).mono ?_
    rintro e1 w1 ⟨rfl, hb1⟩
    have HB1 := Lib.hid hb1; clear hb1
    go_wp2_with fail
    have HBW := Lib.hid ((((Below.refl w.heap.size w).alloc (Nat.le_refl _) (Obj.cells #[Value.int IntKind.i64 x] 3)).alloc (by simp <;> omega) (Obj.cells #[Value.int IntKind.i64 y] 3)).trans (HB1.out.mono (by simp <;> omega)))
    have z1 := HB1.out.size
    refine (HC.out w1 HBW.out _ _ ?_ ?_ ?_ ?_).mono ?_
    · exact (HB1.out.cell (p := ⟨w.heap.size, 0, none⟩) (by simp <;> omega)).trans (((Below.refl _ (w.alloc (Obj.cells #[Value.int IntKind.i64 x] 3))).alloc (Nat.le_refl _) (Obj.cells #[Value.int IntKind.i64 y] 3)).cell (p := ⟨w.heap.size, 0, none⟩) (by simp) |>.trans (by rw [Lib.cell_of_heap (heap_alloc_new w _)]; rfl))
    · exact (HB1.out.cell (p := ⟨w.heap.size + 1, 0, none⟩) (by simp)).trans (by rw [show w.heap.size + 1 = (w.alloc (Obj.cells #[Value.int IntKind.i64 x] 3)).heap.size by simp, Lib.cell_of_heap (heap_alloc_new _ _)]; rfl)
    · simp at z1 ⊢; omega
    · simp at z1 ⊢; omega
    rintro e2 w2 ⟨rfl, hb2⟩
    have HB2 := Lib.hid (HBW.out.trans (hb2.mono HBW.out.size)); clear hb2 HB1 HBW z1
    go_wp2_with fail
    go_ret
    exact ⟨rfl, HB2.out⟩
  · have HR := Lib.hid (fun w' (h : Below w.heap.size w w') => gright_no A cap l w' (HL.out.below h).row HL.out.len HL.out.room HL.out.room2 hr)
    rw [show hasRg l x y = false by unfold hasRg; rw [decide_eq_false hr, Bool.false_and]]
    clear hr
    go_enter Tryz.func80, Tryz.ntmps80
    go_wp2_with fail
    refine (HR.out _ (by (repeat' first | exact Below.refl _ _ | assumption | (apply below_drewN) | (refine Below.setCell ?_ (by (try simp); (try omega)) _) | (refine Below.alloc ?_ (by (try simp); (try omega)) _) | (refine Below.trans ?_ (Below.mono (Hid.out (by assumption)) (by (try simp); (try omega))))))).mono ?_
    rintro e1 w1 ⟨rfl, hb1⟩
    have HB1 := Lib.hid hb1; clear hb1
    go_wp2_with fail
    have HBW := Lib.hid ((((Below.refl w.heap.size w).alloc (Nat.le_refl _) (Obj.cells #[Value.int IntKind.i64 x] 3)).alloc (by simp <;> omega) (Obj.cells #[Value.int IntKind.i64 y] 3)).trans (HB1.out.mono (by simp <;> omega)))
    go_ret
    exact ⟨rfl, HBW.out⟩
end Go.Proofs.YtppomhgknhmceaaGreat
