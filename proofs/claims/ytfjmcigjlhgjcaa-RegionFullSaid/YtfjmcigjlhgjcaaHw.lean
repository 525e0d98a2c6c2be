/-
  RegionFull: the single cells, and what is no region.
-/
import Derived.Test.YtfjmcigjlhgjcaaHv
set_option linter.unusedVariables false
set_option maxRecDepth 100000
namespace Go.Proofs.Ytfjmcigjlhgjcaa
open Go.RowKit

def single (k : Nat) : Rc := ⟨2 * ((k : Int) % 15), 2 * ((k : Int) / 15), 2 * ((k : Int) % 15) + 1, 2 * ((k : Int) / 15) + 1⟩
def singles (n : Nat) : List Rc := (List.range n).map single
theorem singles_next (n : Nat) : singles (n + 1) = singles n ++ [single n] := by simp [singles, List.range_succ]
theorem singles_len (n : Nat) : (singles n).length = n := by simp [singles]
theorem single_ok {k : Nat} (h : k < 450) : ROk (single k) := by unfold ROk Span; simp only [single]; omega
theorem singles_ok {n : Nat} (h : n ≤ 450) : ∀ r ∈ singles n, ROk r := by
  intro r hr
  obtain ⟨k, hk, rfl⟩ := List.mem_map.1 hr
  exact single_ok (by have := List.mem_range.1 hk; omega)
theorem single_has {k : Nat} {x y : Int} (h : HasR (single k) x y) : x = 2 * ((k : Int) % 15) ∧ y = 2 * ((k : Int) / 15) := by
  obtain ⟨_, h1, h2, h3, h4⟩ := h
  simp only [single] at h1 h2 h3 h4
  omega
theorem singles_disj : ∀ n : Nat, n ≤ 450 → Disj (singles n) := by
  intro n
  induction n with
  | zero => intro _; simp [singles, Disj]
  | succ n ih =>
    intro h
    rw [singles_next]
    refine (ih (by omega)).append (by simp [Disj]) (fun r hr q hq x y h1 h2 => ?_)
    obtain ⟨k, hk, rfl⟩ := List.mem_map.1 hr
    rw [List.mem_singleton] at hq
    subst hq
    have a1 := single_has h1; have a2 := single_has h2
    have := List.mem_range.1 hk
    omega
theorem areaL_ones : ∀ {l : List Rc}, (∀ r ∈ l, areaR r = 1) → areaL l = l.length := by
  intro l
  induction l with
  | nil => intro _; rfl
  | cons r l ih =>
    intro h
    have e : areaL (r :: l) = areaR r + areaL l := rfl
    rw [e, h r List.mem_cons_self, ih (fun q hq => h q (List.mem_cons_of_mem _ hq)), List.length_cons]
    omega
theorem singles_form {n : Nat} (h : n ≤ 450) : (formL (singles n)).length = n ∧ areaL (formL (singles n)) = n ∧ IsForm (formL (singles n)) := by
  obtain ⟨f1, f2⟩ := formL_is (singles_ok h)
  have hone : ∀ r ∈ formL (singles n), areaR r = 1 := by
    intro r hr
    have ho := form_ok f1 r hr
    have hx := ho.1; have hy := ho.2
    unfold Span at hx hy
    have cell : ∀ x y, r.X0 ≤ x → x < r.X1 → r.Y0 ≤ y → y < r.Y1 → ∃ k : Nat, x = 2 * ((k : Int) % 15) ∧ y = 2 * ((k : Int) / 15) := fun x y a b c d => by
      obtain ⟨q, hq, hh⟩ := (f2 x y).1 ⟨r, hr, ho, a, b, c, d⟩
      obtain ⟨k, _, rfl⟩ := List.mem_map.1 hq
      exact ⟨k, single_has hh⟩
    have w1 : r.X1 = r.X0 + 1 := by
      rcases Int.lt_or_le (r.X0 + 1) r.X1 with c | c
      · obtain ⟨k, e1, _⟩ := cell r.X0 r.Y0 (by omega) (by omega) (by omega) (by omega)
        obtain ⟨j, e2, _⟩ := cell (r.X0 + 1) r.Y0 (by omega) (by omega) (by omega) (by omega)
        omega
      · omega
    have w2 : r.Y1 = r.Y0 + 1 := by
      rcases Int.lt_or_le (r.Y0 + 1) r.Y1 with c | c
      · obtain ⟨k, _, e1⟩ := cell r.X0 r.Y0 (by omega) (by omega) (by omega) (by omega)
        obtain ⟨j, _, e2⟩ := cell r.X0 (r.Y0 + 1) (by omega) (by omega) (by omega) (by omega)
        omega
      · omega
    rw [area_ok ho, w1, w2]
    have e1 : r.X0 + 1 - r.X0 = 1 := by omega
    have e2 : r.Y0 + 1 - r.Y0 = 1 := by omega
    rw [e1, e2]; rfl
  have hs : ∀ r ∈ singles n, areaR r = 1 := by
    intro r hr
    have ho := singles_ok h r hr
    obtain ⟨k, _, rfl⟩ := List.mem_map.1 hr
    rw [area_ok ho]
    simp only [single]
    have e1 : 2 * ((k : Int) % 15) + 1 - 2 * ((k : Int) % 15) = 1 := by omega
    have e2 : 2 * ((k : Int) / 15) + 1 - 2 * ((k : Int) / 15) = 1 := by omega
    rw [e1, e2]; rfl
  have a1 := areaL_ones hone
  have a2 := areaL_ones hs
  rw [singles_len] at a2
  have c1 := form_area f1
  have c2 := area_cnt (n := 1048576) (singles_disj n h) (fun r hr => by
    have := singles_ok h r hr
    have h1 := this.1; have h2 := this.2
    unfold Span at h1 h2
    exact ⟨this, by omega, by omega⟩)
  have c3 : cntC 1048576 (hasD (formL (singles n))) = cntC 1048576 (hasD (singles n)) := cntC_congr (fun x y _ _ => by
    rw [Bool.eq_iff_iff, hasD_iff, hasD_iff]; exact f2 x y)
  have : ((formL (singles n)).length : Int) = n := by rw [← a1, c1, c3, ← c2, a2]
  exact ⟨by omega, by rw [a1]; omega, f1⟩
theorem full_small {n : Nat} (h : n ≤ 200) : ofR (singles n) = (formL (singles n), 0) ∧ RegP (formL (singles n)) := by
  obtain ⟨h1, h2, h3⟩ := singles_form (n := n) (by omega)
  refine ⟨?_, h3, by omega⟩
  unfold ofR
  rw [if_pos (singles_ok (by omega)), if_pos (by rw [singles_len]; omega)]
  unfold capR
  rw [if_pos (by omega)]
theorem full_great {n : Nat} (h : 200 < n) (h2 : n ≤ 450) : ofR (singles n) = ([], 6) := by
  obtain ⟨h1, _, h3⟩ := singles_form h2
  unfold ofR
  rw [if_pos (singles_ok h2)]
  split
  · unfold capR
    rw [if_neg (by omega)]
  · rfl
theorem gshift_no (A : Option Addr) (cap : Nat) (l : List Rc) (w : World) (x y : Int) (h : RIn w A cap l) (hr : ¬ RegP l) : Calls Try.prog 25 #[.slice A l.length cap, .int .i64 x, .int .i64 y] w (RR [] 0 1 w) := by
  have RA := Lib.hid (gright_no A cap l w h.row h.len h.room h.room2 hr)
  clear h hr
  go_enter Try.func25, Try.ntmps25
  go_wp2_with fail
  refine RA.out.mono ?_
  rintro e1 w1 ⟨rfl, hb1⟩
  have HB1 := Lib.hid hb1; clear hb1 RA
  go_wp2_with fail
  go_ret2
  exact ⟨none, 0, rfl, ⟨RRow.nil _ _, by simp, by simp, by omega⟩, HB1.out⟩
def BndNo (w : World) (e : Ending) (w' : World) : Prop := e = .returned (.tuple #[.agg #[.int .i64 0, .int .i64 0, .int .i64 0, .int .i64 0], .bool false]) ∧ Below w.heap.size w w'
theorem gbounds_no (A : Option Addr) (cap : Nat) (l : List Rc) (w : World) (h : RIn w A cap l) (hr : ¬ RegP l) : Calls Try.prog 26 #[.slice A l.length cap] w (BndNo w) := by
  have RA := Lib.hid (fun w' (hb : Below w.heap.size w w') => gright_no A cap l w' (h.below hb).row h.len h.room h.room2 hr)
  clear h hr
  go_enter Try.func26, Try.ntmps26
  go_wp2_with fail
  refine (RA.out _ ?hbx).mono ?_
  case hbx => exact (Below.refl _ _).alloc (Nat.le_refl _) _
  rintro e w1 ⟨rfl, hb⟩
  obtain ⟨hc, hf⟩ := bcell hb; have hz := hb.size; (try simp at hz); have hz0 : w.heap.size < w1.heap.size := (by omega); have HBl := Lib.hid hb; clear hb
  go_wp2_with fail
  exact bodyPost_ret (v := .tuple #[.agg #[.int .i64 0, .int .i64 0, .int .i64 0, .int .i64 0], .bool false]) (by simp [results, Try.results26, go_sem, hc]) rfl ⟨rfl, by (repeat' first | exact Below.refl _ _ | assumption | (apply below_drewN) | (refine Below.setCell ?_ (by (try simp); (try omega)) _) | (refine Below.alloc ?_ (by (try simp); (try omega)) _) | (refine Below.trans ?_ (Below.mono (Hid.out (by assumption)) (by (try simp); (try omega)))))⟩
end Go.Proofs.Ytfjmcigjlhgjcaa
