/-
  Contracts of the program's layer 10, 1: floor, isSide, isHeight, isCell, Right, distances, Distance.
  Contracts of the program's layer 10, 2: lists of planes; ContainsFunc over planes, areRight; top, Top, nearest.
  Contracts of the program's layer 10, 3: top, Top, Distance.
  Contracts of the program's layer 10, 4: Top, Distance, nearest.
-/
import Derived.Test.YtkjblmfmaenllaaGreatRf
import Derived.IntWalk
import Derived.Test.YtkjblmfmaenllaaGreatWu
import Derived.Lib.MinMax
import Derived.Deep.RegionHeld3
set_option linter.unusedVariables false
set_option maxRecDepth 100000
namespace Go.Proofs.YtkjblmfmaenllaaGreat
open Go.RowKit

theorem floor10 (n d : Int) (hd : 0 < d) : (n.tmod d < 0 → n / d = n.tdiv d - 1) ∧ (¬ n.tmod d < 0 → n / d = n.tdiv d) := by
  have h1 := Int.mul_tdiv_add_tmod n d
  have h2 := Int.tmod_lt_of_pos n hd
  have h3 := Int.lt_tmod_of_pos n hd
  generalize n.tmod d = r at *
  generalize n.tdiv d = t at *
  constructor
  · intro h
    have := (Int.ediv_emod_unique hd (a := n) (r := r + d) (q := t - 1)).2 ⟨by rw [Int.mul_sub]; omega, by omega, by omega⟩
    exact this.1
  · intro h
    have := (Int.ediv_emod_unique hd (a := n) (r := r) (q := t)).2 ⟨by omega, by omega, by omega⟩
    exact this.1
theorem tdiv10 (n d B : Int) (hd : 0 < d) (h0 : -B ≤ n) (h1 : n ≤ B) (hB : 0 ≤ B) : -B ≤ n.tdiv d ∧ n.tdiv d ≤ B := by
  have a1 := Int.mul_tdiv_add_tmod n d
  have a2 := Int.tmod_lt_of_pos n hd
  have a3 := Int.lt_tmod_of_pos n hd
  generalize n.tmod d = r at *
  generalize n.tdiv d = t at *
  constructor
  · rcases Int.lt_or_le t (-B) with h | h
    · have := Int.mul_le_mul_of_nonneg_left (show t + 1 ≤ -B by omega) (show 0 ≤ d by omega)
      have k := Int.mul_le_mul_of_nonneg_right (show 1 ≤ d by omega) hB
      rw [Int.mul_add, Int.mul_neg] at this
      omega
    · exact h
  · rcases Int.lt_or_le B t with h | h
    · have := Int.mul_le_mul_of_nonneg_left (show B ≤ t - 1 by omega) (show 0 ≤ d by omega)
      have k := Int.mul_le_mul_of_nonneg_right (show 1 ≤ d by omega) hB
      rw [Int.mul_sub] at this
      omega
    · exact h
set_option maxHeartbeats 2000000 in
theorem kfloor_any (n d : Int) (hd : 0 < d) (h0 : -4398046511104 ≤ n) (h1 : n ≤ 4398046511104) (w : World) : Calls Tryz.prog 114 #[.int .i64 n, .int .i64 d] w (fun e w' => e = .returned (.int .i64 (n / d)) ∧ w' = w) := by
  obtain ⟨t1, t2⟩ := floor10 n d hd
  obtain ⟨b1, b2⟩ := tdiv10 n d 4398046511104 hd h0 h1 (by omega)
  have b3 := Int.tmod_lt_of_pos n hd
  have b4 := Int.lt_tmod_of_pos n hd
  have T1 := Lib.hid t1; clear t1
  have T2 := Lib.hid t2; clear t2
  have hd0 : (d == 0) = false := by simp; omega
  by_cases hgt : n.tmod d < 0
  · have hE := Lib.hid (T1.out hgt)
    clear T1 T2
    go_enter Tryz.func114, Tryz.ntmps114
    go_wp2
    go_ret
    exact ⟨by rw [hE.out]; rfl, rfl⟩
  · have hE := Lib.hid (T2.out hgt)
    clear T1 T2
    go_enter Tryz.func114, Tryz.ntmps114
    go_wp2
    go_ret
    exact ⟨by rw [hE.out]; rfl, rfl⟩
theorem kside_any (s : Int) (w : World) : Calls Tryz.prog 68 #[.int .i64 s] w (BlIs (decide (0 ≤ s ∧ s < 4)) w) := by
  by_cases c0 : 0 ≤ s
  · by_cases c1 : s < 4
    · rw [show decide (0 ≤ s ∧ s < 4) = true from decide_eq_true ⟨c0, c1⟩]
      go_enter Tryz.func68, Tryz.ntmps68
      go_wp2
      go_ret
      exact ⟨rfl, by (repeat' first | exact Below.refl _ _ | assumption | (apply below_drewN) | (refine Below.setCell ?_ (by (try simp); (try omega)) _) | (refine Below.alloc ?_ (by (try simp); (try omega)) _) | (refine Below.trans ?_ (Below.mono (Hid.out (by assumption)) (by (try simp); (try omega)))))⟩
    · rw [show decide (0 ≤ s ∧ s < 4) = false from decide_eq_false (fun h => c1 h.2)]
      go_enter Tryz.func68, Tryz.ntmps68
      go_wp2
      go_ret
      exact ⟨by first | rfl | (apply ret_bl; rw [decide_eq_false_iff_not]; omega), by (repeat' first | exact Below.refl _ _ | assumption | (apply below_drewN) | (refine Below.setCell ?_ (by (try simp); (try omega)) _) | (refine Below.alloc ?_ (by (try simp); (try omega)) _) | (refine Below.trans ?_ (Below.mono (Hid.out (by assumption)) (by (try simp); (try omega)))))⟩
  · rw [show decide (0 ≤ s ∧ s < 4) = false from decide_eq_false (fun h => c0 h.1)]
    go_enter Tryz.func68, Tryz.ntmps68
    go_wp2
    go_ret
    exact ⟨by first | rfl | (apply ret_bl; rw [decide_eq_false_iff_not]; omega), by (repeat' first | exact Below.refl _ _ | assumption | (apply below_drewN) | (refine Below.setCell ?_ (by (try simp); (try omega)) _) | (refine Below.alloc ?_ (by (try simp); (try omega)) _) | (refine Below.trans ?_ (Below.mono (Hid.out (by assumption)) (by (try simp); (try omega)))))⟩
theorem kheight_any (s : Int) (w : World) : Calls Tryz.prog 67 #[.int .i64 s] w (BlIs (decide (0 ≤ s ∧ s ≤ 4096)) w) := by
  by_cases c0 : 0 ≤ s
  · by_cases c1 : s ≤ 4096
    · rw [show decide (0 ≤ s ∧ s ≤ 4096) = true from decide_eq_true ⟨c0, c1⟩]
      go_enter Tryz.func67, Tryz.ntmps67
      go_wp2
      go_ret
      exact ⟨rfl, by (repeat' first | exact Below.refl _ _ | assumption | (apply below_drewN) | (refine Below.setCell ?_ (by (try simp); (try omega)) _) | (refine Below.alloc ?_ (by (try simp); (try omega)) _) | (refine Below.trans ?_ (Below.mono (Hid.out (by assumption)) (by (try simp); (try omega)))))⟩
    · rw [show decide (0 ≤ s ∧ s ≤ 4096) = false from decide_eq_false (fun h => c1 h.2)]
      go_enter Tryz.func67, Tryz.ntmps67
      go_wp2
      go_ret
      exact ⟨by first | rfl | (apply ret_bl; rw [decide_eq_false_iff_not]; omega), by (repeat' first | exact Below.refl _ _ | assumption | (apply below_drewN) | (refine Below.setCell ?_ (by (try simp); (try omega)) _) | (refine Below.alloc ?_ (by (try simp); (try omega)) _) | (refine Below.trans ?_ (Below.mono (Hid.out (by assumption)) (by (try simp); (try omega)))))⟩
  · rw [show decide (0 ≤ s ∧ s ≤ 4096) = false from decide_eq_false (fun h => c0 h.1)]
    go_enter Tryz.func67, Tryz.ntmps67
    go_wp2
    go_ret
    exact ⟨by first | rfl | (apply ret_bl; rw [decide_eq_false_iff_not]; omega), by (repeat' first | exact Below.refl _ _ | assumption | (apply below_drewN) | (refine Below.setCell ?_ (by (try simp); (try omega)) _) | (refine Below.alloc ?_ (by (try simp); (try omega)) _) | (refine Below.trans ?_ (Below.mono (Hid.out (by assumption)) (by (try simp); (try omega)))))⟩
theorem kcell_any (x y : Int) (w : World) : Calls Tryz.prog 69 #[.int .i64 x, .int .i64 y] w (BlIs (decide (GC x y)) w) := by
  have HC := Lib.hid (fun w' => thas_any ⟨0, 0, 1048576, 1048576⟩ x y (by unfold InR In64; simp only []; omega) w')
  rw [show decide (HasR ⟨0, 0, 1048576, 1048576⟩ x y) = decide (GC x y) from decide_eq_decide.2 (by unfold HasR GC ROk Span; simp only []; omega)] at HC
  go_enter Tryz.func69, Tryz.ntmps69
  go_wp2_with fail
  refine (HC.out _).mono ?_
  rintro e w1 ⟨rfl, hb⟩
  have HB := Lib.hid hb; clear hb HC
  go_wp2_with fail
  go_ret
  exact ⟨rfl, by (repeat' first | exact Below.refl _ _ | assumption | (apply below_drewN) | (refine Below.setCell ?_ (by (try simp); (try omega)) _) | (refine Below.alloc ?_ (by (try simp); (try omega)) _) | (refine Below.trans ?_ (Below.mono (Hid.out (by assumption)) (by (try simp); (try omega)))))⟩
/-- a plane at a block of its own. -/
def PlAt (w : World) (b : Nat) (p : Pl) : Prop := w.heap[b]? = some (.cells #[.int .i64 p.s, .int .i64 p.b, .int .i64 p.n, .int .i64 p.d] 47 (0, 0))
section
variable {w w' : World} {b : Nat} {r : Pl}
theorem PlAt.lt (h : PlAt w b r) : b < w.heap.size := (Array.getElem?_eq_some_iff.1 h).1
theorem PlAt.c0 (h : PlAt w b r) : w.cell? ⟨b, 0, none⟩ = some (.int .i64 r.s) := by rw [Lib.cell_of_heap h]; rfl
theorem PlAt.c1 (h : PlAt w b r) : w.cell? ⟨b, 1, none⟩ = some (.int .i64 r.b) := by rw [Lib.cell_of_heap h]; rfl
theorem PlAt.c2 (h : PlAt w b r) : w.cell? ⟨b, 2, none⟩ = some (.int .i64 r.n) := by rw [Lib.cell_of_heap h]; rfl
theorem PlAt.c3 (h : PlAt w b r) : w.cell? ⟨b, 3, none⟩ = some (.int .i64 r.d) := by rw [Lib.cell_of_heap h]; rfl
theorem PlAt.below {B : Nat} (h : PlAt w b r) (hg : Below B w w') (hr : b < B) : PlAt w' b r := (hg.block b hr).trans h
theorem PlAt.new (w : World) (r : Pl) (k : Nat) (h : k = w.heap.size) : PlAt (w.alloc (.cells #[.int .i64 r.s, .int .i64 r.b, .int .i64 r.n, .int .i64 r.d] 47)) k r := by subst h; exact heap_alloc_new w _
end
def plokB (p : Pl) : Bool := decide (PlOk p)
theorem plokB_iff (p : Pl) : plokB p = true ↔ PlOk p := by simp [plokB]
set_option maxHeartbeats 8000000 in
theorem kright_any (p : Pl) (w : World) : Calls Tryz.prog 21 #[.agg #[.int .i64 p.s, .int .i64 p.b, .int .i64 p.n, .int .i64 p.d]] w (BlIs (plokB p) w) := by
  have HS := Lib.hid (fun w' => kside_any p.s w')
  have HB := Lib.hid (fun w' => kheight_any p.b w')
  have HN := Lib.hid (fun w' => kheight_any p.n w')
  have HD := Lib.hid (fun w' => kheight_any p.d w')
  have hE : plokB p = (decide (0 ≤ p.s ∧ p.s < 4) && (decide (0 ≤ p.b ∧ p.b ≤ 4096) && (decide (0 ≤ p.n ∧ p.n ≤ 4096) && (decide (0 ≤ p.d ∧ p.d ≤ 4096) && decide (0 < p.d))))) := by
    rw [Bool.eq_iff_iff, plokB_iff]; simp only [Bool.and_eq_true, decide_eq_true_eq]; unfold PlOk; omega
  rw [hE]; clear hE
  have K0 := Lib.hid (PlAt.new w p _ rfl)
  have B0 : Hid (Below w.heap.size w (w.alloc (.cells #[.int .i64 p.s, .int .i64 p.b, .int .i64 p.n, .int .i64 p.d] 47))) := Lib.hid (by (repeat' first | exact Below.refl _ _ | assumption | (apply below_drewN) | (refine Below.setCell ?_ (by (try simp); (try omega)) _) | (refine Below.alloc ?_ (by (try simp); (try omega)) _) | (refine Below.trans ?_ (Below.mono (Hid.out (by assumption)) (by (try simp); (try omega))))))
  obtain ⟨hd0, hd⟩ : ∃ b, decide (0 < p.d) = b := ⟨_, rfl⟩
  rw [hd]
  generalize decide (0 ≤ p.s ∧ p.s < 4) = b0 at *
  generalize decide (0 ≤ p.b ∧ p.b ≤ 4096) = b1 at *
  generalize decide (0 ≤ p.n ∧ p.n ≤ 4096) = b2 at *
  generalize decide (0 ≤ p.d ∧ p.d ≤ 4096) = b3 at *
  have c0 := K0.out.c0; have cl := K0.out.lt
  go_enter Tryz.func21, Tryz.ntmps21
  go_wp2_with fail
  generalize World.alloc w _ = w0 at *
  refine (HS.out _).mono ?_
  rintro e w1 ⟨rfl, hb⟩
  have K1 := Lib.hid (K0.out.below hb cl); have B1 := Lib.hid (B0.out.trans (hb.mono B0.out.size)); clear hb K0 B0 c0 cl HS
  have c1 := K1.out.c1; have cl := K1.out.lt
  cases b0 with
  | false =>
    clear c1 cl
    go_wp2_with fail
    go_ret
    exact ⟨rfl, B1.out⟩
  | true =>
  go_wp2_with fail
  refine (HB.out _).mono ?_
  rintro e w2 ⟨rfl, hb⟩
  have K2 := Lib.hid (K1.out.below hb cl); have B2 := Lib.hid (B1.out.trans (hb.mono B1.out.size)); clear hb K1 B1 c1 cl HB
  have c2 := K2.out.c2; have cl := K2.out.lt
  cases b1 with
  | false =>
    clear c2 cl
    go_wp2_with fail
    go_ret
    exact ⟨rfl, B2.out⟩
  | true =>
  go_wp2_with fail
  refine (HN.out _).mono ?_
  rintro e w3 ⟨rfl, hb⟩
  have K3 := Lib.hid (K2.out.below hb cl); have B3 := Lib.hid (B2.out.trans (hb.mono B2.out.size)); clear hb K2 B2 c2 cl HN
  have c3 := K3.out.c3; have cl := K3.out.lt
  cases b2 with
  | false =>
    clear c3 cl
    go_wp2_with fail
    go_ret
    exact ⟨rfl, B3.out⟩
  | true =>
  go_wp2_with fail
  refine (HD.out _).mono ?_
  rintro e w4 ⟨rfl, hb⟩
  have K4 := Lib.hid (K3.out.below hb cl); have B4 := Lib.hid (B3.out.trans (hb.mono B3.out.size)); clear hb K3 B3 c3 cl HD
  have c3 := K4.out.c3; have cl := K4.out.lt
  cases b3 with
  | false =>
    clear c3 cl
    go_wp2_with fail
    go_ret
    exact ⟨rfl, B4.out⟩
  | true =>
  cases hd0 with
  | false =>
    go_wp2_with fail
    go_ret
    exact ⟨rfl, B4.out⟩
  | true =>
    go_wp2_with fail
    go_ret
    exact ⟨rfl, B4.out⟩
/-! ### distances -/
/-- four numbers as a value. -/
def DsIs (r : Rc) (x y : Int) (w : World) (e : Ending) (w' : World) : Prop := e = .returned (.agg #[.int .i64 (x - r.X0), .int .i64 (r.X1 - 1 - x), .int .i64 (y - r.Y0), .int .i64 (r.Y1 - 1 - y)]) ∧ Below w.heap.size w w'
set_option maxHeartbeats 4000000 in
theorem kdists_any (r : Rc) (x y : Int) (hr : ROk r) (hc : GC x y) (w : World) : Calls Tryz.prog 70 #[.agg #[.int .i64 r.X0, .int .i64 r.Y0, .int .i64 r.X1, .int .i64 r.Y1], .int .i64 x, .int .i64 y] w (DsIs r x y w) := by
  have hr' := hr
  obtain ⟨⟨h1, h2, h3⟩, h4, h5, h6⟩ := hr
  obtain ⟨⟨g1, g2⟩, g3, g4⟩ := hc
  have q0 : IntKind.i64.wrap (x - r.X0) = x - r.X0 := IntWalk.i64_in _ (by omega)
  have q1 : IntKind.i64.wrap (r.X1 - 1) = r.X1 - 1 := IntWalk.i64_in _ (by omega)
  have q2 : IntKind.i64.wrap (r.X1 - 1 - x) = r.X1 - 1 - x := IntWalk.i64_in _ (by omega)
  have q3 : IntKind.i64.wrap (y - r.Y0) = y - r.Y0 := IntWalk.i64_in _ (by omega)
  have q4 : IntKind.i64.wrap (r.Y1 - 1) = r.Y1 - 1 := IntWalk.i64_in _ (by omega)
  have q5 : IntKind.i64.wrap (r.Y1 - 1 - y) = r.Y1 - 1 - y := IntWalk.i64_in _ (by omega)
  go_enter Tryz.func70, Tryz.ntmps70
  go_wp2_with fail
  exact bodyPost_ret (v := .agg #[.int .i64 (x - r.X0), .int .i64 (r.X1 - 1 - x), .int .i64 (y - r.Y0), .int .i64 (r.Y1 - 1 - y)]) (by simp [results, Tryz.results70, go_sem, *]) rfl ⟨rfl, by (repeat' first | exact Below.refl _ _ | assumption | (apply below_drewN) | (refine Below.setCell ?_ (by (try simp); (try omega)) _) | (refine Below.alloc ?_ (by (try simp); (try omega)) _) | (refine Below.trans ?_ (Below.mono (Hid.out (by assumption)) (by (try simp); (try omega)))))⟩
end Go.Proofs.YtkjblmfmaenllaaGreat
namespace Go.Proofs.YtkjblmfmaenllaaGreat
open Go.RowKit

/-- a list of planes at an address. -/
def PlRow (w : World) (A : Option Addr) (l : List Pl) : Prop := 0 < l.length → ∃ b off, A = some ⟨b, off, none⟩ ∧ b < w.heap.size ∧ ∀ j (h : j < l.length), w.cell? ⟨b, off + j * 4, none⟩ = some (.int .i64 l[j].s) ∧ w.cell? ⟨b, off + j * 4 + 1, none⟩ = some (.int .i64 l[j].b) ∧ w.cell? ⟨b, off + j * 4 + 2, none⟩ = some (.int .i64 l[j].n) ∧ w.cell? ⟨b, off + j * 4 + 3, none⟩ = some (.int .i64 l[j].d)
theorem PlRow.below {w w' : World} {A : Option Addr} {l : List Pl} (h : PlRow w A l) (hb : Below w.heap.size w w') : PlRow w' A l := fun h0 => by
  obtain ⟨b, off, rfl, hl, hc⟩ := h h0
  refine ⟨b, off, rfl, Nat.lt_of_lt_of_le hl hb.size, fun j hj => ?_⟩
  obtain ⟨c0, c1, c2, c3⟩ := hc j hj
  have wc := fun o => hb.cell (p := ⟨b, o, none⟩) hl
  exact ⟨(wc _).trans c0, (wc _).trans c1, (wc _).trans c2, (wc _).trans c3⟩
theorem PlRow.nil (w : World) (A : Option Addr) : PlRow w A [] := fun h => absurd h (by simp)
theorem PlRow.take {w : World} {A : Option Addr} {l : List Pl} (h : PlRow w A l) (n : Nat) : PlRow w A (l.take n) := fun h0 => by
  have hl : 0 < l.length := by rw [List.length_take] at h0; omega
  obtain ⟨b, off, rfl, hb, hc⟩ := h hl
  refine ⟨b, off, rfl, hb, fun j hj => ?_⟩
  have hj' : j < l.length := by rw [List.length_take] at hj; omega
  rw [List.getElem_take]
  exact hc j hj'
/-- a list of planes as it is handed in. -/
structure PlIn (w : World) (A : Option Addr) (cap : Nat) (l : List Pl) : Prop where
  row : PlRow w A l
  len : l.length ≤ 1099511627776
  room : l.length ≤ cap
  room2 : cap ≤ 9223372036854775807
theorem PlIn.below {w w' : World} {A : Option Addr} {cap : Nat} {l : List Pl} (h : PlIn w A cap l) (hb : Below w.heap.size w w') : PlIn w' A cap l := ⟨h.row.below hb, h.len, h.room, h.room2⟩
theorem PlIn.take {w : World} {A : Option Addr} {cap : Nat} {l : List Pl} (h : PlIn w A cap l) (n : Nat) : PlIn w A cap (l.take n) := ⟨h.row.take n, by rw [List.length_take]; have := h.len; omega, by rw [List.length_take]; have := h.room; omega, h.room2⟩
theorem kareRC_any (p : Pl) (w : World) : Calls Tryz.prog 105 #[.agg #[.int .i64 p.s, .int .i64 p.b, .int .i64 p.n, .int .i64 p.d]] w (BlIs (!plokB p) w) := by
  have HR := Lib.hid (fun w' => kright_any p w')
  cases c : plokB p <;> rw [c] at HR
  all_goals
    clear c
    go_enter Tryz.func105, Tryz.ntmps105
    go_wp2_with fail
    refine (HR.out _).mono ?_
    rintro e w1 ⟨rfl, hb⟩
    have HB := Lib.hid hb; clear hb HR
    go_wp2_with fail
    go_ret
    exact ⟨rfl, by (repeat' first | exact Below.refl _ _ | assumption | (apply below_drewN) | (refine Below.setCell ?_ (by (try simp); (try omega)) _) | (refine Below.alloc ?_ (by (try simp); (try omega)) _) | (refine Below.trans ?_ (Below.mono (Hid.out (by assumption)) (by (try simp); (try omega)))))⟩
/-- the index of a plane that is not valid. -/
def PlxIs (l : List Pl) (w : World) (e : Ending) (w' : World) : Prop := ∃ i : Int, e = .returned (.int .i64 i) ∧ (0 ≤ i ↔ ∃ p ∈ l, plokB p = false) ∧ Below w.heap.size w w'
set_option maxHeartbeats 8000000 in
theorem kidx_any (A : Option Addr) (cap : Nat) (l : List Pl) (w : World) (hl : PlIn w A cap l) :
    Calls Tryz.prog 136 #[.slice A l.length cap, .func (.func 105) #[] #[]] w (PlxIs l w) := by
  have HL := Lib.hid hl; clear hl
  have HB0 := Lib.hid (Below.refl w.heap.size w)
  go_enter Tryz.func136, Tryz.ntmps136
  go_wp2
  go_loopw [8] (fun i wr => ∃ (k : Nat), k ≤ l.length ∧ i = .int .i64 k ∧ Hid (Below w.heap.size w wr) ∧ ∀ j (h : j < l.length), j < k → plokB l[j] = true) (fun i _ => l.length - (intOf i).toNat)
  case atStart => exact ⟨0, Nat.zero_le _, rfl, HB0, fun j h hj => absurd hj (Nat.not_lt_zero _)⟩
  case round =>
    clear HB0
    obtain ⟨k, hk, rfl, HB, ht⟩ := hrel
    have HT := Lib.hid ht; clear ht
    by_cases hlt : k < l.length
    · obtain ⟨ba, oa, rfl, hba, hva⟩ := HL.out.row (by omega)
      obtain ⟨x0, x1, x2, x3⟩ := hva k hlt
      obtain ⟨u, hu⟩ : ∃ u, u = l[k] := ⟨_, rfl⟩
      rw [← hu] at x0 x1 x2 x3
      have HU := Lib.hid hu; clear hu
      have i0 : (0 : Int) ≤ (k : Int) := by omega
      have i1 : (k : Int) < (l.length : Int) := by omega
      clear hva
      have wc := fun o => HB.out.cell (p := ⟨ba, o, none⟩) hba
      have x0 := (wc _).trans x0; have x1 := (wc _).trans x1; have x2 := (wc _).trans x2; have x3 := (wc _).trans x3
      clear wc
      have hlen := HL.out.len
      cases c : plokB u with
      | false =>
        have HY : Hid (0 ≤ (k : Int) ↔ ∃ p ∈ l, plokB p = false) := Lib.hid ⟨fun _ => ⟨u, by rw [HU.out]; exact List.getElem_mem hlt, c⟩, fun _ => by omega⟩
        have HC := Lib.hid (kareRC_any u wr)
        rw [c] at HC
        clear c
        go_wp2_with fail
        refine HC.out.mono ?_
        rintro e w1 ⟨rfl, hb⟩
        have HB1 := Lib.hid (HB.out.trans (hb.mono HB.out.size)); clear hb
        go_wp2_with fail
        go_ret
        exact ⟨_, rfl, HY.out, HB1.out⟩
      | true =>
        have HN : Hid (∀ j (h : j < l.length), j < k + 1 → plokB l[j] = true) := Lib.hid (fun j h hj => by
          by_cases e : j < k
          · exact HT.out j h e
          · obtain rfl : j = k := by omega
            rw [← HU.out]; exact c)
        have HC := Lib.hid (kareRC_any u wr)
        rw [c] at HC
        clear c
        go_wp2_with fail
        refine HC.out.mono ?_
        rintro e w1 ⟨rfl, hb⟩
        have HB1 := Lib.hid (HB.out.trans (hb.mono HB.out.size)); clear hb
        go_wp2_with fail
        go_roundw
        case rel => exact ⟨k + 1, by omega, by go_num, HB1, HN.out⟩
        case measure => simp [intOf]; omega
    · obtain rfl : k = l.length := by omega
      have HY : Hid (0 ≤ (-1 : Int) ↔ ∃ p ∈ l, plokB p = false) := Lib.hid ⟨fun h => absurd h (by decide), fun ⟨r, hr, h⟩ => by
        obtain ⟨j, hj, rfl⟩ := List.mem_iff_getElem.1 hr
        rw [HT.out j hj hj] at h; cases h⟩
      go_wp2
      go_ret
      exact ⟨_, rfl, HY.out, HB.out⟩
theorem kcf_any (A : Option Addr) (cap : Nat) (l : List Pl) (w : World) (hl : PlIn w A cap l) :
    Calls Tryz.prog 104 #[.slice A l.length cap, .func (.func 105) #[] #[]] w (BlIs (decide (∃ p ∈ l, plokB p = false)) w) := by
  have HI := Lib.hid (kidx_any A cap l w hl)
  clear hl
  go_enter Tryz.func104, Tryz.ntmps104
  go_wp2_with fail
  refine HI.out.mono ?_
  rintro e w1 ⟨i, rfl, hi, hb⟩
  have HB1 := Lib.hid hb
  have HE : Hid (decide (∃ p ∈ l, plokB p = false) = decide (0 ≤ i)) := Lib.hid (decide_eq_decide.2 hi.symm)
  clear hi hb HI
  go_wp2_with fail
  go_ret
  exact ⟨by rw [HE.out]; rfl, HB1.out⟩
/-- a rectangle and planes that are valid. -/
def ArgOk (r : Rc) (l : List Pl) : Prop := ROk r ∧ ∀ p ∈ l, PlOk p
instance (r : Rc) (l : List Pl) : Decidable (ArgOk r l) := by unfold ArgOk; infer_instance
theorem kareR_any (r : Rc) (A : Option Addr) (cap : Nat) (l : List Pl) (w : World) (hl : PlIn w A cap l) :
    Calls Tryz.prog 60 #[.agg #[.int .i64 r.X0, .int .i64 r.Y0, .int .i64 r.X1, .int .i64 r.Y1], .slice A l.length cap] w (BlIs (decide (ArgOk r l)) w) := by
  have HR := Lib.hid (fun w' => tright_nd r.X0 r.Y0 r.X1 r.Y1 w')
  have HC := Lib.hid (fun w' (h : Below w.heap.size w w') => kcf_any A cap l w' (hl.below h))
  have e : decide (ArgOk r l) = (rokB ⟨r.X0, r.Y0, r.X1, r.Y1⟩ && !decide (∃ p ∈ l, plokB p = false)) := by
    rw [Bool.eq_iff_iff, Bool.and_eq_true, decide_eq_true_iff, rokB_iff, Bool.not_eq_true', decide_eq_false_iff_not]
    unfold ArgOk
    refine and_congr_right fun _ => ⟨fun h ⟨p, hp, hn⟩ => ?_, fun h p hp => ?_⟩
    · have := (plokB_iff p).2 (h p hp); rw [hn] at this; cases this
    · cases c : plokB p with
      | true => exact (plokB_iff p).1 c
      | false => exact absurd ⟨p, hp, c⟩ h
  rw [e]; clear e hl
  generalize decide (∃ p ∈ l, plokB p = false) = bc at *
  generalize rokB ⟨r.X0, r.Y0, r.X1, r.Y1⟩ = br at *
  have HB0 := Lib.hid (Below.refl w.heap.size w)
  go_enter Tryz.func60, Tryz.ntmps60
  go_wp2_with fail
  refine (HR.out _).mono ?_
  rintro e w1 ⟨rfl, hb⟩
  have hb1 : Below w.heap.size w w1 := by have HB := Lib.hid hb; clear hb; (repeat' first | exact Below.refl _ _ | assumption | (apply below_drewN) | (refine Below.setCell ?_ (by (try simp); (try omega)) _) | (refine Below.alloc ?_ (by (try simp); (try omega)) _) | (refine Below.trans ?_ (Below.mono (Hid.out (by assumption)) (by (try simp); (try omega)))))
  have B1 := Lib.hid hb1; clear hb hb1 HR HB0
  cases br with
  | false =>
    go_wp2_with fail
    go_ret
    exact ⟨rfl, B1.out⟩
  | true =>
    go_wp2_with fail
    refine (HC.out _ B1.out).mono ?_
    rintro e w2 ⟨rfl, hb⟩
    have B2 := Lib.hid (B1.out.trans (hb.mono B1.out.size)); clear hb HC B1
    cases bc with
    | false =>
      go_wp2_with fail
      go_ret
      exact ⟨rfl, B2.out⟩
    | true =>
      go_wp2_with fail
      go_ret
      exact ⟨rfl, B2.out⟩
/-! ### an array of four numbers -/
def ArAt (w : World) (g : Nat) (a b c d : Int) : Prop := w.heap[g]? = some (.cells #[.int .i64 a, .int .i64 b, .int .i64 c, .int .i64 d] 84 (0, 0))
section
variable {w w' : World} {g : Nat} {a b c d : Int}
theorem ArAt.lt (h : ArAt w g a b c d) : g < w.heap.size := (Array.getElem?_eq_some_iff.1 h).1
theorem ArAt.c0 (h : ArAt w g a b c d) : w.cell? ⟨g, 0, none⟩ = some (.int .i64 a) := by rw [Lib.cell_of_heap h]; rfl
theorem ArAt.c1 (h : ArAt w g a b c d) : w.cell? ⟨g, 1, none⟩ = some (.int .i64 b) := by rw [Lib.cell_of_heap h]; rfl
theorem ArAt.c2 (h : ArAt w g a b c d) : w.cell? ⟨g, 2, none⟩ = some (.int .i64 c) := by rw [Lib.cell_of_heap h]; rfl
theorem ArAt.c3 (h : ArAt w g a b c d) : w.cell? ⟨g, 3, none⟩ = some (.int .i64 d) := by rw [Lib.cell_of_heap h]; rfl
theorem ArAt.below (h : ArAt w g a b c d) (hg : Below w.heap.size w w') : ArAt w' g a b c d := (hg.block g h.lt).trans h
theorem ArAt.new (w : World) (a b c d : Int) (k : Nat) (h : k = w.heap.size) : ArAt (w.alloc (.cells #[.int .i64 a, .int .i64 b, .int .i64 c, .int .i64 d] 84)) k a b c d := by subst h; exact heap_alloc_new w _
end
theorem ArAt.dist {w : World} {g : Nat} {r : Rc} {x y : Int} (h : ArAt w g (x - r.X0) (r.X1 - 1 - x) (y - r.Y0) (r.Y1 - 1 - y)) {s : Int} (h0 : 0 ≤ s) (h1 : s < 4) : w.cell? ⟨g, s.toNat, none⟩ = some (.int .i64 (distP r s x y)) := by
  have k : s = 0 ∨ s = 1 ∨ s = 2 ∨ s = 3 := by omega
  rcases k with rfl | rfl | rfl | rfl
  · exact h.c0
  · exact h.c1
  · exact h.c2
  · exact h.c3
theorem topK_next (r : Rc) (l : List Pl) (x y : Int) (k : Nat) (h : k < l.length) : topK r (l.take (k + 1)) x y = min (topK r (l.take k) x y) (topPl r l[k] x y) := by
  rw [List.take_succ_eq_append_getElem h, topK_snoc]
theorem topPl_in {r : Rc} {p : Pl} (hr : ROk r) (hp : PlOk p) {x y : Int} (hc : GC x y) : (-4294967296 ≤ p.n * distP r p.s x y ∧ p.n * distP r p.s x y ≤ 4294967296) ∧ -4294967296 ≤ topPl r p x y ∧ topPl r p x y ≤ 4294971392 := by
  have hd := dist_in hr hc p.s
  have k1 := Int.mul_le_mul_of_nonneg_left (show distP r p.s x y ≤ 1048576 by omega) hp.2.2.1.1
  have k2 := Int.mul_le_mul_of_nonneg_left hd.1 hp.2.2.1.1
  have k3 := Int.mul_le_mul_of_nonneg_right hp.2.2.1.2 (show (0 : Int) ≤ 1048576 by omega)
  have hm : -4294967296 ≤ p.n * distP r p.s x y ∧ p.n * distP r p.s x y ≤ 4294967296 := by
    rw [Int.mul_neg] at k2
    omega
  refine ⟨hm, ?_⟩
  unfold topPl
  have hd0 := hp.2.2.2.1
  have hb := hp.2.1
  generalize p.n * distP r p.s x y = a at *
  have e1 : -4294967296 ≤ a / p.d := by
    rw [Int.le_ediv_iff_mul_le hd0]
    have := Int.mul_le_mul_of_nonneg_left (show 1 ≤ p.d by omega) (show (0 : Int) ≤ 4294967296 by omega)
    omega
  have e2 : a / p.d ≤ 4294967296 := by
    rcases Int.lt_or_le a 0 with h | h
    · have := Int.ediv_neg_of_neg_of_pos h hd0; omega
    · have := Int.ediv_le_self p.d h; omega
  omega
theorem topK_in {r : Rc} (hr : ROk r) {x y : Int} (hc : GC x y) : ∀ (l : List Pl), (∀ p ∈ l, PlOk p) → -4294967296 ≤ topK r l x y ∧ topK r l x y ≤ 4096 := by
  intro l hl
  refine ⟨(topK_le r x y l _).2 ⟨by omega, fun p hp => (topPl_in hr (hl p hp) hc).2.1⟩, ((topK_le r x y l _).1 (Int.le_refl _)).1⟩
end Go.Proofs.YtkjblmfmaenllaaGreat
namespace Go.Proofs.YtkjblmfmaenllaaGreat
open Go.RowKit

set_option maxHeartbeats 16000000 in
theorem ktop_any (r : Rc) (A : Option Addr) (cap : Nat) (l : List Pl) (x y : Int) (w : World) (hl : PlIn w A cap l) (ha : ArgOk r l) (hc : GC x y) :
    Calls Tryz.prog 74 #[.agg #[.int .i64 r.X0, .int .i64 r.Y0, .int .i64 r.X1, .int .i64 r.Y1], .slice A l.length cap, .int .i64 x, .int .i64 y] w (InIs (topH r l x y) w) := by
  have HL := Lib.hid hl; clear hl
  have HA := Lib.hid ha
  have HG := Lib.hid hc
  have HD := Lib.hid (fun w' => kdists_any r x y ha.1 hc w')
  clear ha hc
  have B0 : Hid (Below w.heap.size w (w.alloc (.cells #[.int .i64 r.X0, .int .i64 r.Y0, .int .i64 r.X1, .int .i64 r.Y1] 33))) := Lib.hid (by (repeat' first | exact Below.refl _ _ | assumption | (apply below_drewN) | (refine Below.setCell ?_ (by (try simp); (try omega)) _) | (refine Below.alloc ?_ (by (try simp); (try omega)) _) | (refine Below.trans ?_ (Below.mono (Hid.out (by assumption)) (by (try simp); (try omega))))))
  go_enter Tryz.func74, Tryz.ntmps74
  go_wp2_with fail
  generalize World.alloc w _ = w0 at *
  refine (HD.out _).mono ?_
  rintro e w1 ⟨rfl, hb⟩
  have B1 := Lib.hid (B0.out.trans (hb.mono B0.out.size)); clear hb B0 HD
  have K2 := Lib.hid (ArAt.new w1 (x - r.X0) (r.X1 - 1 - x) (y - r.Y0) (r.Y1 - 1 - y) _ rfl)
  have B2 := Lib.hid (B1.out.alloc B1.out.size (.cells #[.int .i64 (x - r.X0), .int .i64 (r.X1 - 1 - x), .int .i64 (y - r.Y0), .int .i64 (r.Y1 - 1 - y)] 84))
  go_wp2_with fail
  generalize World.alloc w1 _ = w2 at *
  generalize hg : w1.heap.size = g at *
  clear hg B1
  go_loopw [9, 19] (fun h i wr => ∃ (k : Nat), k ≤ l.length ∧ i = .int .i64 k ∧ h = .int .i64 (topK r (l.take k) x y) ∧ Hid (ArAt wr g (x - r.X0) (r.X1 - 1 - x) (y - r.Y0) (r.Y1 - 1 - y)) ∧ Hid (Below w.heap.size w wr)) (fun _ i _ => l.length - (intOf i).toNat)
  case atStart => exact ⟨0, Nat.zero_le _, rfl, rfl, K2, B2⟩
  case round =>
    clear K2 B2
    obtain ⟨k, hk, rfl, rfl, HK, HB⟩ := hrel
    by_cases hlt : k < l.length
    · obtain ⟨ba, oa, rfl, hba, hva⟩ := HL.out.row (by omega)
      obtain ⟨x0, x1, x2, x3⟩ := hva k hlt
      have HN := topK_next r l x y k hlt
      have hp := HA.out.2 _ (List.getElem_mem hlt)
      have hT := topPl_in HA.out.1 hp HG.out
      have hKin := topK_in HA.out.1 HG.out (l.take k) (fun p hp => HA.out.2 p (List.mem_of_mem_take hp))
      obtain ⟨u, hu⟩ : ∃ u, u = l[k] := ⟨_, rfl⟩
      rw [← hu] at x0 x1 x2 x3 HN hp hT
      clear hu hva
      obtain ⟨hn, hhn⟩ : ∃ hn, topK r (l.take (k + 1)) x y = hn := ⟨_, rfl⟩
      rw [hhn] at HN
      have HHN := Lib.hid hhn; clear hhn
      generalize topK r (l.take k) x y = hv at *
      have wc := fun o => HB.out.cell (p := ⟨ba, o, none⟩) hba
      have x0 := (wc _).trans x0; have x1 := (wc _).trans x1; have x2 := (wc _).trans x2; have x3 := (wc _).trans x3
      have hbw : ba < wr.heap.size := Nat.lt_of_lt_of_le hba HB.out.size
      clear wc
      have n0 : (0 : Int) ≤ (k : Int) := by omega
      have n1 : (k : Int) < (l.length : Int) := by omega
      have hlen := HL.out.len
      have P0 := Lib.hid (PlAt.new wr u _ rfl)
      have ba0 : Below wr.heap.size wr (wr.alloc (.cells #[.int .i64 u.s, .int .i64 u.b, .int .i64 u.n, .int .i64 u.d] 47)) := (Below.refl _ _).alloc (Nat.le_refl _) _
      have HK2 := Lib.hid (HK.out.below ba0)
      have HB2 := Lib.hid (HB.out.trans (ba0.mono HB.out.size))
      clear ba0 HK HB
      go_wp2_with fail
      generalize World.alloc wr _ = w3 at *
      generalize wr.heap.size = pb at *
      clear x0 x1 x2 x3 hbw
      have y0 := P0.out.c0; have y1 := P0.out.c1; have y2 := P0.out.c2; have y3 := P0.out.c3; have yl := P0.out.lt
      obtain ⟨⟨s0, s1⟩, hbb, hnn, d0, d1⟩ := hp
      have z0 := HK2.out.dist s0 s1
      have zl := HK2.out.lt
      have hTT : topPl r u x y = u.b + u.n * distP r u.s x y / u.d := rfl
      generalize distP r u.s x y = t at *
      have HF := Lib.hid (fun w' => kfloor_any (u.n * t) u.d d0 (by omega) (by omega) w')
      have q2 : IntKind.i64.wrap (u.b + u.n * t / u.d) = topPl r u x y := by rw [← hTT]; exact IntWalk.i64_in _ (by omega)
      have q1 : IntKind.i64.wrap (u.n * t) = u.n * t := IntWalk.i64_in _ (by omega)
      clear hTT hT hKin
      generalize topPl r u x y = tp at *
      generalize u.n * t / u.d = fl at *
      obtain ⟨a, hm⟩ : ∃ a, u.n * t = a := ⟨_, rfl⟩
      rw [hm] at HF
      replace q1 := q1.trans hm
      clear hm
      have HN := Lib.hid HN
      go_quiet ((go_at_call 114; exact Calls.quiet_of_same (HF.out _)))
      go_wp2_with fail
      go_roundw
      case rel => exact ⟨k + 1, by omega, by go_num, by rw [HHN.out, HN.out], Lib.hid (HK2.out.below (below_drewN (Below.refl _ _) _)), Lib.hid (below_drewN HB2.out _)⟩
      case measure => simp [intOf]; omega
    · obtain rfl : k = l.length := by omega
      rw [List.take_length]
      have HE : Hid (max (topK r l x y) 0 = topH r l x y) := Lib.hid rfl
      generalize topK r l x y = tk at *
      go_wp2
      go_ret
      exact InIs.of HE.out HB.out
end Go.Proofs.YtkjblmfmaenllaaGreat
namespace Go.Proofs.YtkjblmfmaenllaaGreat
open Go.RowKit

/-- Top for whatever arguments. -/
def TopIs (r : Rc) (l : List Pl) (x y : Int) : Int := if ArgOk r l ∧ GC x y then topH r l x y else -1
set_option maxHeartbeats 8000000 in
theorem kTop_any (r : Rc) (A : Option Addr) (cap : Nat) (l : List Pl) (x y : Int) (w : World) (hl : PlIn w A cap l) :
    Calls Tryz.prog 25 #[.agg #[.int .i64 r.X0, .int .i64 r.Y0, .int .i64 r.X1, .int .i64 r.Y1], .slice A l.length cap, .int .i64 x, .int .i64 y] w (InIs (TopIs r l x y) w) := by
  have HR := Lib.hid (fun w' (h : Below w.heap.size w w') => kareR_any r A cap l w' (hl.below h))
  have HC := Lib.hid (fun w' => kcell_any x y w')
  have HT : Hid (ArgOk r l → GC x y → ∀ w', Below w.heap.size w w' → Calls Tryz.prog 74 #[.agg #[.int .i64 r.X0, .int .i64 r.Y0, .int .i64 r.X1, .int .i64 r.Y1], .slice A l.length cap, .int .i64 x, .int .i64 y] w' (InIs (topH r l x y) w')) := Lib.hid (fun ha hc w' h => ktop_any r A cap l x y w' (hl.below h) ha hc)
  clear hl
  have B0 : Hid (Below w.heap.size w (w.alloc (.cells #[.int .i64 r.X0, .int .i64 r.Y0, .int .i64 r.X1, .int .i64 r.Y1] 33))) := Lib.hid (by (repeat' first | exact Below.refl _ _ | assumption | (apply below_drewN) | (refine Below.setCell ?_ (by (try simp); (try omega)) _) | (refine Below.alloc ?_ (by (try simp); (try omega)) _) | (refine Below.trans ?_ (Below.mono (Hid.out (by assumption)) (by (try simp); (try omega))))))
  have K0 : Hid (RcAt (w.alloc (.cells #[.int .i64 r.X0, .int .i64 r.Y0, .int .i64 r.X1, .int .i64 r.Y1] 33)) w.heap.size r) := Lib.hid (RcAt.new w r _ rfl)
  have k0 := K0.out.cell0; have k1 := K0.out.cell1; have k2 := K0.out.cell2; have k3 := K0.out.cell3; have kl := K0.out.lt
  by_cases c : ArgOk r l
  · rw [decide_eq_true c] at HR
    by_cases d : GC x y
    · rw [decide_eq_true d] at HC
      rw [show TopIs r l x y = topH r l x y from if_pos ⟨c, d⟩]
      replace HT := Lib.hid (HT.out c d)
      clear c d
      generalize topH r l x y = tv at *
      go_enter Tryz.func25, Tryz.ntmps25
      go_wp2_with fail
      generalize World.alloc w _ = w0 at *
      refine (HR.out _ B0.out).mono ?_
      rintro e w1 ⟨rfl, hb⟩
      have B1 := Lib.hid (B0.out.trans (hb.mono B0.out.size)); have K1 := Lib.hid (K0.out.below hb kl); clear hb K0 B0 HR k0 k1 k2 k3 kl
      go_wp2_with fail
      refine (HC.out _).mono ?_
      rintro e w2 ⟨rfl, hb⟩
      have B2 := Lib.hid (B1.out.trans (hb.mono B1.out.size)); have K2 := Lib.hid (K1.out.below hb K1.out.lt); clear hb K1 B1 HC
      have k0 := K2.out.cell0; have k1 := K2.out.cell1; have k2 := K2.out.cell2; have k3 := K2.out.cell3; have kl := K2.out.lt
      go_wp2_with fail
      refine (HT.out _ B2.out).mono ?_
      rintro e w3 ⟨rfl, hb⟩
      have B3 := Lib.hid (B2.out.trans (hb.mono B2.out.size)); clear hb K2 B2 HT k0 k1 k2 k3 kl
      go_wp2_with fail
      go_ret
      exact ⟨rfl, B3.out⟩
    · rw [decide_eq_false d] at HC
      rw [show TopIs r l x y = -1 from if_neg (fun h => d h.2)]
      clear c d HT
      go_enter Tryz.func25, Tryz.ntmps25
      go_wp2_with fail
      generalize World.alloc w _ = w0 at *
      refine (HR.out _ B0.out).mono ?_
      rintro e w1 ⟨rfl, hb⟩
      have B1 := Lib.hid (B0.out.trans (hb.mono B0.out.size)); clear hb K0 B0 HR k0 k1 k2 k3 kl
      go_wp2_with fail
      refine (HC.out _).mono ?_
      rintro e w2 ⟨rfl, hb⟩
      have B2 := Lib.hid (B1.out.trans (hb.mono B1.out.size)); clear hb B1 HC
      go_wp2_with fail
      go_ret
      exact ⟨rfl, B2.out⟩
  · rw [decide_eq_false c] at HR
    rw [show TopIs r l x y = -1 from if_neg (fun h => c h.1)]
    clear c HT HC
    go_enter Tryz.func25, Tryz.ntmps25
    go_wp2_with fail
    generalize World.alloc w _ = w0 at *
    refine (HR.out _ B0.out).mono ?_
    rintro e w1 ⟨rfl, hb⟩
    have B1 := Lib.hid (B0.out.trans (hb.mono B0.out.size)); clear hb K0 B0 HR k0 k1 k2 k3 kl
    go_wp2_with fail
    go_ret
    exact ⟨rfl, B1.out⟩
/-- Distance for whatever arguments. -/
def DistIs (r : Rc) (s x y : Int) : Int := if ROk r ∧ (0 ≤ s ∧ s < 4) ∧ GC x y then distP r s x y else 0
set_option maxHeartbeats 8000000 in
theorem kDist_any (r : Rc) (s x y : Int) (w : World) :
    Calls Tryz.prog 23 #[.agg #[.int .i64 r.X0, .int .i64 r.Y0, .int .i64 r.X1, .int .i64 r.Y1], .int .i64 s, .int .i64 x, .int .i64 y] w (InIs (DistIs r s x y) w) := by
  have HR := Lib.hid (fun w' => tright_nd r.X0 r.Y0 r.X1 r.Y1 w')
  have HS := Lib.hid (fun w' => kside_any s w')
  have HC := Lib.hid (fun w' => kcell_any x y w')
  have HT : Hid (ROk r → GC x y → ∀ w', Calls Tryz.prog 70 #[.agg #[.int .i64 r.X0, .int .i64 r.Y0, .int .i64 r.X1, .int .i64 r.Y1], .int .i64 x, .int .i64 y] w' (DsIs r x y w')) := Lib.hid (fun ha hc w' => kdists_any r x y ha hc w')
  have B0 : Hid (Below w.heap.size w (w.alloc (.cells #[.int .i64 r.X0, .int .i64 r.Y0, .int .i64 r.X1, .int .i64 r.Y1] 33))) := Lib.hid (by (repeat' first | exact Below.refl _ _ | assumption | (apply below_drewN) | (refine Below.setCell ?_ (by (try simp); (try omega)) _) | (refine Below.alloc ?_ (by (try simp); (try omega)) _) | (refine Below.trans ?_ (Below.mono (Hid.out (by assumption)) (by (try simp); (try omega))))))
  have K0 : Hid (RcAt (w.alloc (.cells #[.int .i64 r.X0, .int .i64 r.Y0, .int .i64 r.X1, .int .i64 r.Y1] 33)) w.heap.size r) := Lib.hid (RcAt.new w r _ rfl)
  have k0 := K0.out.cell0; have k1 := K0.out.cell1; have k2 := K0.out.cell2; have k3 := K0.out.cell3; have kl := K0.out.lt
  by_cases c : ROk r
  · rw [show rokB ⟨r.X0, r.Y0, r.X1, r.Y1⟩ = true from (rokB_iff r).2 c] at HR
    by_cases f : 0 ≤ s ∧ s < 4
    · rw [decide_eq_true f] at HS
      by_cases d : GC x y
      · rw [decide_eq_true d] at HC
        rw [show DistIs r s x y = distP r s x y from if_pos ⟨c, f, d⟩]
        replace HT := Lib.hid (HT.out c d)
        have hF := Lib.hid f
        clear c d f
        go_enter Tryz.func23, Tryz.ntmps23
        go_wp2_with fail
        generalize World.alloc w _ = w0 at *
        refine (HR.out _).mono ?_
        rintro e w1 ⟨rfl, hb⟩
        have B1 := Lib.hid (B0.out.trans (hb.mono B0.out.size)); have K1 := Lib.hid (K0.out.below hb kl); clear hb K0 B0 HR k0 k1 k2 k3 kl
        go_wp2_with fail
        refine (HS.out _).mono ?_
        rintro e w2 ⟨rfl, hb⟩
        have B2 := Lib.hid (B1.out.trans (hb.mono B1.out.size)); have K2 := Lib.hid (K1.out.below hb K1.out.lt); clear hb K1 B1 HS
        go_wp2_with fail
        refine (HC.out _).mono ?_
        rintro e w3 ⟨rfl, hb⟩
        have B3 := Lib.hid (B2.out.trans (hb.mono B2.out.size)); have K3 := Lib.hid (K2.out.below hb K2.out.lt); clear hb K2 B2 HC
        have k0 := K3.out.cell0; have k1 := K3.out.cell1; have k2 := K3.out.cell2; have k3 := K3.out.cell3; have kl := K3.out.lt
        go_wp2_with fail
        refine (HT.out _).mono ?_
        rintro e w4 ⟨rfl, hb⟩
        have B4 := Lib.hid (B3.out.trans (hb.mono B3.out.size)); clear hb K3 B3 HT k0 k1 k2 k3 kl
        have hs : s = 0 ∨ s = 1 ∨ s = 2 ∨ s = 3 := by have := hF.out; omega
        clear hF
        rcases hs with rfl | rfl | rfl | rfl
        · have fi : (Instr.index 84 (.agg #[.int .i64 (x - r.X0), .int .i64 (r.X1 - 1 - x), .int .i64 (y - r.Y0), .int .i64 (r.Y1 - 1 - y)]) (.int .i64 0)).run Tryz.prog w4 = .ok (.int .i64 (x - r.X0)) w4 := by kernel_rfl
          go_wp2_with fail
          go_ret
          exact ⟨rfl, B4.out⟩
        · have fi : (Instr.index 84 (.agg #[.int .i64 (x - r.X0), .int .i64 (r.X1 - 1 - x), .int .i64 (y - r.Y0), .int .i64 (r.Y1 - 1 - y)]) (.int .i64 1)).run Tryz.prog w4 = .ok (.int .i64 (r.X1 - 1 - x)) w4 := by kernel_rfl
          go_wp2_with fail
          go_ret
          exact ⟨rfl, B4.out⟩
        · have fi : (Instr.index 84 (.agg #[.int .i64 (x - r.X0), .int .i64 (r.X1 - 1 - x), .int .i64 (y - r.Y0), .int .i64 (r.Y1 - 1 - y)]) (.int .i64 2)).run Tryz.prog w4 = .ok (.int .i64 (y - r.Y0)) w4 := by kernel_rfl
          go_wp2_with fail
          go_ret
          exact ⟨rfl, B4.out⟩
        · have fi : (Instr.index 84 (.agg #[.int .i64 (x - r.X0), .int .i64 (r.X1 - 1 - x), .int .i64 (y - r.Y0), .int .i64 (r.Y1 - 1 - y)]) (.int .i64 3)).run Tryz.prog w4 = .ok (.int .i64 (r.Y1 - 1 - y)) w4 := by kernel_rfl
          go_wp2_with fail
          go_ret
          exact ⟨rfl, B4.out⟩
      · rw [decide_eq_false d] at HC
        rw [show DistIs r s x y = 0 from if_neg (fun h => d h.2.2)]
        clear c d f HT
        go_enter Tryz.func23, Tryz.ntmps23
        go_wp2_with fail
        generalize World.alloc w _ = w0 at *
        refine (HR.out _).mono ?_
        rintro e w1 ⟨rfl, hb⟩
        have B1 := Lib.hid (B0.out.trans (hb.mono B0.out.size)); clear hb K0 B0 HR k0 k1 k2 k3 kl
        go_wp2_with fail
        refine (HS.out _).mono ?_
        rintro e w2 ⟨rfl, hb⟩
        have B2 := Lib.hid (B1.out.trans (hb.mono B1.out.size)); clear hb B1 HS
        go_wp2_with fail
        refine (HC.out _).mono ?_
        rintro e w3 ⟨rfl, hb⟩
        have B3 := Lib.hid (B2.out.trans (hb.mono B2.out.size)); clear hb B2 HC
        go_wp2_with fail
        go_ret
        exact ⟨rfl, B3.out⟩
    · rw [decide_eq_false f] at HS
      rw [show DistIs r s x y = 0 from if_neg (fun h => f h.2.1)]
      clear c f HT HC
      go_enter Tryz.func23, Tryz.ntmps23
      go_wp2_with fail
      generalize World.alloc w _ = w0 at *
      refine (HR.out _).mono ?_
      rintro e w1 ⟨rfl, hb⟩
      have B1 := Lib.hid (B0.out.trans (hb.mono B0.out.size)); clear hb K0 B0 HR k0 k1 k2 k3 kl
      go_wp2_with fail
      refine (HS.out _).mono ?_
      rintro e w2 ⟨rfl, hb⟩
      have B2 := Lib.hid (B1.out.trans (hb.mono B1.out.size)); clear hb B1 HS
      go_wp2_with fail
      go_ret
      exact ⟨rfl, B2.out⟩
  · rw [show rokB ⟨r.X0, r.Y0, r.X1, r.Y1⟩ = false from (rokB_no r).2 c] at HR
    rw [show DistIs r s x y = 0 from if_neg (fun h => c h.1)]
    clear c HT HC HS
    go_enter Tryz.func23, Tryz.ntmps23
    go_wp2_with fail
    generalize World.alloc w _ = w0 at *
    refine (HR.out _).mono ?_
    rintro e w1 ⟨rfl, hb⟩
    have B1 := Lib.hid (B0.out.trans (hb.mono B0.out.size)); clear hb K0 B0 HR k0 k1 k2 k3 kl
    go_wp2_with fail
    go_ret
    exact ⟨rfl, B1.out⟩
set_option maxHeartbeats 8000000 in
theorem knear_any (p : Pl) (z : Int) (hp : PlOk p) (h0 : 0 ≤ z) (h1 : z ≤ 4096) (w : World) :
    Calls Tryz.prog 111 #[.agg #[.int .i64 p.s, .int .i64 p.b, .int .i64 p.n, .int .i64 p.d], .int .i64 z] w (InIs (nearP p z) w) := by
  have hb0 := hp.2.1; have hn0 := hp.2.2.1; have hd0 := hp.2.2.2
  have k1 := Int.mul_le_mul (show z - p.b ≤ 4096 by omega) hd0.2 (by omega) (by omega)
  have k2 := Int.mul_le_mul (show p.b - z ≤ 4096 by omega) hd0.2 (by omega) (by omega)
  have e2 : (p.b - z) * p.d = -((z - p.b) * p.d) := by rw [← Int.neg_mul]; congr 1; omega
  rw [e2] at k2
  clear e2
  have hin := near_in hp h0 h1
  have q0 : IntKind.i64.wrap (z - p.b) = z - p.b := IntWalk.i64_in _ (by omega)
  have q1 : IntKind.i64.wrap ((z - p.b) * p.d) = (z - p.b) * p.d := IntWalk.i64_in _ (by omega)
  have q2 : IntKind.i64.wrap (-((z - p.b) * p.d)) = -((z - p.b) * p.d) := IntWalk.i64_in _ (by omega)
  have B0 : Hid (Below w.heap.size w (w.alloc (.cells #[.int .i64 p.s, .int .i64 p.b, .int .i64 p.n, .int .i64 p.d] 47))) := Lib.hid (by (repeat' first | exact Below.refl _ _ | assumption | (apply below_drewN) | (refine Below.setCell ?_ (by (try simp); (try omega)) _) | (refine Below.alloc ?_ (by (try simp); (try omega)) _) | (refine Below.trans ?_ (Below.mono (Hid.out (by assumption)) (by (try simp); (try omega))))))
  have K0 : Hid (PlAt (w.alloc (.cells #[.int .i64 p.s, .int .i64 p.b, .int .i64 p.n, .int .i64 p.d] 47)) w.heap.size p) := Lib.hid (PlAt.new w p _ rfl)
  have y0 := K0.out.c0; have y1 := K0.out.c1; have y2 := K0.out.c2; have y3 := K0.out.c3; have yl := K0.out.lt
  by_cases c : 0 < p.n
  · have HF := Lib.hid (fun w' => kfloor_any (-((z - p.b) * p.d)) p.n c (by omega) (by omega) w')
    have e : nearP p z = -(-((z - p.b) * p.d) / p.n) := if_pos c
    rw [e] at hin ⊢
    have q3 : IntKind.i64.wrap (-(-((z - p.b) * p.d) / p.n)) = -(-((z - p.b) * p.d) / p.n) := IntWalk.i64_in _ (by omega)
    clear e hin k1 k2
    go_enter Tryz.func111, Tryz.ntmps111
    go_wp2_with fail
    generalize World.alloc w _ = w0 at *
    refine (HF.out _).mono ?_
    rintro e w1 ⟨rfl, rfl⟩
    go_wp2_with fail
    go_ret
    exact ⟨rfl, B0.out⟩
  · by_cases d : 0 < (z - p.b) * p.d
    · have e : nearP p z = 1048576 := by unfold nearP; rw [if_neg c, if_pos d]
      rw [e] at hin ⊢
      clear e hin k1 k2
      go_enter Tryz.func111, Tryz.ntmps111
      go_wp2_with fail
      go_ret
      exact ⟨rfl, by (repeat' first | exact Below.refl _ _ | assumption | (apply below_drewN) | (refine Below.setCell ?_ (by (try simp); (try omega)) _) | (refine Below.alloc ?_ (by (try simp); (try omega)) _) | (refine Below.trans ?_ (Below.mono (Hid.out (by assumption)) (by (try simp); (try omega)))))⟩
    · have e : nearP p z = -1048576 := by unfold nearP; rw [if_neg c, if_neg d]
      rw [e] at hin ⊢
      clear e hin k1 k2
      go_enter Tryz.func111, Tryz.ntmps111
      go_wp2_with fail
      go_ret
      exact ⟨rfl, by (repeat' first | exact Below.refl _ _ | assumption | (apply below_drewN) | (refine Below.setCell ?_ (by (try simp); (try omega)) _) | (refine Below.alloc ?_ (by (try simp); (try omega)) _) | (refine Below.trans ?_ (Below.mono (Hid.out (by assumption)) (by (try simp); (try omega)))))⟩
end Go.Proofs.YtkjblmfmaenllaaGreat
