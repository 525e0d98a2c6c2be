/-
  Layer 12: contracts of the program's sun: isBetween, isPoint, isDirection, Right, past, MaskOf, Mask, Lost.
-/
import Derived.Test.YtdnoadngfkiabaaP930
import Derived.Test.YtdnoadngfkiabaaP928
set_option linter.unusedVariables false
set_option maxRecDepth 100000
namespace Go.Proofs.Ytdnoadngfkiabaa
open Go.RowKit

/-- a table in memory. -/
def TbRow (w : World) (A : Option Addr) (T : List V3) : Prop := 0 < T.length → ∃ b off, A = some ⟨b, off, none⟩ ∧ b < w.heap.size ∧ ∀ j (h : j < T.length), w.cell? ⟨b, off + j * 3, none⟩ = some (.int .i64 T[j].x) ∧ w.cell? ⟨b, off + j * 3 + 1, none⟩ = some (.int .i64 T[j].y) ∧ w.cell? ⟨b, off + j * 3 + 2, none⟩ = some (.int .i64 T[j].z)
theorem TbRow.below {w w' : World} {A : Option Addr} {T : List V3} (h : TbRow w A T) (hb : Below w.heap.size w w') : TbRow w' A T := fun h0 => by
  obtain ⟨b, off, e, hl, hc⟩ := h h0
  have wc := fun o => hb.cell (p := ⟨b, o, none⟩) hl
  refine ⟨b, off, e, Nat.lt_of_lt_of_le hl hb.size, fun j hj => ?_⟩
  obtain ⟨c0, c1, c2⟩ := hc j hj
  exact ⟨(wc _).trans c0, (wc _).trans c1, (wc _).trans c2⟩
theorem TbRow.nil (w : World) (A : Option Addr) : TbRow w A [] := fun h => absurd h (by simp)
/-- a list of solids in memory. -/
def SsRow (w : World) (A : Option Addr) (L : List (List Sl)) : Prop := 0 < L.length → ∃ b off, A = some ⟨b, off, none⟩ ∧ b < w.heap.size ∧ ∀ j (h : j < L.length), ∃ Aj cj, w.cell? ⟨b, off + j, none⟩ = some (.slice Aj L[j].length cj) ∧ SIn w Aj cj L[j]
theorem SsRow.below {w w' : World} {A : Option Addr} {L : List (List Sl)} (h : SsRow w A L) (hb : Below w.heap.size w w') : SsRow w' A L := fun h0 => by
  obtain ⟨b, off, e, hl, hc⟩ := h h0
  refine ⟨b, off, e, Nat.lt_of_lt_of_le hl hb.size, fun j hj => ?_⟩
  obtain ⟨Aj, cj, c0, c1⟩ := hc j hj
  exact ⟨Aj, cj, (hb.cell (p := ⟨b, off + j, none⟩) hl).trans c0, c1.below hb⟩
theorem SsRow.nil (w : World) (A : Option Addr) : SsRow w A [] := fun h => absurd h (by simp)
theorem SsRow.take {w : World} {A : Option Addr} {L : List (List Sl)} (h : SsRow w A L) (n : Nat) : SsRow w A (L.take n) := fun h0 => by
  rw [List.length_take] at h0
  obtain ⟨b, off, e, hl, hc⟩ := h (by omega)
  refine ⟨b, off, e, hl, fun j hj => ?_⟩
  rw [List.length_take] at hj
  obtain ⟨Aj, cj, c0, c1⟩ := hc j (by omega)
  rw [List.getElem_take]
  exact ⟨Aj, cj, c0, c1⟩
/-- a point at a block. -/
def P3At (w : World) (b : Nat) (v : V3) : Prop := w.heap[b]? = some (.cells #[.int .i64 v.x, .int .i64 v.y, .int .i64 v.z] 25 (0, 0))
section
variable {w w' : World} {b : Nat} {v : V3}
theorem P3At.lt (h : P3At w b v) : b < w.heap.size := (Array.getElem?_eq_some_iff.1 h).1
theorem P3At.c0 (h : P3At w b v) : w.cell? ⟨b, 0, none⟩ = some (.int .i64 v.x) := by rw [Lib.cell_of_heap h]; rfl
theorem P3At.c1 (h : P3At w b v) : w.cell? ⟨b, 1, none⟩ = some (.int .i64 v.y) := by rw [Lib.cell_of_heap h]; rfl
theorem P3At.c2 (h : P3At w b v) : w.cell? ⟨b, 2, none⟩ = some (.int .i64 v.z) := by rw [Lib.cell_of_heap h]; rfl
theorem P3At.go (h : P3At w b v) (hb : Below w.heap.size w w') : P3At w' b v := (hb.block _ h.lt).trans h
theorem P3At.new (w : World) (v : V3) : P3At (w.alloc (.cells #[.int .i64 v.x, .int .i64 v.y, .int .i64 v.z] 25)) w.heap.size v := heap_alloc_new w _
end
/-! ### points, directions -/

theorem g2isB_any (l n g : Int) (w : World) : Calls Try.prog 40 #[.int .i64 l, .int .i64 n, .int .i64 g] w fun e w' => e = .returned (.bool (decide (l ≤ n ∧ n ≤ g))) ∧ w = w' := by
  by_cases h1 : l ≤ n
  · by_cases h2 : n ≤ g
    · rw [show decide (l ≤ n ∧ n ≤ g) = true from decide_eq_true ⟨h1, h2⟩]
      go_enter Try.func40, Try.ntmps40
      go_wp2
      go_ret
      exact ⟨rfl, rfl⟩
    · rw [show decide (l ≤ n ∧ n ≤ g) = false from decide_eq_false (fun h => h2 h.2)]
      go_enter Try.func40, Try.ntmps40
      go_wp2
      go_ret
      exact ⟨rfl, rfl⟩
  · rw [show decide (l ≤ n ∧ n ≤ g) = false from decide_eq_false (fun h => h1 h.1)]
    go_enter Try.func40, Try.ntmps40
    go_wp2
    go_ret
    exact ⟨rfl, rfl⟩

set_option maxHeartbeats 4000000 in
theorem g2isP_nd (x y z : Int) (w : World) : Calls Try.prog 27 #[.agg #[.int .i64 x, .int .i64 y, .int .i64 z]] w (BlIs (decide (PtOk ⟨x, y, z⟩)) w) := by
  by_cases c0 : (0 : Int) ≤ x ∧ x ≤ 1048576
  · have HX : Hid (∀ w', Calls Try.prog 40 #[.int .i64 (0), .int .i64 x, .int .i64 1048576] w' fun e w'' => e = .returned (.bool true) ∧ w' = w'') := Lib.hid (fun w' => by have := g2isB_any (0) x 1048576 w'; rw [decide_eq_true c0] at this; exact this)
    by_cases c1 : (0 : Int) ≤ y ∧ y ≤ 1048576
    · have HY : Hid (∀ w', Calls Try.prog 40 #[.int .i64 (0), .int .i64 y, .int .i64 1048576] w' fun e w'' => e = .returned (.bool true) ∧ w' = w'') := Lib.hid (fun w' => by have := g2isB_any (0) y 1048576 w'; rw [decide_eq_true c1] at this; exact this)
      by_cases c2 : (0 : Int) ≤ z ∧ z ≤ 4096
      · have HZ : Hid (∀ w', Calls Try.prog 40 #[.int .i64 (0), .int .i64 z, .int .i64 4096] w' fun e w'' => e = .returned (.bool true) ∧ w' = w'') := Lib.hid (fun w' => by have := g2isB_any (0) z 4096 w'; rw [decide_eq_true c2] at this; exact this)
        rw [show decide (PtOk ⟨x, y, z⟩) = true from decide_eq_true ⟨c0, c1, c2⟩]
        clear c0 c1 c2
        go_enter Try.func27, Try.ntmps27
        go_wp2_with (go_at_call 40; (first | (with_reducible refine Calls.mono (HX.out _) ?_) | (with_reducible refine Calls.mono (HY.out _) ?_) | (with_reducible refine Calls.mono (HZ.out _) ?_)); rintro e w' ⟨rfl, rfl⟩)
        go_ret
        exact ⟨rfl, by (repeat' first | exact Below.refl _ _ | assumption | (apply below_drewN) | (refine Below.setCell ?_ (by (try simp); (try omega)) _) | (refine Below.alloc ?_ (by (try simp); (try omega)) _) | (refine Below.trans ?_ (Below.mono (Hid.out (by assumption)) (by (try simp); (try omega)))))⟩
      · have HZ : Hid (∀ w', Calls Try.prog 40 #[.int .i64 (0), .int .i64 z, .int .i64 4096] w' fun e w'' => e = .returned (.bool false) ∧ w' = w'') := Lib.hid (fun w' => by have := g2isB_any (0) z 4096 w'; rw [decide_eq_false c2] at this; exact this)
        rw [show decide (PtOk ⟨x, y, z⟩) = false from decide_eq_false (fun h => c2 h.2.2)]
        clear c0 c1 c2
        go_enter Try.func27, Try.ntmps27
        go_wp2_with (go_at_call 40; (first | (with_reducible refine Calls.mono (HX.out _) ?_) | (with_reducible refine Calls.mono (HY.out _) ?_) | (with_reducible refine Calls.mono (HZ.out _) ?_)); rintro e w' ⟨rfl, rfl⟩)
        go_ret
        exact ⟨rfl, by (repeat' first | exact Below.refl _ _ | assumption | (apply below_drewN) | (refine Below.setCell ?_ (by (try simp); (try omega)) _) | (refine Below.alloc ?_ (by (try simp); (try omega)) _) | (refine Below.trans ?_ (Below.mono (Hid.out (by assumption)) (by (try simp); (try omega)))))⟩
    · have HY : Hid (∀ w', Calls Try.prog 40 #[.int .i64 (0), .int .i64 y, .int .i64 1048576] w' fun e w'' => e = .returned (.bool false) ∧ w' = w'') := Lib.hid (fun w' => by have := g2isB_any (0) y 1048576 w'; rw [decide_eq_false c1] at this; exact this)
      rw [show decide (PtOk ⟨x, y, z⟩) = false from decide_eq_false (fun h => c1 h.2.1)]
      have HZ := HY; have c2 := trivial
      clear c0 c1 c2
      go_enter Try.func27, Try.ntmps27
      go_wp2_with (go_at_call 40; (first | (with_reducible refine Calls.mono (HX.out _) ?_) | (with_reducible refine Calls.mono (HY.out _) ?_) | (with_reducible refine Calls.mono (HZ.out _) ?_)); rintro e w' ⟨rfl, rfl⟩)
      go_ret
      exact ⟨rfl, by (repeat' first | exact Below.refl _ _ | assumption | (apply below_drewN) | (refine Below.setCell ?_ (by (try simp); (try omega)) _) | (refine Below.alloc ?_ (by (try simp); (try omega)) _) | (refine Below.trans ?_ (Below.mono (Hid.out (by assumption)) (by (try simp); (try omega)))))⟩
  · have HX : Hid (∀ w', Calls Try.prog 40 #[.int .i64 (0), .int .i64 x, .int .i64 1048576] w' fun e w'' => e = .returned (.bool false) ∧ w' = w'') := Lib.hid (fun w' => by have := g2isB_any (0) x 1048576 w'; rw [decide_eq_false c0] at this; exact this)
    rw [show decide (PtOk ⟨x, y, z⟩) = false from decide_eq_false (fun h => c0 h.1)]
    have HY := HX; have HZ := HX; have c1 := trivial; have c2 := trivial
    clear c0 c1 c2
    go_enter Try.func27, Try.ntmps27
    go_wp2_with (go_at_call 40; (first | (with_reducible refine Calls.mono (HX.out _) ?_) | (with_reducible refine Calls.mono (HY.out _) ?_) | (with_reducible refine Calls.mono (HZ.out _) ?_)); rintro e w' ⟨rfl, rfl⟩)
    go_ret
    exact ⟨rfl, by (repeat' first | exact Below.refl _ _ | assumption | (apply below_drewN) | (refine Below.setCell ?_ (by (try simp); (try omega)) _) | (refine Below.alloc ?_ (by (try simp); (try omega)) _) | (refine Below.trans ?_ (Below.mono (Hid.out (by assumption)) (by (try simp); (try omega)))))⟩

set_option maxHeartbeats 4000000 in
theorem g2isD_nd (x y z : Int) (w : World) : Calls Try.prog 24 #[.agg #[.int .i64 x, .int .i64 y, .int .i64 z]] w (BlIs (decide (SdOk ⟨x, y, z⟩)) w) := by
  by_cases c0 : (-4096 : Int) ≤ x ∧ x ≤ 4096
  · have HX : Hid (∀ w', Calls Try.prog 40 #[.int .i64 (-4096), .int .i64 x, .int .i64 4096] w' fun e w'' => e = .returned (.bool true) ∧ w' = w'') := Lib.hid (fun w' => by have := g2isB_any (-4096) x 4096 w'; rw [decide_eq_true c0] at this; exact this)
    by_cases c1 : (-4096 : Int) ≤ y ∧ y ≤ 4096
    · have HY : Hid (∀ w', Calls Try.prog 40 #[.int .i64 (-4096), .int .i64 y, .int .i64 4096] w' fun e w'' => e = .returned (.bool true) ∧ w' = w'') := Lib.hid (fun w' => by have := g2isB_any (-4096) y 4096 w'; rw [decide_eq_true c1] at this; exact this)
      by_cases c2 : (1 : Int) ≤ z ∧ z ≤ 4096
      · have HZ : Hid (∀ w', Calls Try.prog 40 #[.int .i64 (1), .int .i64 z, .int .i64 4096] w' fun e w'' => e = .returned (.bool true) ∧ w' = w'') := Lib.hid (fun w' => by have := g2isB_any (1) z 4096 w'; rw [decide_eq_true c2] at this; exact this)
        rw [show decide (SdOk ⟨x, y, z⟩) = true from decide_eq_true ⟨c0, c1, c2⟩]
        clear c0 c1 c2
        go_enter Try.func24, Try.ntmps24
        go_wp2_with (go_at_call 40; (first | (with_reducible refine Calls.mono (HX.out _) ?_) | (with_reducible refine Calls.mono (HY.out _) ?_) | (with_reducible refine Calls.mono (HZ.out _) ?_)); rintro e w' ⟨rfl, rfl⟩)
        go_ret
        exact ⟨rfl, by (repeat' first | exact Below.refl _ _ | assumption | (apply below_drewN) | (refine Below.setCell ?_ (by (try simp); (try omega)) _) | (refine Below.alloc ?_ (by (try simp); (try omega)) _) | (refine Below.trans ?_ (Below.mono (Hid.out (by assumption)) (by (try simp); (try omega)))))⟩
      · have HZ : Hid (∀ w', Calls Try.prog 40 #[.int .i64 (1), .int .i64 z, .int .i64 4096] w' fun e w'' => e = .returned (.bool false) ∧ w' = w'') := Lib.hid (fun w' => by have := g2isB_any (1) z 4096 w'; rw [decide_eq_false c2] at this; exact this)
        rw [show decide (SdOk ⟨x, y, z⟩) = false from decide_eq_false (fun h => c2 h.2.2)]
        clear c0 c1 c2
        go_enter Try.func24, Try.ntmps24
        go_wp2_with (go_at_call 40; (first | (with_reducible refine Calls.mono (HX.out _) ?_) | (with_reducible refine Calls.mono (HY.out _) ?_) | (with_reducible refine Calls.mono (HZ.out _) ?_)); rintro e w' ⟨rfl, rfl⟩)
        go_ret
        exact ⟨rfl, by (repeat' first | exact Below.refl _ _ | assumption | (apply below_drewN) | (refine Below.setCell ?_ (by (try simp); (try omega)) _) | (refine Below.alloc ?_ (by (try simp); (try omega)) _) | (refine Below.trans ?_ (Below.mono (Hid.out (by assumption)) (by (try simp); (try omega)))))⟩
    · have HY : Hid (∀ w', Calls Try.prog 40 #[.int .i64 (-4096), .int .i64 y, .int .i64 4096] w' fun e w'' => e = .returned (.bool false) ∧ w' = w'') := Lib.hid (fun w' => by have := g2isB_any (-4096) y 4096 w'; rw [decide_eq_false c1] at this; exact this)
      rw [show decide (SdOk ⟨x, y, z⟩) = false from decide_eq_false (fun h => c1 h.2.1)]
      have HZ := HY; have c2 := trivial
      clear c0 c1 c2
      go_enter Try.func24, Try.ntmps24
      go_wp2_with (go_at_call 40; (first | (with_reducible refine Calls.mono (HX.out _) ?_) | (with_reducible refine Calls.mono (HY.out _) ?_) | (with_reducible refine Calls.mono (HZ.out _) ?_)); rintro e w' ⟨rfl, rfl⟩)
      go_ret
      exact ⟨rfl, by (repeat' first | exact Below.refl _ _ | assumption | (apply below_drewN) | (refine Below.setCell ?_ (by (try simp); (try omega)) _) | (refine Below.alloc ?_ (by (try simp); (try omega)) _) | (refine Below.trans ?_ (Below.mono (Hid.out (by assumption)) (by (try simp); (try omega)))))⟩
  · have HX : Hid (∀ w', Calls Try.prog 40 #[.int .i64 (-4096), .int .i64 x, .int .i64 4096] w' fun e w'' => e = .returned (.bool false) ∧ w' = w'') := Lib.hid (fun w' => by have := g2isB_any (-4096) x 4096 w'; rw [decide_eq_false c0] at this; exact this)
    rw [show decide (SdOk ⟨x, y, z⟩) = false from decide_eq_false (fun h => c0 h.1)]
    have HY := HX; have HZ := HX; have c1 := trivial; have c2 := trivial
    clear c0 c1 c2
    go_enter Try.func24, Try.ntmps24
    go_wp2_with (go_at_call 40; (first | (with_reducible refine Calls.mono (HX.out _) ?_) | (with_reducible refine Calls.mono (HY.out _) ?_) | (with_reducible refine Calls.mono (HZ.out _) ?_)); rintro e w' ⟨rfl, rfl⟩)
    go_ret
    exact ⟨rfl, by (repeat' first | exact Below.refl _ _ | assumption | (apply below_drewN) | (refine Below.setCell ?_ (by (try simp); (try omega)) _) | (refine Below.alloc ?_ (by (try simp); (try omega)) _) | (refine Below.trans ?_ (Below.mono (Hid.out (by assumption)) (by (try simp); (try omega)))))⟩

/-! ### Right -/
set_option maxHeartbeats 16000000 in
theorem g2right_any (A : Option Addr) (cap : Nat) (T : List V3) (w : World) (h : TbRow w A T) (hl : T.length ≤ 9223372036854775807) : Calls Try.prog 9 #[.slice A T.length cap] w (BlIs (decide (TabOk T)) w) := by
  have H1 := Lib.hid h; clear h
  have HB0 := Lib.hid (Below.refl w.heap.size w)
  have HD := Lib.hid (fun x y z w' => g2isD_nd x y z w')
  obtain ⟨r, hr⟩ : ∃ r, r = decide (TabOk T) := ⟨_, rfl⟩
  rw [← hr]
  have HR := Lib.hid hr; clear hr
  by_cases h24 : T.length ≤ 24
  · have s1 : ¬ (24 : Int) < (T.length : Int) := by omega
    go_enter Try.func9, Try.ntmps9
    go_wp2_with fail
    go_loopw [10] (fun i wr => ∃ (k : Nat), k ≤ T.length ∧ i = .int .i64 k ∧ Hid (Below w.heap.size w wr) ∧ Hid (∀ j (h : j < T.length), j < k → SdOk T[j])) (fun i _ => T.length - (intOf i).toNat)
    case atStart => exact ⟨0, Nat.zero_le _, rfl, HB0, Lib.hid (fun j _ h => by omega)⟩
    case round =>
      clear HB0
      obtain ⟨k, hk, rfl, HB, HT⟩ := hrel
      by_cases hlt : k < T.length
      · obtain ⟨b1, o1, rfl, hb1, hv1⟩ := H1.out (by omega)
        obtain ⟨q0, q1, q2⟩ := hv1 k hlt
        have wc := fun o => HB.out.cell (p := ⟨b1, o, none⟩) hb1
        have q0 := (wc _).trans q0; have q1 := (wc _).trans q1; have q2 := (wc _).trans q2
        have hbw : b1 < wr.heap.size := Nat.lt_of_lt_of_le hb1 HB.out.size
        have n0 : (0 : Int) ≤ (k : Int) := by omega
        have n1 : (k : Int) < (T.length : Int) := by omega
        have BAD : Hid (¬ SdOk T[k] → r = false) := Lib.hid (fun hn => by rw [HR.out]; exact decide_eq_false (fun ht => hn (ht.1 _ (List.getElem_mem hlt))))
        have NX : Hid (SdOk T[k] → ∀ j (h : j < T.length), j < k + 1 → SdOk T[j]) := Lib.hid (fun hg j h hj => by
          by_cases e : j < k
          · exact HT.out j h e
          · obtain rfl : j = k := by omega
            exact hg)
        obtain ⟨u, hu⟩ : ∃ u, u = T[k] := ⟨_, rfl⟩
        rw [← hu] at q0 q1 q2 BAD NX
        clear hu hv1 wc HT hb1
        obtain ⟨y2, hy2⟩ : ∃ y2, y2 = wr.alloc (.cells #[.int .i64 u.x, .int .i64 u.y, .int .i64 u.z] 25) := ⟨_, rfl⟩
        have hb2 : Below wr.heap.size wr y2 := by rw [hy2]; exact (Below.refl _ _).alloc (Nat.le_refl _) _
        have HU : Hid (P3At y2 wr.heap.size u) := Lib.hid (by rw [hy2]; exact P3At.new wr u)
        have HB2 := Lib.hid (HB.out.trans (hb2.mono HB.out.size))
        have HY2 := Lib.hid hy2
        clear hy2 hb2 HB
        go_upto_region 6 with fail
        rw [← HY2.out]
        clear HY2 q0 q1 q2 hbw
        generalize wr.heap.size = gu at *
        have k0 := HU.out.c0; have k1 := HU.out.c1; have k2 := HU.out.c2; have kl := HU.out.lt
        go_wp2_with fail
        with_reducible refine Calls.mono (HD.out _ _ _ _) ?_
        rintro e y3 ⟨rfl, hb⟩
        have HB3 := Lib.hid (HB2.out.trans (hb.mono HB2.out.size))
        clear hb HU HB2 k0 k1 k2 kl
        by_cases cu : SdOk u
        · have hdec : decide (SdOk ⟨u.x, u.y, u.z⟩) = true := decide_eq_true cu
          have HN := Lib.hid (NX.out cu); clear BAD NX cu
          go_wp2_with fail
          go_roundw
          case rel => exact ⟨k + 1, by omega, by go_num, HB3, HN⟩
          case measure => simp [intOf]; omega
        · have hdec : decide (SdOk ⟨u.x, u.y, u.z⟩) = false := decide_eq_false cu
          have HQ := Lib.hid (BAD.out cu); clear BAD NX cu
          go_wp2_with fail
          go_ret
          exact ⟨by rw [HQ.out]; rfl, HB3.out⟩
      · obtain rfl : k = T.length := by omega
        have HQ : Hid (r = true) := Lib.hid (by
          rw [HR.out]
          refine decide_eq_true ⟨fun d hd => ?_, h24⟩
          obtain ⟨j, hj, rfl⟩ := List.mem_iff_getElem.1 hd
          exact HT.out j hj hj)
        go_wp2_with fail
        go_ret
        exact ⟨by rw [HQ.out]; rfl, HB.out⟩
  · have s1 : (24 : Int) < (T.length : Int) := by omega
    have HQ : Hid (r = false) := Lib.hid (by rw [HR.out]; exact decide_eq_false (fun ht => h24 ht.2))
    clear h24
    go_enter Try.func9, Try.ntmps9
    go_wp2_with fail
    go_ret
    exact ⟨by rw [HQ.out]; rfl, HB0.out⟩
/-! ### past -/
set_option maxHeartbeats 16000000 in
theorem g2past_any (lb : List Bool) (A : Option Addr) (cap : Nat) (T : List V3) (B : Option Addr) (cb : Nat) (S : List Sl) (p : V3) (w : World) (h1 : TbRow w A T) (hT : T.length ≤ 24) (hlb : lb.length = T.length) (h2 : SIn w B cb S) :
    Calls Try.prog 29 #[.int .i64 (mskN lb : Nat), .slice A T.length cap, .slice B S.length cb, .agg #[.int .i64 p.x, .int .i64 p.y, .int .i64 p.z]] w (InIs ((mskN (both2 lb (frB S p T)) : Nat) : Int) w) := by
  have H1 := Lib.hid h1; clear h1
  have hlf : lb.length = (frB S p T).length := by rw [frB_len]; exact hlb
  obtain ⟨f, hf⟩ : ∃ f, f = frB S p T := ⟨_, rfl⟩
  have HFA : Hid (∀ k (h : k < T.length) (h' : k < f.length), f[k] = !ryB S p T[k]) := Lib.hid (fun k h h' => by subst hf; simp [frB])
  rw [← hf] at hlf
  have HALL : Hid (mskN (partB lb f T.length) = mskN (both2 lb f)) := Lib.hid (by rw [← hlb, partB_all hlf]; rfl)
  rw [← hf]
  clear hf
  have HRY := Lib.hid (fun w' (hb : Below w.heap.size w w') d => sray_any B cb S p d w' (h2.below hb))
  clear h2
  have HLB := Lib.hid hlb
  have HLF := Lib.hid hlf
  obtain ⟨w0, hw0⟩ : ∃ w0, w0 = w.alloc (.cells #[.int .i64 p.x, .int .i64 p.y, .int .i64 p.z] 25) := ⟨_, rfl⟩
  have HB0 : Hid (Below w.heap.size w w0) := Lib.hid (by rw [hw0]; exact (Below.refl _ _).alloc (Nat.le_refl _) _)
  have HP0 : Hid (P3At w0 w.heap.size p) := Lib.hid (by rw [hw0]; exact P3At.new w p)
  have HW0 := Lib.hid hw0
  obtain ⟨M, hM⟩ : ∃ M, M = mskN lb := ⟨_, rfl⟩
  have HM0 : Hid (M = mskN (partB lb f 0)) := Lib.hid (by rw [partB_zero]; exact hM)
  rw [← hM]
  obtain ⟨Q, hQ⟩ : ∃ Q, Q = mskN (both2 lb f) := ⟨_, rfl⟩
  rw [← hQ] at HALL ⊢
  clear hw0 hM hQ hlb hlf
  go_enter Try.func29, Try.ntmps29
  go_upto_region 1 with fail
  rw [← HW0.out]; clear HW0
  go_wp2_with fail
  obtain ⟨g, hg⟩ : ∃ g, g = w.heap.size := ⟨_, rfl⟩
  rw [← hg] at HP0
  simp only [← hg]
  go_loopw [0, 13] (fun m i wr => ∃ (k M : Nat), k ≤ T.length ∧ i = .int .i64 k ∧ m = .int .i64 M ∧ Hid (M = mskN (partB lb f k)) ∧ Hid (P3At wr g p) ∧ Hid (Below w.heap.size w wr)) (fun _ i _ => T.length - (intOf i).toNat)
  case atStart => exact ⟨0, M, Nat.zero_le _, rfl, rfl, HM0, HP0, HB0⟩
  case round =>
    clear HM0 HP0 HB0 hg
    obtain ⟨k, M, hk, rfl, rfl, HM, HP, HB⟩ := hrel
    by_cases hlt : k < T.length
    · obtain ⟨b1, o1, rfl, hb1, hv1⟩ := H1.out (by omega)
      obtain ⟨q0, q1, q2⟩ := hv1 k hlt
      have wc := fun o => HB.out.cell (p := ⟨b1, o, none⟩) hb1
      have q0 := (wc _).trans q0; have q1 := (wc _).trans q1; have q2 := (wc _).trans q2
      have hbw : b1 < wr.heap.size := Nat.lt_of_lt_of_le hb1 HB.out.size
      have n0 : (0 : Int) ≤ (k : Int) := by omega
      have n1 : (k : Int) < (T.length : Int) := by omega
      have hkl : k < lb.length := by rw [HLB.out]; exact hlt
      have hkf : k < f.length := by rw [← HLF.out]; exact hkl
      have HMlt : Hid (M < 16777217) := Lib.hid (by rw [HM.out]; exact mskN_lt24 (by rw [partB_len HLF.out, HLB.out]; exact hT))
      have HBIT : Hid (((M : Nat) : Int) / 2 ^ k % 2 = (if lb[k] = true then 1 else 0)) := Lib.hid (by rw [HM.out, mskN_shift, partB_bit HLF.out k hkl])
      have HNX : Hid (mskN (partB lb f (k + 1)) = if (lb[k] && ryB S p T[k]) = true then M ^^^ (M &&& 2 ^ k) else M) := Lib.hid (by
        have e := partB_next HLF.out k hkl
        rw [HFA.out k hlt hkf, Bool.not_not] at e
        rw [e, HM.out]
        split
        · rw [mskN_set _ _ (by rw [partB_len HLF.out]; exact hkl)]
        · rfl)
      obtain ⟨u, hu⟩ : ∃ u, u = T[k] := ⟨_, rfl⟩
      rw [← hu] at q0 q1 q2 HNX
      obtain ⟨lk, hlk⟩ : ∃ lk, lk = lb[k] := ⟨_, rfl⟩
      rw [← hlk] at HBIT HNX
      clear hu hlk hv1 wc hb1 hkl hkf
      have HPK : Hid (2 ^ k < 16777216) := Lib.hid (lt_pow24 (by omega))
      have HRU := Lib.hid (fun w' (hb : Below w.heap.size w w') => HRY.out w' hb u)
      obtain ⟨rr, hrr⟩ : ∃ rr, rr = ryB S p u := ⟨_, rfl⟩
      rw [← hrr] at HRU HNX
      clear hrr
      obtain ⟨y2, hy2⟩ : ∃ y2, y2 = wr.alloc (.cells #[.int .i64 u.x, .int .i64 u.y, .int .i64 u.z] 25) := ⟨_, rfl⟩
      have hb2 : Below wr.heap.size wr y2 := by rw [hy2]; exact (Below.refl _ _).alloc (Nat.le_refl _) _
      have HU : Hid (P3At y2 wr.heap.size u) := Lib.hid (by rw [hy2]; exact P3At.new wr u)
      have HP2 := Lib.hid (HP.out.go hb2)
      have HB2 := Lib.hid (HB.out.trans (hb2.mono HB.out.size))
      have HY2 := Lib.hid hy2
      clear hy2 hb2 HB HP HM
      go_upto_region 4 with fail
      rw [← HY2.out]
      clear HY2 q0 q1 q2 hbw
      generalize wr.heap.size = gu at *
      have k0 := HU.out.c0; have k1 := HU.out.c1; have k2 := HU.out.c2; have kl := HU.out.lt
      have p0 := HP2.out.c0; have p1 := HP2.out.c1; have p2 := HP2.out.c2; have pl := HP2.out.lt
      cases lk
      case false =>
        have hbit : bits .and .i64 ((M : Nat) / 2 ^ k : Int) 1 = 0 := by rw [i64_and_one]; exact HBIT.out
        have HNM : Hid (M = mskN (partB lb f (k + 1))) := Lib.hid (by rw [HNX.out]; rfl)
        clear HRU HNX HBIT
        go_wp2_with fail
        go_roundw
        case rel => exact ⟨k + 1, M, by omega, by go_num, rfl, HNM, HP2, HB2⟩
        case measure => simp [intOf]; omega
      case true =>
        have hbit : bits .and .i64 ((M : Nat) / 2 ^ k : Int) 1 = 1 := by rw [i64_and_one]; exact HBIT.out
        clear HBIT
        go_wp2_with fail
        with_reducible refine Calls.mono (HRU.out _ HB2.out) ?_
        rintro e y3 ⟨rfl, hb⟩
        have HP3 := Lib.hid (HP2.out.go hb)
        have HB3 := Lib.hid (HB2.out.trans (hb.mono HB2.out.size))
        clear hb HP2 HB2 HU k0 k1 k2 kl p0 p1 p2 pl HRU hbit
        cases rr
        case false =>
          have HNM : Hid (M = mskN (partB lb f (k + 1))) := Lib.hid (by rw [HNX.out]; rfl)
          clear HNX
          go_wp2_with fail
          go_roundw
          case rel => exact ⟨k + 1, M, by omega, by go_num, rfl, HNM, HP3, HB3⟩
          case measure => simp [intOf]; omega
        case true =>
          have HNM : Hid (M ^^^ (M &&& 2 ^ k) = mskN (partB lb f (k + 1))) := Lib.hid (by rw [HNX.out]; rfl)
          obtain ⟨X, hX⟩ : ∃ X, X = M ^^^ (M &&& 2 ^ k) := ⟨_, rfl⟩
          rw [← hX] at HNM
          have hand : bits .andNot .i64 (M : Int) (wrap64 (2 ^ k)) = (X : Int) := by
            have e : wrap64 (2 ^ k) = ((2 ^ k : Nat) : Int) := by
              have := HPK.out
              have hpos : 0 < 2 ^ k := Nat.pow_pos (by decide)
              have e2 : (2 : Int) ^ k = ((2 ^ k : Nat) : Int) := by simp
              rw [e2]
              exact IntWalk.wrap64_in _ (by omega)
            rw [e, hX]
            exact i64_andnot_nat _ _ (by have := HMlt.out; omega) (by have := HPK.out; omega)
          clear hX
          clear HNX
          go_wp2_with fail
          go_roundw
          case rel => exact ⟨k + 1, X, by omega, by go_num, rfl, HNM, HP3, HB3⟩
          case measure => simp [intOf]; omega
    · obtain rfl : k = T.length := by omega
      have HQ : Hid (M = Q) := Lib.hid (HM.out.trans HALL.out)
      go_wp2_with fail
      go_ret
      exact ⟨by rw [HQ.out]; rfl, HB.out⟩


/-! ### MaskOf, Mask, Lost -/
open Classical in
/-- what MaskOf answers. -/
noncomputable def mofI (T : List V3) (L : List (List Sl)) (p : V3) : Int := if TabOk T ∧ PtOk p ∧ (∀ S ∈ L, SolP S) then ((mskN (frL L p T) : Nat) : Int) else 0
open Classical in
noncomputable def mskI (T : List V3) (S : List Sl) (p : V3) : Int := if TabOk T ∧ PtOk p ∧ SolP S then ((mskN (frB S p T) : Nat) : Int) else 0
open Classical in
noncomputable def lostI (T : List V3) (a b : List Sl) (p : V3) : Int := if TabOk T ∧ PtOk p ∧ SolP a ∧ SolP b then ((mskN (minus2 (frB a p T) (frB b p T)) : Nat) : Int) else 0
theorem both2_full : ∀ (l : List Bool), both2 (List.replicate l.length true) l = l
  | [] => rfl
  | b :: l => by
    have h := both2_full l
    unfold both2 at h ⊢
    rw [List.length_cons, List.replicate_succ, List.zipWith_cons_cons, h, Bool.true_and]
theorem frL_one (S : List Sl) (p : V3) (T : List V3) : frL [S] p T = frB S p T := by
  unfold frL
  rw [List.foldl_cons, List.foldl_nil, sfr_nil, ← frB_len S p T, both2_full]
theorem mofI_one (T : List V3) (S : List Sl) (p : V3) : mofI T [S] p = mskI T S p := by
  by_cases h : TabOk T ∧ PtOk p ∧ SolP S
  · unfold mofI mskI
    rw [if_pos h, if_pos ⟨h.1, h.2.1, fun s hs => by rw [List.mem_singleton] at hs; subst hs; exact h.2.2⟩, frL_one]
  · unfold mofI mskI
    rw [if_neg h, if_neg (fun k => h ⟨k.1, k.2.1, k.2.2 S (by simp)⟩)]
theorem frL_len (L : List (List Sl)) (p : V3) (T : List V3) : (frL L p T).length = T.length := by rw [frL_all]; simp
theorem frL_take (L : List (List Sl)) (p : V3) (T : List V3) (k : Nat) (h : k < L.length) : frL (L.take (k + 1)) p T = both2 (frL (L.take k) p T) (frB L[k] p T) := by
  unfold frL
  rw [List.take_succ_eq_append_getElem h, List.foldl_append]; rfl
theorem mskI_bd (T : List V3) (S : List Sl) (p : V3) : 0 ≤ mskI T S p ∧ mskI T S p ≤ 16777216 := by
  unfold mskI
  split
  · rename_i h
    have := mskN_lt24 (lb := frB S p T) (by rw [frB_len]; exact h.1.2)
    omega
  · omega
theorem mskI_nat (T : List V3) (S : List Sl) (p : V3) : ∃ m : Nat, mskI T S p = (m : Int) ∧ m ≤ 16777216 := by
  have := mskI_bd T S p
  exact ⟨(mskI T S p).toNat, by omega, by omega⟩
theorem mskI_yes {T : List V3} {S : List Sl} {p : V3} (h1 : TabOk T) (h2 : PtOk p) (h3 : SolP S) : mskI T S p = ((mskN (frB S p T) : Nat) : Int) := if_pos ⟨h1, h2, h3⟩
theorem mskI_nt {T : List V3} {S : List Sl} {p : V3} (h1 : ¬ TabOk T) : mskI T S p = 0 := if_neg (fun h => h1 h.1)
theorem mskI_np {T : List V3} {S : List Sl} {p : V3} (h1 : ¬ PtOk p) : mskI T S p = 0 := if_neg (fun h => h1 h.2.1)
theorem mskI_ns {T : List V3} {S : List Sl} {p : V3} (h1 : ¬ SolP S) : mskI T S p = 0 := if_neg (fun h => h1 h.2.2)
/-- what the program's minus gives. -/
theorem lost_andnot (T : List V3) (a b : List Sl) (p : V3) (hb : SolP b) : bits .andNot .i64 (mskI T a p) (mskI T b p) = lostI T a b p := by
  by_cases h1 : TabOk T
  · by_cases h2 : PtOk p
    · have eb := mskI_yes (p := p) h1 h2 hb
      by_cases h3 : SolP a
      · rw [mskI_yes h1 h2 h3, eb]
        have la := mskN_lt24 (lb := frB a p T) (by rw [frB_len]; exact h1.2)
        have lb := mskN_lt24 (lb := frB b p T) (by rw [frB_len]; exact h1.2)
        rw [i64_andnot_nat _ _ (by omega) (by omega), mskN_minus (by rw [frB_len, frB_len])]
        exact (if_pos ⟨h1, h2, h3, hb⟩).symm
      · obtain ⟨m, hm, hl⟩ := mskI_nat T b p
        rw [mskI_ns h3, hm]
        have e := i64_andnot_nat 0 m (by omega) (by omega)
        rw [Nat.zero_and] at e
        exact e.trans (if_neg (fun h => h3 h.2.2.1)).symm
    · rw [mskI_np h2, mskI_np h2]
      exact (i64_andnot_nat 0 0 (by omega) (by omega)).trans (if_neg (fun h => h2 h.2.1)).symm
  · rw [mskI_nt h1, mskI_nt h1]
    exact (i64_andnot_nat 0 0 (by omega) (by omega)).trans (if_neg (fun h => h1 h.1)).symm
set_option maxHeartbeats 16000000 in
theorem g2maskOf_any (A : Option Addr) (cap : Nat) (T : List V3) (B : Option Addr) (cb : Nat) (L : List (List Sl)) (p : V3) (w : World) (h1 : TbRow w A T) (hT : T.length ≤ 9223372036854775807) (h2 : SsRow w B L) (hL : L.length ≤ 9223372036854775807) :
    Calls Try.prog 15 #[.slice A T.length cap, .slice B L.length cb, .agg #[.int .i64 p.x, .int .i64 p.y, .int .i64 p.z]] w (InIs (mofI T L p) w) := by
  have H1 := Lib.hid h1; clear h1
  have H2 := Lib.hid h2; clear h2
  have HR := Lib.hid (fun w' (hb : Below w.heap.size w w') => g2right_any A cap T w' (H1.out.below hb) hT)
  have HPT := Lib.hid (fun w' => g2isP_nd p.x p.y p.z w')
  obtain ⟨w0, hw0⟩ : ∃ w0, w0 = w.alloc (.cells #[.int .i64 p.x, .int .i64 p.y, .int .i64 p.z] 25) := ⟨_, rfl⟩
  have HB0 : Hid (Below w.heap.size w w0) := Lib.hid (by rw [hw0]; exact (Below.refl _ _).alloc (Nat.le_refl _) _)
  have HP0 : Hid (P3At w0 w.heap.size p) := Lib.hid (by rw [hw0]; exact P3At.new w p)
  have HW0 := Lib.hid hw0
  clear hw0
  obtain ⟨R, hR⟩ : ∃ R, R = mofI T L p := ⟨_, rfl⟩
  rw [← hR]
  have HRES := Lib.hid hR; clear hR
  by_cases ct : TabOk T
  case neg =>
    rw [decide_eq_false ct] at HR
    have HQ : Hid (R = 0) := Lib.hid (by rw [HRES.out]; exact if_neg (fun h => ct h.1))
    clear ct HPT HRES
    go_enter Try.func15, Try.ntmps15
    go_upto_region 1 with fail
    rw [← HW0.out]; clear HW0
    obtain ⟨g, hg⟩ : ∃ g, g = w.heap.size := ⟨_, rfl⟩
    simp only [← hg]
    clear hg
    go_wp2_with fail
    with_reducible refine Calls.mono (HR.out _ HB0.out) ?_
    rintro e w1 ⟨rfl, hb⟩
    have HB1 := Lib.hid (HB0.out.trans (hb.mono HB0.out.size))
    clear hb HB0 HP0 HR
    go_wp2_with fail
    go_ret
    exact ⟨by rw [HQ.out]; rfl, HB1.out⟩
  case pos =>
    rw [decide_eq_true ct] at HR
    by_cases cp : PtOk p
    case neg =>
      rw [show decide (PtOk ⟨p.x, p.y, p.z⟩) = false from decide_eq_false cp] at HPT
      have HQ : Hid (R = 0) := Lib.hid (by rw [HRES.out]; exact if_neg (fun h => cp h.2.1))
      clear ct cp HRES
      go_enter Try.func15, Try.ntmps15
      go_upto_region 1 with fail
      rw [← HW0.out]; clear HW0
      obtain ⟨g, hg⟩ : ∃ g, g = w.heap.size := ⟨_, rfl⟩
      rw [← hg] at HP0
      simp only [← hg]
      clear hg
      have p0 := HP0.out.c0; have p1 := HP0.out.c1; have p2 := HP0.out.c2; have pl := HP0.out.lt
      go_wp2_with fail
      with_reducible refine Calls.mono (HR.out _ HB0.out) ?_
      rintro e w1 ⟨rfl, hb⟩
      have HB1 := Lib.hid (HB0.out.trans (hb.mono HB0.out.size))
      have HP1 := Lib.hid (HP0.out.go hb)
      clear hb HB0 HP0 HR p0 p1 p2 pl
      have p0 := HP1.out.c0; have p1 := HP1.out.c1; have p2 := HP1.out.c2; have pl := HP1.out.lt
      go_wp2_with fail
      with_reducible refine Calls.mono (HPT.out _) ?_
      rintro e w2 ⟨rfl, hb⟩
      have HB2 := Lib.hid (HB1.out.trans (hb.mono HB1.out.size))
      clear hb HB1 HP1 HPT p0 p1 p2 pl
      go_wp2_with fail
      go_ret
      exact ⟨by rw [HQ.out]; rfl, HB2.out⟩
    case pos =>
      rw [show decide (PtOk ⟨p.x, p.y, p.z⟩) = true from decide_eq_true cp] at HPT
      have hT24 := ct.2
      have HCT := Lib.hid ct; have HCP := Lib.hid cp
      clear ct cp
      have HPST := Lib.hid (fun w' (hb : Below w.heap.size w w') (lb : List Bool) (hl : lb.length = T.length) (B : Option Addr) (cb : Nat) (S : List Sl) (hS : SIn w' B cb S) => g2past_any lb A cap T B cb S p w' (H1.out.below hb) hT24 hl hS)
      have hfull : wrap64 (wrap64 (2 ^ T.length) - 1) = ((mskN (frL (L.take 0) p T) : Nat) : Int) := by
        have e : frL (L.take 0) p T = List.replicate T.length true := by rw [List.take_zero]; exact sfr_nil p T
        have h24 : 2 ^ T.length < 33554432 := by have : 2 ^ T.length ≤ 2 ^ 24 := Nat.pow_le_pow_right (by decide) hT24; omega
        have hpos : 0 < 2 ^ T.length := Nat.pow_pos (by decide)
        rw [e, mskN_full]
        have e2 : (2 : Int) ^ T.length = ((2 ^ T.length : Nat) : Int) := by simp
        have e3 : wrap64 ((2 ^ T.length : Nat) : Int) = ((2 ^ T.length : Nat) : Int) := IntWalk.wrap64_in _ (by omega)
        rw [e2, e3, IntWalk.wrap64_in _ (by omega)]
        omega
      have HFULL := Lib.hid hfull; clear hfull
      go_enter Try.func15, Try.ntmps15
      go_upto_region 1 with fail
      rw [← HW0.out]; clear HW0
      obtain ⟨g, hg⟩ : ∃ g, g = w.heap.size := ⟨_, rfl⟩
      rw [← hg] at HP0
      simp only [← hg]
      clear hg
      have p0 := HP0.out.c0; have p1 := HP0.out.c1; have p2 := HP0.out.c2; have pl := HP0.out.lt
      go_wp2_with fail
      with_reducible refine Calls.mono (HR.out _ HB0.out) ?_
      rintro e w1 ⟨rfl, hb⟩
      have HB1 := Lib.hid (HB0.out.trans (hb.mono HB0.out.size))
      have HP1 := Lib.hid (HP0.out.go hb)
      clear hb HB0 HP0 HR p0 p1 p2 pl
      have p0 := HP1.out.c0; have p1 := HP1.out.c1; have p2 := HP1.out.c2; have pl := HP1.out.lt
      go_wp2_with fail
      with_reducible refine Calls.mono (HPT.out _) ?_
      rintro e w2 ⟨rfl, hb⟩
      have HB2 := Lib.hid (HB1.out.trans (hb.mono HB1.out.size))
      have HP2 := Lib.hid (HP1.out.go hb)
      clear hb HB1 HP1 HPT p0 p1 p2 pl
      go_wp2_with fail
      go_loopw [7, 24] (fun m i wr => ∃ (k M : Nat), k ≤ L.length ∧ i = .int .i64 k ∧ m = .int .i64 M ∧ Hid (M = mskN (frL (L.take k) p T)) ∧ Hid (∀ j (h : j < L.length), j < k → SolP L[j]) ∧ Hid (P3At wr g p) ∧ Hid (Below w.heap.size w wr)) (fun _ i _ => L.length - (intOf i).toNat)
      case atStart => exact ⟨0, mskN (frL (L.take 0) p T), Nat.zero_le _, rfl, by rw [HFULL.out], Lib.hid rfl, Lib.hid (fun j _ h => by omega), HP2, HB2⟩
      case round =>
        clear HB2 HP2 HFULL
        obtain ⟨k, M, hk, rfl, rfl, HM, HT, HP, HB⟩ := hrel
        by_cases hlt : k < L.length
        · obtain ⟨b1, o1, rfl, hb1, hv1⟩ := H2.out (by omega)
          obtain ⟨Aj, cj, q0, hsi⟩ := hv1 k hlt
          have q0 := (HB.out.cell (p := ⟨b1, o1 + k, none⟩) hb1).trans q0
          have HSI := Lib.hid (hsi.below HB.out)
          have hbw : b1 < wr.heap.size := Nat.lt_of_lt_of_le hb1 HB.out.size
          have n0 : (0 : Int) ≤ (k : Int) := by omega
          have n1 : (k : Int) < (L.length : Int) := by omega
          have BAD : Hid (¬ SolP L[k] → R = 0) := Lib.hid (fun hn => by rw [HRES.out]; exact if_neg (fun h => hn (h.2.2 _ (List.getElem_mem hlt))))
          have NX : Hid (SolP L[k] → ∀ j (h : j < L.length), j < k + 1 → SolP L[j]) := Lib.hid (fun hg j h hj => by
            by_cases e : j < k
            · exact HT.out j h e
            · obtain rfl : j = k := by omega
              exact hg)
          have HST : Hid (frL (L.take (k + 1)) p T = both2 (frL (L.take k) p T) (frB L[k] p T)) := Lib.hid (frL_take L p T k hlt)
          obtain ⟨u, hu⟩ : ∃ u, u = L[k] := ⟨_, rfl⟩
          rw [← hu] at q0 HSI BAD NX HST
          obtain ⟨n, hn⟩ : ∃ n, n = u.length := ⟨_, rfl⟩
          rw [← hn] at q0
          have HRU : Hid (∀ w', Below wr.heap.size wr w' → SolP u → Calls Try.prog 28 #[.slice Aj n cj] w' (BlIs true w')) := Lib.hid (fun w' hb hs => by rw [hn]; exact bright_yes (HSI.out.below hb) hs)
          have HRN : Hid (∀ w', Below wr.heap.size wr w' → ¬ SolP u → Calls Try.prog 28 #[.slice Aj n cj] w' (BlIs false w')) := Lib.hid (fun w' hb hs => by rw [hn]; exact bright_no (HSI.out.below hb) hs)
          have HPS : Hid (∀ w', Below wr.heap.size wr w' → Calls Try.prog 29 #[.int .i64 M, .slice A T.length cap, .slice Aj n cj, .agg #[.int .i64 p.x, .int .i64 p.y, .int .i64 p.z]] w' (InIs ((mskN (frL (L.take (k + 1)) p T) : Nat) : Int) w')) := Lib.hid (fun w' hb => by
            rw [HM.out, hn, HST.out]
            exact HPST.out w' (HB.out.trans (hb.mono HB.out.size)) _ (frL_len _ _ _) Aj cj u (HSI.out.below hb))
          clear hu hv1 hb1 hsi HT HSI hn HST HM
          have hb0 := Below.refl wr.heap.size wr
          by_cases cs : SolP u
          · have HN := Lib.hid (NX.out cs)
            have HRY := Lib.hid (HRU.out _ hb0 cs)
            clear NX BAD HRU HRN cs hb0
            have p0 := HP.out.c0; have p1 := HP.out.c1; have p2 := HP.out.c2; have pl := HP.out.lt
            go_wp2_with fail
            with_reducible refine Calls.mono HRY.out ?_
            rintro e y3 ⟨rfl, hb⟩
            have HB3 := Lib.hid (HB.out.trans (hb.mono HB.out.size))
            have HP3 := Lib.hid (HP.out.go hb)
            have HC := Lib.hid (HPS.out _ hb)
            clear hb HB HP HRY HPS p0 p1 p2 pl q0 hbw
            have p0 := HP3.out.c0; have p1 := HP3.out.c1; have p2 := HP3.out.c2; have pl := HP3.out.lt
            go_wp2_with fail
            with_reducible refine Calls.mono HC.out ?_
            rintro e y4 ⟨rfl, hb⟩
            have HB4 := Lib.hid (HB3.out.trans (hb.mono HB3.out.size))
            have HP4 := Lib.hid (HP3.out.go hb)
            clear hb HB3 HP3 HC p0 p1 p2 pl
            go_wp2_with fail
            go_roundw
            case rel => exact ⟨k + 1, _, by omega, by go_num, rfl, Lib.hid rfl, HN, HP4, HB4⟩
            case measure => simp [intOf]; omega
          · have HQ := Lib.hid (BAD.out cs)
            have HRY := Lib.hid (HRN.out _ hb0 cs)
            clear NX BAD HRU HRN cs hb0 HPS
            go_wp2_with fail
            with_reducible refine Calls.mono HRY.out ?_
            rintro e y3 ⟨rfl, hb⟩
            have HB3 := Lib.hid (HB.out.trans (hb.mono HB.out.size))
            clear hb HB HP HRY
            go_wp2_with fail
            go_ret
            exact ⟨by rw [HQ.out]; rfl, HB3.out⟩
        · obtain rfl : k = L.length := by omega
          have HQ : Hid (R = (M : Int)) := Lib.hid (by
            rw [HRES.out, HM.out, List.take_length]
            refine if_pos ⟨HCT.out, HCP.out, fun S hS => ?_⟩
            obtain ⟨j, hj, rfl⟩ := List.mem_iff_getElem.1 hS
            exact HT.out j hj hj)
          go_wp2_with fail
          go_ret
          exact ⟨by rw [HQ.out]; rfl, HB.out⟩
/-- Mask. -/
theorem ssrow_one {w : World} {b : Nat} {A : Option Addr} {c : Nat} {S : List Sl} {n : Nat} (hn : n = S.length) (h : w.heap[b]? = some (.cells #[.slice A n c] 23 (0, 0))) (hs : SIn w A c S) : SsRow w (some ⟨b, 0, none⟩) [S] := fun _ => by
  subst hn
  refine ⟨b, 0, rfl, (Array.getElem?_eq_some_iff.1 h).1, fun j hj => ?_⟩
  obtain rfl : j = 0 := by simp at hj; omega
  exact ⟨A, c, by rw [Lib.cell_of_heap h]; rfl, hs⟩
set_option maxHeartbeats 16000000 in
theorem g2mask_any (A : Option Addr) (cap : Nat) (T : List V3) (B : Option Addr) (cb : Nat) (S : List Sl) (p : V3) (w : World) (h1 : TbRow w A T) (hT : T.length ≤ 9223372036854775807) (h2 : SIn w B cb S) :
    Calls Try.prog 11 #[.slice A T.length cap, .slice B S.length cb, .agg #[.int .i64 p.x, .int .i64 p.y, .int .i64 p.z]] w (InIs (mskI T S p) w) := by
  obtain ⟨w0, hw0⟩ : ∃ w0, w0 = w.alloc (.cells #[.int .i64 p.x, .int .i64 p.y, .int .i64 p.z] 25) := ⟨_, rfl⟩
  have HB0 : Hid (Below w.heap.size w w0) := Lib.hid (by rw [hw0]; exact (Below.refl _ _).alloc (Nat.le_refl _) _)
  have HP0 : Hid (P3At w0 w.heap.size p) := Lib.hid (by rw [hw0]; exact P3At.new w p)
  have HW0 := Lib.hid hw0
  clear hw0
  obtain ⟨n, hn⟩ : ∃ n, n = S.length := ⟨_, rfl⟩
  rw [← hn]
  have HC : Hid (∀ w', Below w.heap.size w w' → ∀ b, w'.heap[b]? = some (.cells #[.slice B n cb] 23 (0, 0)) → Calls Try.prog 15 #[.slice A T.length cap, .slice (some ⟨b, 0, none⟩) 1 1, .agg #[.int .i64 p.x, .int .i64 p.y, .int .i64 p.z]] w' (InIs (mskI T S p) w')) := Lib.hid (fun w' hb b hg => by
    rw [← mofI_one]
    exact g2maskOf_any A cap T (some ⟨b, 0, none⟩) 1 [S] p w' (h1.below hb) hT (ssrow_one hn hg (h2.below hb)) (by simp))
  clear h1 h2 hn hT
  generalize mskI T S p = R at *
  go_enter Try.func11, Try.ntmps11
  go_upto_region 1 with fail
  rw [← HW0.out]; clear HW0
  obtain ⟨g, hg⟩ : ∃ g, g = w.heap.size := ⟨_, rfl⟩
  rw [← hg] at HP0
  simp only [← hg]
  clear hg
  obtain ⟨w1, hw1⟩ : ∃ w1, w1 = w0.alloc (.cells #[.slice B n cb] 23) := ⟨_, rfl⟩
  have hb1 : Below w0.heap.size w0 w1 := by rw [hw1]; exact (Below.refl _ _).alloc (Nat.le_refl _) _
  have hg1 : w1.heap[w0.heap.size]? = some (.cells #[.slice B n cb] 23 (0, 0)) := by rw [hw1]; exact heap_alloc_new w0 _
  have HB1 := Lib.hid (HB0.out.trans (hb1.mono HB0.out.size))
  have HCC := Lib.hid (HC.out w1 HB1.out _ hg1)
  have p0 := (HP0.out.go hb1).c0; have p1 := (HP0.out.go hb1).c1; have p2 := (HP0.out.go hb1).c2; have pl := (HP0.out.go hb1).lt
  rw [hw1] at p0 p1 p2 pl
  have HW1 := Lib.hid hw1
  clear hw1 hb1 hg1 HC HP0
  go_wp2_with fail
  rw [← HW1.out]
  with_reducible refine Calls.mono HCC.out ?_
  rintro e w2 ⟨rfl, hb⟩
  have HB2 := Lib.hid (HB1.out.trans (hb.mono HB1.out.size))
  clear hb HB1 HCC HW1 p0 p1 p2 pl
  go_wp2_with fail
  go_ret
  exact ⟨rfl, HB2.out⟩

end Go.Proofs.Ytdnoadngfkiabaa
