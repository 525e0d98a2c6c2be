/-
  Contracts of the program's layer 5, as far as layer 6 calls it: Right, extent, overlap, valid, Area, Has, Touch, Bounds.
-/
import Derived.Test.YtkjblmfmaenllaaGreatRe
import Derived.IntWalk
set_option linter.unusedVariables false
set_option maxRecDepth 100000
namespace Go.Proofs.YtkjblmfmaenllaaGreat
open Go.RowKit



theorem tright_nd (X0 Y0 X1 Y1 : Int) (w : World) : Calls Tryz.prog 49 #[.agg #[.int .i64 X0, .int .i64 Y0, .int .i64 X1, .int .i64 Y1]] w (BlIs (rokB ⟨X0, Y0, X1, Y1⟩) w) := by
  by_cases c0 : 0 ≤ X0
  · skip
    by_cases c1 : X0 < X1
    · skip
      by_cases c2 : X1 ≤ 1048576
      · skip
        by_cases c3 : 0 ≤ Y0
        · skip
          by_cases c4 : Y0 < Y1
          · skip
            by_cases c5 : Y1 ≤ 1048576
            · skip
              rw [show rokB ⟨X0, Y0, X1, Y1⟩ = true from decide_eq_true ⟨⟨c0, c1, c2⟩, c3, c4, c5⟩]
              go_enter Tryz.func49, Tryz.ntmps49
              go_wp2
              go_ret
              exact ⟨rfl, by (repeat' first | exact Below.refl _ _ | assumption | (apply below_drewN) | (refine Below.setCell ?_ (by (try simp); (try omega)) _) | (refine Below.alloc ?_ (by (try simp); (try omega)) _) | (refine Below.trans ?_ (Below.mono (Hid.out (by assumption)) (by (try simp); (try omega)))))⟩
            · rw [show rokB ⟨X0, Y0, X1, Y1⟩ = false from decide_eq_false (fun h => c5 h.2.2.2)]
              go_enter Tryz.func49, Tryz.ntmps49
              go_wp2
              go_ret
              exact ⟨by first | rfl | (apply ret_bl; rw [decide_eq_false_iff_not]; omega), by (repeat' first | exact Below.refl _ _ | assumption | (apply below_drewN) | (refine Below.setCell ?_ (by (try simp); (try omega)) _) | (refine Below.alloc ?_ (by (try simp); (try omega)) _) | (refine Below.trans ?_ (Below.mono (Hid.out (by assumption)) (by (try simp); (try omega)))))⟩
          · rw [show rokB ⟨X0, Y0, X1, Y1⟩ = false from decide_eq_false (fun h => c4 h.2.2.1)]
            go_enter Tryz.func49, Tryz.ntmps49
            go_wp2
            go_ret
            exact ⟨by first | rfl | (apply ret_bl; rw [decide_eq_false_iff_not]; omega), by (repeat' first | exact Below.refl _ _ | assumption | (apply below_drewN) | (refine Below.setCell ?_ (by (try simp); (try omega)) _) | (refine Below.alloc ?_ (by (try simp); (try omega)) _) | (refine Below.trans ?_ (Below.mono (Hid.out (by assumption)) (by (try simp); (try omega)))))⟩
        · rw [show rokB ⟨X0, Y0, X1, Y1⟩ = false from decide_eq_false (fun h => c3 h.2.1)]
          go_enter Tryz.func49, Tryz.ntmps49
          go_wp2
          go_ret
          exact ⟨by first | rfl | (apply ret_bl; rw [decide_eq_false_iff_not]; omega), by (repeat' first | exact Below.refl _ _ | assumption | (apply below_drewN) | (refine Below.setCell ?_ (by (try simp); (try omega)) _) | (refine Below.alloc ?_ (by (try simp); (try omega)) _) | (refine Below.trans ?_ (Below.mono (Hid.out (by assumption)) (by (try simp); (try omega)))))⟩
      · rw [show rokB ⟨X0, Y0, X1, Y1⟩ = false from decide_eq_false (fun h => c2 h.1.2.2)]
        go_enter Tryz.func49, Tryz.ntmps49
        go_wp2
        go_ret
        exact ⟨by first | rfl | (apply ret_bl; rw [decide_eq_false_iff_not]; omega), by (repeat' first | exact Below.refl _ _ | assumption | (apply below_drewN) | (refine Below.setCell ?_ (by (try simp); (try omega)) _) | (refine Below.alloc ?_ (by (try simp); (try omega)) _) | (refine Below.trans ?_ (Below.mono (Hid.out (by assumption)) (by (try simp); (try omega)))))⟩
    · rw [show rokB ⟨X0, Y0, X1, Y1⟩ = false from decide_eq_false (fun h => c1 h.1.2.1)]
      go_enter Tryz.func49, Tryz.ntmps49
      go_wp2
      go_ret
      exact ⟨by first | rfl | (apply ret_bl; rw [decide_eq_false_iff_not]; omega), by (repeat' first | exact Below.refl _ _ | assumption | (apply below_drewN) | (refine Below.setCell ?_ (by (try simp); (try omega)) _) | (refine Below.alloc ?_ (by (try simp); (try omega)) _) | (refine Below.trans ?_ (Below.mono (Hid.out (by assumption)) (by (try simp); (try omega)))))⟩
  · rw [show rokB ⟨X0, Y0, X1, Y1⟩ = false from decide_eq_false (fun h => c0 h.1.1)]
    go_enter Tryz.func49, Tryz.ntmps49
    go_wp2
    go_ret
    exact ⟨by first | rfl | (apply ret_bl; rw [decide_eq_false_iff_not]; omega), by (repeat' first | exact Below.refl _ _ | assumption | (apply below_drewN) | (refine Below.setCell ?_ (by (try simp); (try omega)) _) | (refine Below.alloc ?_ (by (try simp); (try omega)) _) | (refine Below.trans ?_ (Below.mono (Hid.out (by assumption)) (by (try simp); (try omega)))))⟩

/-- a rectangle: in new memory. -/
def RcIs (x : Rc) (w : World) (e : Ending) (w' : World) : Prop := e = .returned (.agg #[.int .i64 x.X0, .int .i64 x.Y0, .int .i64 x.X1, .int .i64 x.Y1]) ∧ Below w.heap.size w w'
theorem RcIs.of {x : Rc} {w w' : World} {a b c d : Int} (ha : a = x.X0) (hb : b = x.Y0) (hc : c = x.X1) (hd : d = x.Y1) (h : Below w.heap.size w w') :
    RcIs x w (.returned (.agg #[.int .i64 a, .int .i64 b, .int .i64 c, .int .i64 d])) w' := by subst ha; subst hb; subst hc; subst hd; exact ⟨rfl, h⟩
def validR (r : Rc) : Rc × Bool := if ROk r then (r, true) else (zR, false)
set_option maxHeartbeats 4000000 in
theorem tvalid_any (r : Rc) (w : World) : Calls Tryz.prog 156 #[.agg #[.int .i64 r.X0, .int .i64 r.Y0, .int .i64 r.X1, .int .i64 r.Y1]] w (RbIs (validR r) w) := by
  by_cases k : ROk r
  · have o : rokB ⟨r.X0, r.Y0, r.X1, r.Y1⟩ = true := (rokB_iff r).2 k
    rw [show validR r = (r, true) from if_pos k]
    clear k
    go_enter Tryz.func156, Tryz.ntmps156
    go_wp2_with (go_at_call 49; refine (tright_nd _ _ _ _ _).mono ?_; rintro e w1 ⟨rfl, hb⟩; obtain ⟨hc, hf⟩ := bcell hb; have hz := hb.size; (try simp at hz); have hz0 : w.heap.size < w1.heap.size := (by omega); have HBl := Lib.hid hb; clear hb)
    exact bodyPost_ret (v := .tuple #[.agg #[.int .i64 r.X0, .int .i64 r.Y0, .int .i64 r.X1, .int .i64 r.Y1], .bool true]) (by simp [results, Tryz.results156, go_sem, *]) rfl (RbIs.of rfl rfl rfl rfl rfl (by (repeat' first | exact Below.refl _ _ | assumption | (apply below_drewN) | (refine Below.setCell ?_ (by (try simp); (try omega)) _) | (refine Below.alloc ?_ (by (try simp); (try omega)) _) | (refine Below.trans ?_ (Below.mono (Hid.out (by assumption)) (by (try simp); (try omega)))))))
  · have o : rokB ⟨r.X0, r.Y0, r.X1, r.Y1⟩ = false := (rokB_no r).2 k
    rw [show validR r = (zR, false) from if_neg k]
    clear k
    go_enter Tryz.func156, Tryz.ntmps156
    go_wp2_with (go_at_call 49; refine (tright_nd _ _ _ _ _).mono ?_; rintro e w1 ⟨rfl, hb⟩; obtain ⟨hc, hf⟩ := bcell hb; have hz := hb.size; (try simp at hz); have hz0 : w.heap.size < w1.heap.size := (by omega); have HBl := Lib.hid hb; clear hb)
    exact bodyPost_ret (v := .tuple #[.agg #[.int .i64 0, .int .i64 0, .int .i64 0, .int .i64 0], .bool false]) (by simp [results, Tryz.results156, go_sem, *]) rfl (RbIs.of rfl rfl rfl rfl rfl (by (repeat' first | exact Below.refl _ _ | assumption | (apply below_drewN) | (refine Below.setCell ?_ (by (try simp); (try omega)) _) | (refine Below.alloc ?_ (by (try simp); (try omega)) _) | (refine Below.trans ?_ (Below.mono (Hid.out (by assumption)) (by (try simp); (try omega)))))))


set_option maxHeartbeats 4000000 in
theorem thas_any (r : Rc) (x y : Int) (ir : InR r) (w : World) : Calls Tryz.prog 113 #[.agg #[.int .i64 r.X0, .int .i64 r.Y0, .int .i64 r.X1, .int .i64 r.Y1], .int .i64 x, .int .i64 y] w (BlIs (decide (HasR r x y)) w) := by
  by_cases k : ROk r
  · have o : rokB ⟨r.X0, r.Y0, r.X1, r.Y1⟩ = true := (rokB_iff r).2 k
    by_cases c0 : r.X0 ≤ x
    · skip
      by_cases c1 : x < r.X1
      · skip
        by_cases c2 : r.Y0 ≤ y
        · skip
          by_cases c3 : y < r.Y1
          · skip
            rw [show decide (HasR r x y) = true from decide_eq_true ⟨k, c0, c1, c2, c3⟩]
            go_enter Tryz.func113, Tryz.ntmps113
            go_wp2_with (go_at_call 49; refine (tright_nd _ _ _ _ _).mono ?_; rintro e w1 ⟨rfl, hb⟩; obtain ⟨hc, hf⟩ := bcell hb; have hz := hb.size; (try simp at hz); have hz0 : w.heap.size < w1.heap.size := (by omega); have HBl := Lib.hid hb; clear hb)
            go_ret
            exact ⟨rfl, by (repeat' first | exact Below.refl _ _ | assumption | (apply below_drewN) | (refine Below.setCell ?_ (by (try simp); (try omega)) _) | (refine Below.alloc ?_ (by (try simp); (try omega)) _) | (refine Below.trans ?_ (Below.mono (Hid.out (by assumption)) (by (try simp); (try omega)))))⟩
          · rw [show decide (HasR r x y) = false from decide_eq_false (fun h => c3 h.2.2.2.2)]
            go_enter Tryz.func113, Tryz.ntmps113
            go_wp2_with (go_at_call 49; refine (tright_nd _ _ _ _ _).mono ?_; rintro e w1 ⟨rfl, hb⟩; obtain ⟨hc, hf⟩ := bcell hb; have hz := hb.size; (try simp at hz); have hz0 : w.heap.size < w1.heap.size := (by omega); have HBl := Lib.hid hb; clear hb)
            go_ret
            exact ⟨ret_bl (by first | rfl | (rw [decide_eq_false_iff_not]; omega)), by (repeat' first | exact Below.refl _ _ | assumption | (apply below_drewN) | (refine Below.setCell ?_ (by (try simp); (try omega)) _) | (refine Below.alloc ?_ (by (try simp); (try omega)) _) | (refine Below.trans ?_ (Below.mono (Hid.out (by assumption)) (by (try simp); (try omega)))))⟩
        · rw [show decide (HasR r x y) = false from decide_eq_false (fun h => c2 h.2.2.2.1)]
          go_enter Tryz.func113, Tryz.ntmps113
          go_wp2_with (go_at_call 49; refine (tright_nd _ _ _ _ _).mono ?_; rintro e w1 ⟨rfl, hb⟩; obtain ⟨hc, hf⟩ := bcell hb; have hz := hb.size; (try simp at hz); have hz0 : w.heap.size < w1.heap.size := (by omega); have HBl := Lib.hid hb; clear hb)
          go_ret
          exact ⟨rfl, by (repeat' first | exact Below.refl _ _ | assumption | (apply below_drewN) | (refine Below.setCell ?_ (by (try simp); (try omega)) _) | (refine Below.alloc ?_ (by (try simp); (try omega)) _) | (refine Below.trans ?_ (Below.mono (Hid.out (by assumption)) (by (try simp); (try omega)))))⟩
      · rw [show decide (HasR r x y) = false from decide_eq_false (fun h => c1 h.2.2.1)]
        go_enter Tryz.func113, Tryz.ntmps113
        go_wp2_with (go_at_call 49; refine (tright_nd _ _ _ _ _).mono ?_; rintro e w1 ⟨rfl, hb⟩; obtain ⟨hc, hf⟩ := bcell hb; have hz := hb.size; (try simp at hz); have hz0 : w.heap.size < w1.heap.size := (by omega); have HBl := Lib.hid hb; clear hb)
        go_ret
        exact ⟨rfl, by (repeat' first | exact Below.refl _ _ | assumption | (apply below_drewN) | (refine Below.setCell ?_ (by (try simp); (try omega)) _) | (refine Below.alloc ?_ (by (try simp); (try omega)) _) | (refine Below.trans ?_ (Below.mono (Hid.out (by assumption)) (by (try simp); (try omega)))))⟩
    · rw [show decide (HasR r x y) = false from decide_eq_false (fun h => c0 h.2.1)]
      go_enter Tryz.func113, Tryz.ntmps113
      go_wp2_with (go_at_call 49; refine (tright_nd _ _ _ _ _).mono ?_; rintro e w1 ⟨rfl, hb⟩; obtain ⟨hc, hf⟩ := bcell hb; have hz := hb.size; (try simp at hz); have hz0 : w.heap.size < w1.heap.size := (by omega); have HBl := Lib.hid hb; clear hb)
      go_ret
      exact ⟨rfl, by (repeat' first | exact Below.refl _ _ | assumption | (apply below_drewN) | (refine Below.setCell ?_ (by (try simp); (try omega)) _) | (refine Below.alloc ?_ (by (try simp); (try omega)) _) | (refine Below.trans ?_ (Below.mono (Hid.out (by assumption)) (by (try simp); (try omega)))))⟩
  · have o : rokB ⟨r.X0, r.Y0, r.X1, r.Y1⟩ = false := (rokB_no r).2 k
    rw [show decide (HasR r x y) = false from decide_eq_false (fun h => k h.1)]
    clear k
    go_enter Tryz.func113, Tryz.ntmps113
    go_wp2_with (go_at_call 49; refine (tright_nd _ _ _ _ _).mono ?_; rintro e w1 ⟨rfl, hb⟩; obtain ⟨hc, hf⟩ := bcell hb; have hz := hb.size; (try simp at hz); have hz0 : w.heap.size < w1.heap.size := (by omega); have HBl := Lib.hid hb; clear hb)
    go_ret
    exact ⟨rfl, by (repeat' first | exact Below.refl _ _ | assumption | (apply below_drewN) | (refine Below.setCell ?_ (by (try simp); (try omega)) _) | (refine Below.alloc ?_ (by (try simp); (try omega)) _) | (refine Below.trans ?_ (Below.mono (Hid.out (by assumption)) (by (try simp); (try omega)))))⟩



theorem RcAt.set {w : World} {b : Nat} {r s : Rc} (h : RcAt w b r) {x0 y0 x1 y1 : Int} (h0 : x0 = s.X0) (h1 : y0 = s.Y0) (h2 : x1 = s.X1) (h3 : y1 = s.Y1) :
    RcAt ((((w.setCell ⟨b, 0, none⟩ (.int .i64 x0)).setCell ⟨b, 1, none⟩ (.int .i64 y0)).setCell ⟨b, 2, none⟩ (.int .i64 x1)).setCell ⟨b, 3, none⟩ (.int .i64 y1)) b s := by
  subst h0; subst h1; subst h2; subst h3
  unfold RcAt at h ⊢
  simp [World.setCell, Array.getElem?_modify, h]
theorem RcAt.far {w : World} {b c i : Nat} {r : Rc} {v : Value} (h : RcAt w b r) (hc : b ≠ c) : RcAt (w.setCell ⟨c, i, none⟩ v) b r := by
  unfold RcAt at h ⊢
  simp [World.setCell, Array.getElem?_modify, h, hc.symm]
/-- the two blocks of Bounds: the result's, and the rectangle so far. -/
def Out2 (p : Nat) (s : Rc) (w0 w : World) : Prop := RcAt w p zR ∧ RcAt w (p + 1) s ∧ Below w0.heap.size w0 w ∧ w0.heap.size ≤ p
theorem Out2.go {p : Nat} {s : Rc} {w0 w w' : World} (h : Out2 p s w0 w) (hb : Below w.heap.size w w') : Out2 p s w0 w' :=
  ⟨h.1.below hb h.1.lt, h.2.1.below hb h.2.1.lt, h.2.2.1.trans (hb.mono h.2.2.1.size), h.2.2.2⟩
theorem Out2.set {p : Nat} {r s : Rc} {w0 w : World} (h : Out2 p r w0 w) {x0 y0 x1 y1 : Int} (h0 : x0 = s.X0) (h1 : y0 = s.Y0) (h2 : x1 = s.X1) (h3 : y1 = s.Y1) :
    Out2 p s w0 ((((w.setCell ⟨p + 1, 0, none⟩ (.int .i64 x0)).setCell ⟨p + 1, 1, none⟩ (.int .i64 y0)).setCell ⟨p + 1, 2, none⟩ (.int .i64 x1)).setCell ⟨p + 1, 3, none⟩ (.int .i64 y1)) :=
  ⟨(((h.1.far (by omega)).far (by omega)).far (by omega)).far (by omega), h.2.1.set h0 h1 h2 h3,
    have hp := h.2.2.2; (((h.2.2.1.setCell (by simp; omega) _).setCell (by simp; omega) _).setCell (by simp; omega) _).setCell (by simp; omega) _, h.2.2.2⟩
theorem take_nextR (l : List Rc) (k : Nat) (h : k < l.length) : l.take (k + 1) = l.take k ++ [l[k]] := by rw [List.take_succ_eq_append_getElem h]
def topR : Rc := ⟨1048576, 1048576, 0, 0⟩
def stepP (s r : Rc) : Rc := if ROk r then hullR s r else s
def boundsP (l : List Rc) : Rc := l.foldl stepP topR
theorem boundsP_snoc (l : List Rc) (r : Rc) : boundsP (l ++ [r]) = stepP (boundsP l) r := by simp [boundsP, List.foldl_append]
theorem boundsP_next (l : List Rc) (k : Nat) (h : k < l.length) : boundsP (l.take (k + 1)) = stepP (boundsP (l.take k)) l[k] := by rw [take_nextR l k h, boundsP_snoc]
theorem hull_top {r : Rc} (h : ROk r) : hullR topR r = r := by
  unfold ROk Span at h
  apply Rc.eq <;> simp only [hullR, topR] <;> omega
theorem boundsP_is (l : List Rc) : validR (boundsP l) = boundsR l := by
  have key : ∀ (n : Nat) (m : List Rc), m.length = n → (boundsR m = (zR, false) ∧ boundsP m = topR) ∨ (∃ s, ROk s ∧ boundsR m = (s, true) ∧ boundsP m = s) := by
    intro n
    induction n with
    | zero =>
      intro m h
      obtain rfl := List.length_eq_zero_iff.1 h
      exact Or.inl ⟨rfl, rfl⟩
    | succ n ih =>
      intro m h
      obtain ⟨k, r, rfl⟩ : ∃ k r, m = k ++ [r] := ⟨m.dropLast, m.getLast (by intro e; rw [e] at h; cases h), (List.dropLast_concat_getLast _).symm⟩
      rw [bounds_snoc, boundsP_snoc]
      rcases ih k (by simp at h; exact h) with ⟨h1, h2⟩ | ⟨s, hs, h1, h2⟩
      · rw [h1, h2]
        unfold boundsStep stepP
        by_cases hr : ROk r
        · rw [if_pos hr, if_pos hr, hull_top hr]; exact Or.inr ⟨r, hr, rfl, rfl⟩
        · rw [if_neg hr, if_neg hr]; exact Or.inl ⟨rfl, rfl⟩
      · rw [h1, h2]
        unfold boundsStep stepP
        by_cases hr : ROk r
        · rw [if_pos hr, if_pos hr]; exact Or.inr ⟨hullR s r, hull_ok hs hr, rfl, rfl⟩
        · rw [if_neg hr, if_neg hr]; exact Or.inr ⟨s, hs, rfl, rfl⟩
  rcases key _ l rfl with ⟨h1, h2⟩ | ⟨s, hs, h1, h2⟩
  · rw [h1, h2]; exact if_neg (by decide)
  · rw [h1, h2]; exact if_pos hs

set_option maxHeartbeats 16000000 in
theorem tbounds_any (A : Option Addr) (cap : Nat) (l : List Rc) (w : World) (hl : l.length ≤ 9223372036854775807) (hA : RRow w A l) : Calls Tryz.prog 137 #[.slice A l.length cap] w (RbIs (boundsR l) w) := by
  have HA := Lib.hid hA; clear hA
  have K0 : Hid (Out2 w.heap.size topR w ((w.alloc (.cells #[.int .i64 0, .int .i64 0, .int .i64 0, .int .i64 0] 33)).alloc (.cells #[.int .i64 1048576, .int .i64 1048576, .int .i64 0, .int .i64 0] 33))) :=
    Lib.hid ⟨(RcAt.new w zR _ rfl).alloc _, RcAt.new _ topR _ (by simp), by (repeat' first | exact Below.refl _ _ | assumption | (apply below_drewN) | (refine Below.setCell ?_ (by (try simp); (try omega)) _) | (refine Below.alloc ?_ (by (try simp); (try omega)) _) | (refine Below.trans ?_ (Below.mono (Hid.out (by assumption)) (by (try simp); (try omega))))), Nat.le_refl _⟩
  go_enter Tryz.func137, Tryz.ntmps137
  go_wp2
  generalize World.alloc (World.alloc w _) _ = w2 at *
  generalize hp : w.heap.size = p at *
  have HP := Lib.hid hp; clear hp
  go_loopw [10] (fun i wr => ∃ k : Nat, k ≤ l.length ∧ i = .int .i64 k ∧ Hid (Out2 p (boundsP (l.take k)) w wr)) (fun i _ => l.length - (intOf i).toNat)
  case atStart => exact ⟨0, Nat.zero_le _, rfl, K0⟩
  case round =>
    clear K0
    obtain ⟨k, hk, rfl, hK⟩ := hrel
    by_cases hlt : k < l.length
    · obtain ⟨b, off, rfl, hb, hv⟩ := (HA.out.below hK.out.2.2.1) (by omega)
      obtain ⟨v0, v1, v2, v3⟩ := hv k hlt
      have hnx := boundsP_next l k hlt
      have hex : ∃ v, v = l[k] := ⟨_, rfl⟩
      obtain ⟨v, hve⟩ := hex
      rw [← hve] at v0 v1 v2 v3 hnx
      clear hv hve
      have hi0 : (0 : Int) ≤ (k : Int) := by omega
      have hi1 : (k : Int) < (l.length : Int) := by omega
      have HNX := Lib.hid hnx; clear hnx
      generalize hs : boundsP (l.take k) = s at *
      have HS := Lib.hid hs; clear hs
      have hpl := hK.out.2.1.lt
      have e0 := hK.out.2.1.cell0; have e1 := hK.out.2.1.cell1; have e2 := hK.out.2.1.cell2; have e3 := hK.out.2.1.cell3
      go_wp2_with fail
      refine (tright_nd _ _ _ _ _).mono ?_
      rintro e w3 ⟨rfl, hb3⟩
      have L3 := Lib.hid ((RcAt.new wr v _ rfl).below hb3 (by simp))
      have K3 := Lib.hid (hK.out.go ((Below.alloc (Below.refl _ _) (Nat.le_refl _) _).trans (hb3.mono (by simp))))
      clear hb3 v0 v1 v2 v3 e0 e1 e2 e3 hK hb
      by_cases ho : ROk v
      · have o : rokB ⟨v.X0, v.Y0, v.X1, v.Y1⟩ = true := (rokB_iff v).2 ho
        have e0 := K3.out.2.1.cell0; have e1 := K3.out.2.1.cell1; have e2 := K3.out.2.1.cell2; have e3 := K3.out.2.1.cell3
        have f0 := K3.out.2.1.froz 0; have f1 := K3.out.2.1.froz 1; have f2 := K3.out.2.1.froz 2; have f3 := K3.out.2.1.froz 3
        have u0 := L3.out.cell0; have u1 := L3.out.cell1; have u2 := L3.out.cell2; have u3 := L3.out.cell3
        have hgp : wr.heap.size ≠ p + 1 := by omega
        have hgp' : p + 1 ≠ wr.heap.size := by omega
        have hN : boundsP (l.take (k + 1)) = hullR s v := by rw [HNX.out]; unfold stepP; rw [if_pos ho]
        have HN := Lib.hid hN
        clear hN HNX ho
        go_wp2_with fail
        all_goals
          go_roundw
          case rel => exact ⟨k + 1, by omega, by go_num, by rw [HN.out]; exact Lib.hid (K3.out.set (by simp only [hullR]; omega) (by simp only [hullR]; omega) (by simp only [hullR]; omega) (by simp only [hullR]; omega))⟩
          case measure => simp [intOf]; omega
      · have o : rokB ⟨v.X0, v.Y0, v.X1, v.Y1⟩ = false := (rokB_no v).2 ho
        have hN : boundsP (l.take (k + 1)) = s := by rw [HNX.out]; unfold stepP; rw [if_neg ho]
        have HN := Lib.hid hN
        clear hN HNX ho
        go_wp2_with fail
        go_roundw
        case rel => exact ⟨k + 1, by omega, by go_num, by rw [HN.out]; exact K3⟩
        case measure => simp [intOf]; omega
    · obtain rfl : k = l.length := by omega
      rw [List.take_length] at *
      have hx := boundsP_is l
      generalize boundsP l = s at *
      have HV := Lib.hid (fun w => tvalid_any s w)
      generalize validR s = x at *
      obtain ⟨x, xb⟩ := x
      have HX := Lib.hid hx
      clear hx
      have e0 := hK.out.2.1.cell0; have e1 := hK.out.2.1.cell1; have e2 := hK.out.2.1.cell2; have e3 := hK.out.2.1.cell3
      go_wp2_with fail
      refine (HV.out _).mono ?_
      rintro e w3 ⟨rfl, hb3⟩
      have K3 := Lib.hid (hK.out.go hb3)
      clear hb3 e0 e1 e2 e3 hK
      have z0 := K3.out.1.cell0; have z1 := K3.out.1.cell1; have z2 := K3.out.1.cell2; have z3 := K3.out.1.cell3
      have f0 := K3.out.1.froz 0; have f1 := K3.out.1.froz 1; have f2 := K3.out.1.froz 2; have f3 := K3.out.1.froz 3
      have zl := K3.out.1.lt
      go_wp2_with fail
      exact bodyPost_ret (v := .tuple #[.agg #[.int .i64 x.X0, .int .i64 x.Y0, .int .i64 x.X1, .int .i64 x.Y1], .bool xb]) (by simp [results, Tryz.results137, go_sem, *]) rfl (by rw [← HX.out]; exact RbIs.of rfl rfl rfl rfl rfl (by have hk := K3.out.2.2.1; have hq := K3.out.2.2.2; (repeat' first | exact Below.refl _ _ | assumption | (apply below_drewN) | (refine Below.setCell ?_ (by (try simp); (try omega)) _) | (refine Below.alloc ?_ (by (try simp); (try omega)) _) | (refine Below.trans ?_ (Below.mono (Hid.out (by assumption)) (by (try simp); (try omega)))))))
end Go.Proofs.YtkjblmfmaenllaaGreat
