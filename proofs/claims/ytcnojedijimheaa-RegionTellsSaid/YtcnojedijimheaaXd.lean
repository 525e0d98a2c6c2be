/-
  Contracts of the reference of layer 6 (9): Bounds.
-/
import Derived.Test.YtcnojedijimheaaXn
import Derived.Test.YtcnojedijimheaaIj
import Derived.Lib.MinMax
import Derived.StillTailTactics
set_option linter.unusedVariables false
set_option maxRecDepth 100000
namespace Go.Proofs.Ytcnojedijimheaa
open Go.RowKit

/-- the two blocks of Bounds: the result's, and the rectangle so far. -/
def Out3 (p q : Nat) (s : Rc) (w0 w : World) : Prop := RcAt w p zR ∧ RcAt w q s ∧ Below w0.heap.size w0 w ∧ w0.heap.size ≤ p ∧ p < q
theorem Out3.go {p q : Nat} {s : Rc} {w0 w w' : World} (h : Out3 p q s w0 w) (hb : Below w.heap.size w w') : Out3 p q s w0 w' :=
  ⟨h.1.below hb h.1.lt, h.2.1.below hb h.2.1.lt, h.2.2.1.trans (hb.mono h.2.2.1.size), h.2.2.2⟩
theorem Out3.set {p q : Nat} {r s : Rc} {w0 w : World} (h : Out3 p q r w0 w) {x0 y0 x1 y1 : Int} (h0 : x0 = s.X0) (h1 : y0 = s.Y0) (h2 : x1 = s.X1) (h3 : y1 = s.Y1) :
    Out3 p q s w0 ((((w.setCell ⟨q, 0, none⟩ (.int .i64 x0)).setCell ⟨q, 1, none⟩ (.int .i64 y0)).setCell ⟨q, 2, none⟩ (.int .i64 x1)).setCell ⟨q, 3, none⟩ (.int .i64 y1)) :=
  ⟨(((h.1.far (by have := h.2.2.2; omega)).far (by have := h.2.2.2; omega)).far (by have := h.2.2.2; omega)).far (by have := h.2.2.2; omega), h.2.1.set h0 h1 h2 h3,
    have hp := h.2.2.2; (((h.2.2.1.setCell (by simp; omega) _).setCell (by simp; omega) _).setCell (by simp; omega) _).setCell (by simp; omega) _, h.2.2.2⟩
theorem bounds_grow {l : List Rc} (hok : ∀ r ∈ l, ROk r) : ∀ (k : Nat) (h : k < l.length), (k = 0 → boundsR (l.take (k + 1)) = (l[k], true)) ∧ (0 < k → boundsR (l.take (k + 1)) = (hullR (boundsR (l.take k)).1 l[k], true)) := by
  intro k
  induction k with
  | zero =>
    intro h
    refine ⟨fun _ => ?_, fun h0 => absurd h0 (by omega)⟩
    rw [List.take_succ_eq_append_getElem h, bounds_snoc]
    unfold boundsStep
    rw [if_pos (hok _ (List.getElem_mem h))]
    rfl
  | succ k ih =>
    intro h
    refine ⟨fun h0 => absurd h0 (by omega), fun _ => ?_⟩
    have i := ih (by omega)
    have h2 : (boundsR (l.take (k + 1))).2 = true := by
      by_cases e : k = 0
      · rw [i.1 e]
      · rw [i.2 (by omega)]
    rw [List.take_succ_eq_append_getElem h, bounds_snoc]
    unfold boundsStep
    rw [if_pos (hok _ (List.getElem_mem h)), if_pos h2]
set_option maxHeartbeats 16000000 in
theorem vbounds_any (A : Option Addr) (cap : Nat) (l : List Rc) (w : World) (hl : RIn w A cap l) :
    Calls Try.prog 46 #[.slice A l.length cap] w (RbIs (boundsG l) w) := by
  have B0 : Hid (Below w.heap.size w (w.alloc (.cells #[.int .i64 0, .int .i64 0, .int .i64 0, .int .i64 0] 41))) := Lib.hid (by (repeat' first | exact Below.refl _ _ | assumption | (apply below_drewN) | (refine Below.setCell ?_ (by (try simp); (try omega)) _) | (refine Below.alloc ?_ (by (try simp); (try omega)) _) | (refine Below.trans ?_ (Below.mono (Hid.out (by assumption)) (by (try simp); (try omega))))))
  have K0 : Hid (RcAt (w.alloc (.cells #[.int .i64 0, .int .i64 0, .int .i64 0, .int .i64 0] 41)) w.heap.size zR) := Lib.hid (RcAt.new w zR _ rfl)
  by_cases hne : l = []
  · subst hne
    rw [show boundsG [] = (zR, false) from by unfold boundsG; split <;> rfl]
    clear hl B0 K0
    go_enter Try.func46, Try.ntmps46
    go_wp2_with fail
    exact bodyPost_ret (v := .tuple #[.agg #[.int .i64 0, .int .i64 0, .int .i64 0, .int .i64 0], .bool false]) (by simp [results, Try.results46, go_sem, *]) rfl (RbIs.of rfl rfl rfl rfl rfl (by (repeat' first | exact Below.refl _ _ | assumption | (apply below_drewN) | (refine Below.setCell ?_ (by (try simp); (try omega)) _) | (refine Below.alloc ?_ (by (try simp); (try omega)) _) | (refine Below.trans ?_ (Below.mono (Hid.out (by assumption)) (by (try simp); (try omega)))))))
  · have q1 : ((l.length : Int) == 0) = false := beq_eq_false_iff_ne.2 (by have := List.length_pos_iff.2 hne; omega)
    have hpos := List.length_pos_iff.2 hne
    have HR := Lib.hid (fun w' (h : Below w.heap.size w w') => vRight_dec A cap l w' (hl.below h))
    by_cases hr : RegP l
    · rw [decide_eq_true hr] at HR
      rw [show boundsG l = boundsR l from if_pos hr]
      have HL := Lib.hid hl
      have HOK := Lib.hid (bounds_grow (form_ok hr.1))
      have hlen := hr.2
      clear hr hl hne
      go_enter Try.func46, Try.ntmps46
      go_wp2_with fail
      generalize World.alloc w _ = w0 at *
      refine (HR.out _ B0.out).mono ?_
      rintro e1 w1 ⟨rfl, hb1⟩
      have K1 := Lib.hid (K0.out.below hb1 K0.out.lt)
      have B1 := Lib.hid (B0.out.trans (hb1.mono B0.out.size))
      obtain ⟨b1, o1, rfl, hb2, hv1⟩ := HL.out.row (by omega)
      obtain ⟨x0, x1, x2, x3⟩ := hv1 0 hpos
      have wc := fun o => B1.out.cell (p := ⟨b1, o, none⟩) hb2
      have x0 := (wc _).trans x0; have x1 := (wc _).trans x1; have x2 := (wc _).trans x2; have x3 := (wc _).trans x3
      rw [Nat.zero_mul, Nat.add_zero] at x0 x1 x2 x3
      clear hb1 wc
      have HV1 := Lib.hid hv1; have HB2 := Lib.hid (show ∀ (wr : World), Below w.heap.size w wr → ∀ o, wr.cell? ⟨b1, o, none⟩ = w.cell? ⟨b1, o, none⟩ from fun wr h o => h.cell (p := ⟨b1, o, none⟩) hb2); have hb3 : b1 < w1.heap.size := Nat.lt_of_lt_of_le hb2 B1.out.size; clear hv1 hb2
      have HF := Lib.hid ((HOK.out 0 hpos).1 rfl)
      obtain ⟨u, hu⟩ : ∃ u, u = l[0] := ⟨_, rfl⟩
      rw [← hu] at x0 x1 x2 x3 HF
      clear hu
      have j0 : (0 : Int) < (l.length : Int) := by omega
      have hps : w.heap.size < w1.heap.size := K1.out.lt
      have O1 : Hid (Out3 w.heap.size w1.heap.size u w (w1.alloc (.cells #[.int .i64 u.X0, .int .i64 u.Y0, .int .i64 u.X1, .int .i64 u.Y1] 41))) := Lib.hid ⟨K1.out.alloc _, RcAt.new _ _ _ rfl, B1.out.alloc B1.out.size _, Nat.le_refl _, hps⟩
      go_wp2_with fail
      generalize hq : w1.heap.size = q at *
      generalize hp : w.heap.size = p at *
      have HP := Lib.hid hp; clear hp hq
      generalize World.alloc w1 _ = w2 at *
      have O1 : Hid (Out3 p q (boundsR (l.take 1)).1 w w2) := Lib.hid (by rw [HF.out]; exact O1.out)
      go_loopw [5] (fun i wr => ∃ k : Nat, 1 ≤ k ∧ k ≤ l.length ∧ i = .int .i64 k ∧ Hid (Out3 p q (boundsR (l.take k)).1 w wr)) (fun i _ => l.length - (intOf i).toNat)
      case atStart => exact ⟨1, Nat.le_refl _, hpos, rfl, O1⟩
      case round =>
        clear O1 x0 x1 x2 x3 K0 K1 B0 B1
        obtain ⟨k, hk1, hk, rfl, HK⟩ := hrel
        by_cases hlt : k < l.length
        · obtain ⟨y0, y1, y2, y3⟩ := HV1.out k hlt
          have wc := HB2.out _ (by have h := HK.out.2.2.1; rw [HP.out] at h; exact h)
          have y0 := (wc _).trans y0; have y1 := (wc _).trans y1; have y2 := (wc _).trans y2; have y3 := (wc _).trans y3
          clear wc
          have HN := Lib.hid ((HOK.out k hlt).2 (by omega))
          have hi0 : (0 : Int) ≤ (k : Int) := by omega
          have hi1 : (k : Int) < (l.length : Int) := by omega
          obtain ⟨v, hv⟩ : ∃ v, v = l[k] := ⟨_, rfl⟩
          rw [← hv] at y0 y1 y2 y3 HN
          clear hv
          obtain ⟨s, hs⟩ : ∃ s, s = (boundsR (l.take k)).1 := ⟨_, rfl⟩
          rw [← hs] at HK HN
          clear hs
          have z0 := HK.out.2.1.cell0; have z1 := HK.out.2.1.cell1; have z2 := HK.out.2.1.cell2; have z3 := HK.out.2.1.cell3
          have f0 := HK.out.2.1.froz 0; have f1 := HK.out.2.1.froz 1; have f2 := HK.out.2.1.froz 2; have f3 := HK.out.2.1.froz 3
          have zl := HK.out.2.1.lt
          go_wp2_with fail
          go_still_tail 33, (by kernel_rfl)
          change wpList _ _ _ _ _ wr.drew
          have HK2 : Hid (Out3 p q s w wr.drew) := Lib.hid (HK.out.go (below_drewN (Below.refl _ wr) 1))
          clear z0 z1 z2 z3 f0 f1 f2 f3 zl HK
          generalize wr.drew = w2 at *
          have z0 := HK2.out.2.1.cell0; have z1 := HK2.out.2.1.cell1; have z2 := HK2.out.2.1.cell2; have z3 := HK2.out.2.1.cell3
          have f0 := HK2.out.2.1.froz 0; have f1 := HK2.out.2.1.froz 1; have f2 := HK2.out.2.1.froz 2; have f3 := HK2.out.2.1.froz 3
          have zl := HK2.out.2.1.lt
          have HK3 := Lib.hid (HK2.out.set (s := hullR s v) rfl rfl rfl rfl)
          go_wp2_with fail
          go_roundw
          case rel => exact ⟨k + 1, by omega, by omega, by go_num, by rw [HN.out]; exact HK3⟩
          case measure => simp [intOf]; omega
        · obtain rfl : k = l.length := by omega
          rw [List.take_length] at HK
          have HB9 : Hid ((boundsR l).2 = true) := Lib.hid (by
            have h1 := (HOK.out (l.length - 1) (by omega)).1
            have h2 := (HOK.out (l.length - 1) (by omega)).2
            rw [show l.length - 1 + 1 = l.length by omega, List.take_length] at h1 h2
            by_cases e : l.length - 1 = 0
            · rw [h1 e]
            · rw [h2 (by omega)])
          clear HF HOK
          generalize boundsR l = X at *
          obtain ⟨x, xb⟩ := X
          obtain rfl : xb = true := HB9.out
          clear HB9
          have z0 := HK.out.2.1.cell0; have z1 := HK.out.2.1.cell1; have z2 := HK.out.2.1.cell2; have z3 := HK.out.2.1.cell3
          have f0 := HK.out.1.froz 0; have f1 := HK.out.1.froz 1; have f2 := HK.out.1.froz 2; have f3 := HK.out.1.froz 3
          have zl := HK.out.2.1.lt
          have pl := HK.out.1.lt
          simp only [] at z0 z1 z2 z3
          have hp9 : p ≠ q := by have := HK.out.2.2.2.2; omega
          have c0 := HK.out.1.cell0; have c1 := HK.out.1.cell1; have c2 := HK.out.1.cell2; have c3 := HK.out.1.cell3
          go_wp2_with fail
          exact bodyPost_ret (v := .tuple #[.agg #[.int .i64 x.X0, .int .i64 x.Y0, .int .i64 x.X1, .int .i64 x.Y1], .bool true]) (by simp [results, Try.results46, go_sem, *]) rfl (RbIs.of rfl rfl rfl rfl rfl (by have hk := HK.out.2.2.1; have h5 := HK.out.2.2.2.1; have h6 := HP.out; subst h6; (repeat' first | exact Below.refl _ _ | assumption | (apply below_drewN) | (refine Below.setCell ?_ (by (try simp); (try omega)) _) | (refine Below.alloc ?_ (by (try simp); (try omega)) _) | (refine Below.trans ?_ (Below.mono (Hid.out (by assumption)) (by (try simp); (try omega)))))))
    · rw [decide_eq_false hr] at HR
      rw [show boundsG l = (zR, false) from if_neg hr]
      clear hr hl hne
      go_enter Try.func46, Try.ntmps46
      go_wp2_with fail
      generalize World.alloc w _ = w0 at *
      refine (HR.out _ B0.out).mono ?_
      rintro e1 w1 ⟨rfl, hb1⟩
      have K1 := Lib.hid (K0.out.below hb1 K0.out.lt)
      have B1 := Lib.hid (B0.out.trans (hb1.mono B0.out.size)); clear hb1 K0 B0
      have z0 := K1.out.cell0; have z1 := K1.out.cell1; have z2 := K1.out.cell2; have z3 := K1.out.cell3
      have f0 := K1.out.froz 0; have f1 := K1.out.froz 1; have f2 := K1.out.froz 2; have f3 := K1.out.froz 3
      have zl := K1.out.lt
      go_wp2_with fail
      exact bodyPost_ret (v := .tuple #[.agg #[.int .i64 0, .int .i64 0, .int .i64 0, .int .i64 0], .bool false]) (by simp [results, Try.results46, go_sem, *]) rfl (RbIs.of rfl rfl rfl rfl rfl (by have hk := B1.out; (repeat' first | exact Below.refl _ _ | assumption | (apply below_drewN) | (refine Below.setCell ?_ (by (try simp); (try omega)) _) | (refine Below.alloc ?_ (by (try simp); (try omega)) _) | (refine Below.trans ?_ (Below.mono (Hid.out (by assumption)) (by (try simp); (try omega)))))))
end Go.Proofs.Ytcnojedijimheaa
