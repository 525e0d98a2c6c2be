/-
  Contracts of the reference of layer 5 (7): Bounds.
-/
import Derived.Test.YtpbkmphpgjdpfaaEh
import Derived.Test.YtpbkmphpgjdpfaaEi
set_option linter.unusedVariables false
set_option maxRecDepth 100000
namespace Go.Proofs.Ytpbkmphpgjdpfaa
open Go.RowKit

theorem RcAt.set {w : World} {b : Nat} {r s : Rc} (h : RcAt w b r) {x0 y0 x1 y1 : Int} (h0 : x0 = s.X0) (h1 : y0 = s.Y0) (h2 : x1 = s.X1) (h3 : y1 = s.Y1) :
    RcAt ((((w.setCell ⟨b, 0, none⟩ (.int .i64 x0)).setCell ⟨b, 1, none⟩ (.int .i64 y0)).setCell ⟨b, 2, none⟩ (.int .i64 x1)).setCell ⟨b, 3, none⟩ (.int .i64 y1)) b s := by
  subst h0; subst h1; subst h2; subst h3
  unfold RcAt at h ⊢
  simp [World.setCell, Array.getElem?_modify, h]
theorem RcAt.far {w : World} {b c i : Nat} {r : Rc} {v : Value} (h : RcAt w b r) (hc : b ≠ c) : RcAt (w.setCell ⟨c, i, none⟩ v) b r := by
  unfold RcAt at h ⊢
  simp [World.setCell, Array.getElem?_modify, h, hc.symm]
/-- the two blocks of Bounds: the result's, and the rectangle so far. -/
def Out2 (p : Nat) (s : Rc) (w0 w : World) : Prop := RcAt w p zR ∧ RcAt w (p + 1) s ∧ Below w0.heap.size w0 w ∧ w0.heap.size ≤ p
theorem Out2.go {p : Nat} {s : Rc} {w0 w w' : World} (h : Out2 p s w0 w) (hb : Below w.heap.size w w') : Out2 p s w0 w' :=
  ⟨h.1.below hb h.1.lt, h.2.1.below hb h.2.1.lt, h.2.2.1.trans (hb.mono h.2.2.1.size), h.2.2.2⟩
theorem Out2.set {p : Nat} {r s : Rc} {w0 w : World} (h : Out2 p r w0 w) {x0 y0 x1 y1 : Int} (h0 : x0 = s.X0) (h1 : y0 = s.Y0) (h2 : x1 = s.X1) (h3 : y1 = s.Y1) :
    Out2 p s w0 ((((w.setCell ⟨p + 1, 0, none⟩ (.int .i64 x0)).setCell ⟨p + 1, 1, none⟩ (.int .i64 y0)).setCell ⟨p + 1, 2, none⟩ (.int .i64 x1)).setCell ⟨p + 1, 3, none⟩ (.int .i64 y1)) :=
  ⟨(((h.1.far (by omega)).far (by omega)).far (by omega)).far (by omega), h.2.1.set h0 h1 h2 h3,
    have hp := h.2.2.2; (((h.2.2.1.setCell (by simp; omega) _).setCell (by simp; omega) _).setCell (by simp; omega) _).setCell (by simp; omega) _, h.2.2.2⟩
theorem take_nextR (l : List Rc) (k : Nat) (h : k < l.length) : l.take (k + 1) = l.take k ++ [l[k]] := by rw [List.take_succ_eq_append_getElem h]
theorem bounds_next (l : List Rc) (k : Nat) (h : k < l.length) : boundsR (l.take (k + 1)) = boundsStep (boundsR (l.take k)) l[k] := by rw [take_nextR l k h, bounds_snoc]

set_option maxHeartbeats 16000000 in
theorem ubounds_any (A : Option Addr) (cap : Nat) (l : List Rc) (w : World) (hl : l.length ≤ 9223372036854775807) (hA : RRow w A l) : Calls Try.prog 29 #[.slice A l.length cap] w (RbIs (boundsR l) w) := by
  have HA := Lib.hid hA; clear hA
  have K0 : Hid (Out2 w.heap.size zR w ((w.alloc (.cells #[.int .i64 0, .int .i64 0, .int .i64 0, .int .i64 0] 23)).alloc (.cells #[.int .i64 0, .int .i64 0, .int .i64 0, .int .i64 0] 23))) :=
    Lib.hid ⟨(RcAt.new w zR _ rfl).alloc _, RcAt.new _ zR _ (by simp), by (repeat' first | exact Below.refl _ _ | assumption | (apply below_drewN) | (refine Below.setCell ?_ (by (try simp); (try omega)) _) | (refine Below.alloc ?_ (by (try simp); (try omega)) _) | (refine Below.trans ?_ (Below.mono (Hid.out (by assumption)) (by (try simp); (try omega))))), Nat.le_refl _⟩
  go_enter Try.func29, Try.ntmps29
  go_wp2
  generalize World.alloc (World.alloc w _) _ = w2 at *
  generalize hp : w.heap.size = p at *
  have HP := Lib.hid hp; clear hp
  go_loopw [5, 6] (fun v i wr => ∃ k : Nat, k ≤ l.length ∧ i = .int .i64 k ∧ v = .bool (boundsR (l.take k)).2 ∧ Hid (Out2 p (boundsR (l.take k)).1 w wr)) (fun _ i _ => l.length - (intOf i).toNat)
  case atStart => exact ⟨0, Nat.zero_le _, rfl, rfl, K0⟩
  case round =>
    clear K0
    obtain ⟨k, hk, rfl, rfl, hK⟩ := hrel
    by_cases hlt : k < l.length
    · obtain ⟨b, off, rfl, hb, hv⟩ := (HA.out.below hK.out.2.2.1) (by omega)
      obtain ⟨v0, v1, v2, v3⟩ := hv k hlt
      have hnx := bounds_next l k hlt
      have hex : ∃ v, v = l[k] := ⟨_, rfl⟩
      obtain ⟨v, hve⟩ := hex
      rw [← hve] at v0 v1 v2 v3 hnx
      clear hv hve
      have hi0 : (0 : Int) ≤ (k : Int) := by omega
      have hi1 : (k : Int) < (l.length : Int) := by omega
      have HNX := Lib.hid hnx; clear hnx
      generalize hs : boundsR (l.take k) = s at *
      have HS := Lib.hid hs; clear hs
      obtain ⟨s, sb⟩ := s
      have hpl := hK.out.2.1.lt
      have e0 := hK.out.2.1.cell0; have e1 := hK.out.2.1.cell1; have e2 := hK.out.2.1.cell2; have e3 := hK.out.2.1.cell3
      go_wp2_with fail
      refine (uright_nd _ _ _ _ _).mono ?_
      rintro e w3 ⟨rfl, hb3⟩
      have L3 := Lib.hid ((RcAt.new wr v _ rfl).below hb3 (by simp))
      have K3 := Lib.hid (hK.out.go ((Below.alloc (Below.refl _ _) (Nat.le_refl _) _).trans (hb3.mono (by simp))))
      clear hb3 v0 v1 v2 v3 e0 e1 e2 e3 hK hb
      by_cases ho : ROk v
      · have o : rokB ⟨v.X0, v.Y0, v.X1, v.Y1⟩ = true := (rokB_iff v).2 ho
        have e0 := K3.out.2.1.cell0; have e1 := K3.out.2.1.cell1; have e2 := K3.out.2.1.cell2; have e3 := K3.out.2.1.cell3
        have f0 := K3.out.2.1.froz 0; have f1 := K3.out.2.1.froz 1; have f2 := K3.out.2.1.froz 2; have f3 := K3.out.2.1.froz 3
        have u0 := L3.out.cell0; have u1 := L3.out.cell1; have u2 := L3.out.cell2; have u3 := L3.out.cell3
        have hgp : wr.heap.size ≠ p + 1 := by omega
        have hgp' : p + 1 ≠ wr.heap.size := by omega
        cases sb
        · have hN : boundsR (l.take (k + 1)) = (v, true) := by rw [HNX.out]; unfold boundsStep; rw [if_pos ho]; rfl
          have HN := Lib.hid hN
          clear hN HNX ho
          go_wp2_with fail
          all_goals
            go_roundw
            case rel => exact ⟨k + 1, by omega, by go_num, by rw [HN.out], by rw [HN.out]; exact Lib.hid ((K3.out.set (s := v) rfl rfl rfl rfl).set rfl rfl rfl rfl)⟩
            case measure => simp [intOf]; omega
        · have hN : boundsR (l.take (k + 1)) = (hullR s v, true) := by rw [HNX.out]; unfold boundsStep; rw [if_pos ho]; rfl
          have HN := Lib.hid hN
          clear hN HNX ho
          go_wp2_with fail
          all_goals
            go_roundw
            case rel => exact ⟨k + 1, by omega, by go_num, by rw [HN.out], by rw [HN.out]; exact Lib.hid (K3.out.set (by simp only [hullR]; omega) (by simp only [hullR]; omega) (by simp only [hullR]; omega) (by simp only [hullR]; omega))⟩
            case measure => simp [intOf]; omega
      · have o : rokB ⟨v.X0, v.Y0, v.X1, v.Y1⟩ = false := (rokB_no v).2 ho
        have hN : boundsR (l.take (k + 1)) = (s, sb) := by rw [HNX.out]; unfold boundsStep; rw [if_neg ho]
        have HN := Lib.hid hN
        clear hN HNX ho
        go_wp2_with fail
        go_roundw
        case rel => exact ⟨k + 1, by omega, by go_num, by rw [HN.out], by rw [HN.out]; exact K3⟩
        case measure => simp [intOf]; omega
    · obtain rfl : k = l.length := by omega
      rw [List.take_length] at *
      generalize boundsR l = s at *
      obtain ⟨s, sb⟩ := s
      have e0 := hK.out.2.1.cell0; have e1 := hK.out.2.1.cell1; have e2 := hK.out.2.1.cell2; have e3 := hK.out.2.1.cell3
      have z0 := hK.out.1.cell0; have z1 := hK.out.1.cell1; have z2 := hK.out.1.cell2; have z3 := hK.out.1.cell3
      have f0 := hK.out.1.froz 0; have f1 := hK.out.1.froz 1; have f2 := hK.out.1.froz 2; have f3 := hK.out.1.froz 3
      go_wp2_with fail
      exact bodyPost_ret (v := .tuple #[.agg #[.int .i64 s.X0, .int .i64 s.Y0, .int .i64 s.X1, .int .i64 s.Y1], .bool sb]) (by simp [results, Try.results29, go_sem, *]) rfl (RbIs.of rfl rfl rfl rfl rfl (by have hk := hK.out.2.2.1; have hq := hK.out.2.2.2; (repeat' first | exact Below.refl _ _ | assumption | (apply below_drewN) | (refine Below.setCell ?_ (by (try simp); (try omega)) _) | (refine Below.alloc ?_ (by (try simp); (try omega)) _) | (refine Below.trans ?_ (Below.mono (Hid.out (by assumption)) (by (try simp); (try omega)))))))
end Go.Proofs.Ytpbkmphpgjdpfaa
