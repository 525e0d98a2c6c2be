/-
  Contracts of the program's layer 5: Bounds.
-/
import Derived.Test.YtpbkmphpgjdpfaaEj
import Derived.Test.YtpbkmphpgjdpfaaEk
set_option linter.unusedVariables false
set_option maxRecDepth 100000
namespace Go.Proofs.Ytpbkmphpgjdpfaa
open Go.RowKit

def topR : Rc := ⟨1048576, 1048576, 0, 0⟩
def stepP (s r : Rc) : Rc := if ROk r then hullR s r else s
def boundsP (l : List Rc) : Rc := l.foldl stepP topR
theorem boundsP_snoc (l : List Rc) (r : Rc) : boundsP (l ++ [r]) = stepP (boundsP l) r := by simp [boundsP, List.foldl_append]
theorem boundsP_next (l : List Rc) (k : Nat) (h : k < l.length) : boundsP (l.take (k + 1)) = stepP (boundsP (l.take k)) l[k] := by rw [take_nextR l k h, boundsP_snoc]
theorem hull_top {r : Rc} (h : ROk r) : hullR topR r = r := by
  unfold ROk Span at h
  apply Rc.eq <;> simp only [hullR, topR] <;> omega
theorem boundsP_is (l : List Rc) : validR (boundsP l) = boundsR l := by
  have key : ∀ (n : Nat) (m : List Rc), m.length = n → (boundsR m = (zR, false) ∧ boundsP m = topR) ∨ (∃ s, ROk s ∧ boundsR m = (s, true) ∧ boundsP m = s) := by
    intro n
    induction n with
    | zero =>
      intro m h
      obtain rfl := List.length_eq_zero_iff.1 h
      exact Or.inl ⟨rfl, rfl⟩
    | succ n ih =>
      intro m h
      obtain ⟨k, r, rfl⟩ : ∃ k r, m = k ++ [r] := ⟨m.dropLast, m.getLast (by intro e; rw [e] at h; cases h), (List.dropLast_concat_getLast _).symm⟩
      rw [bounds_snoc, boundsP_snoc]
      rcases ih k (by simp at h; exact h) with ⟨h1, h2⟩ | ⟨s, hs, h1, h2⟩
      · rw [h1, h2]
        unfold boundsStep stepP
        by_cases hr : ROk r
        · rw [if_pos hr, if_pos hr, hull_top hr]; exact Or.inr ⟨r, hr, rfl, rfl⟩
        · rw [if_neg hr, if_neg hr]; exact Or.inl ⟨rfl, rfl⟩
      · rw [h1, h2]
        unfold boundsStep stepP
        by_cases hr : ROk r
        · rw [if_pos hr, if_pos hr]; exact Or.inr ⟨hullR s r, hull_ok hs hr, rfl, rfl⟩
        · rw [if_neg hr, if_neg hr]; exact Or.inr ⟨s, hs, rfl, rfl⟩
  rcases key _ l rfl with ⟨h1, h2⟩ | ⟨s, hs, h1, h2⟩
  · rw [h1, h2]; exact if_neg (by decide)
  · rw [h1, h2]; exact if_pos hs

set_option maxHeartbeats 16000000 in
theorem tbounds_any (A : Option Addr) (cap : Nat) (l : List Rc) (w : World) (hl : l.length ≤ 9223372036854775807) (hA : RRow w A l) : Calls Try.prog 28 #[.slice A l.length cap] w (RbIs (boundsR l) w) := by
  have HA := Lib.hid hA; clear hA
  have K0 : Hid (Out2 w.heap.size topR w ((w.alloc (.cells #[.int .i64 0, .int .i64 0, .int .i64 0, .int .i64 0] 23)).alloc (.cells #[.int .i64 1048576, .int .i64 1048576, .int .i64 0, .int .i64 0] 23))) :=
    Lib.hid ⟨(RcAt.new w zR _ rfl).alloc _, RcAt.new _ topR _ (by simp), by (repeat' first | exact Below.refl _ _ | assumption | (apply below_drewN) | (refine Below.setCell ?_ (by (try simp); (try omega)) _) | (refine Below.alloc ?_ (by (try simp); (try omega)) _) | (refine Below.trans ?_ (Below.mono (Hid.out (by assumption)) (by (try simp); (try omega))))), Nat.le_refl _⟩
  go_enter Try.func28, Try.ntmps28
  go_wp2
  generalize World.alloc (World.alloc w _) _ = w2 at *
  generalize hp : w.heap.size = p at *
  have HP := Lib.hid hp; clear hp
  go_loopw [10] (fun i wr => ∃ k : Nat, k ≤ l.length ∧ i = .int .i64 k ∧ Hid (Out2 p (boundsP (l.take k)) w wr)) (fun i _ => l.length - (intOf i).toNat)
  case atStart => exact ⟨0, Nat.zero_le _, rfl, K0⟩
  case round =>
    clear K0
    obtain ⟨k, hk, rfl, hK⟩ := hrel
    by_cases hlt : k < l.length
    · obtain ⟨b, off, rfl, hb, hv⟩ := (HA.out.below hK.out.2.2.1) (by omega)
      obtain ⟨v0, v1, v2, v3⟩ := hv k hlt
      have hnx := boundsP_next l k hlt
      have hex : ∃ v, v = l[k] := ⟨_, rfl⟩
      obtain ⟨v, hve⟩ := hex
      rw [← hve] at v0 v1 v2 v3 hnx
      clear hv hve
      have hi0 : (0 : Int) ≤ (k : Int) := by omega
      have hi1 : (k : Int) < (l.length : Int) := by omega
      have HNX := Lib.hid hnx; clear hnx
      generalize hs : boundsP (l.take k) = s at *
      have HS := Lib.hid hs; clear hs
      have hpl := hK.out.2.1.lt
      have e0 := hK.out.2.1.cell0; have e1 := hK.out.2.1.cell1; have e2 := hK.out.2.1.cell2; have e3 := hK.out.2.1.cell3
      go_wp2_with fail
      refine (tright_nd _ _ _ _ _).mono ?_
      rintro e w3 ⟨rfl, hb3⟩
      have L3 := Lib.hid ((RcAt.new wr v _ rfl).below hb3 (by simp))
      have K3 := Lib.hid (hK.out.go ((Below.alloc (Below.refl _ _) (Nat.le_refl _) _).trans (hb3.mono (by simp))))
      clear hb3 v0 v1 v2 v3 e0 e1 e2 e3 hK hb
      by_cases ho : ROk v
      · have o : rokB ⟨v.X0, v.Y0, v.X1, v.Y1⟩ = true := (rokB_iff v).2 ho
        have e0 := K3.out.2.1.cell0; have e1 := K3.out.2.1.cell1; have e2 := K3.out.2.1.cell2; have e3 := K3.out.2.1.cell3
        have f0 := K3.out.2.1.froz 0; have f1 := K3.out.2.1.froz 1; have f2 := K3.out.2.1.froz 2; have f3 := K3.out.2.1.froz 3
        have u0 := L3.out.cell0; have u1 := L3.out.cell1; have u2 := L3.out.cell2; have u3 := L3.out.cell3
        have hgp : wr.heap.size ≠ p + 1 := by omega
        have hgp' : p + 1 ≠ wr.heap.size := by omega
        have hN : boundsP (l.take (k + 1)) = hullR s v := by rw [HNX.out]; unfold stepP; rw [if_pos ho]
        have HN := Lib.hid hN
        clear hN HNX ho
        go_wp2_with fail
        all_goals
          go_roundw
          case rel => exact ⟨k + 1, by omega, by go_num, by rw [HN.out]; exact Lib.hid (K3.out.set (by simp only [hullR]; omega) (by simp only [hullR]; omega) (by simp only [hullR]; omega) (by simp only [hullR]; omega))⟩
          case measure => simp [intOf]; omega
      · have o : rokB ⟨v.X0, v.Y0, v.X1, v.Y1⟩ = false := (rokB_no v).2 ho
        have hN : boundsP (l.take (k + 1)) = s := by rw [HNX.out]; unfold stepP; rw [if_neg ho]
        have HN := Lib.hid hN
        clear hN HNX ho
        go_wp2_with fail
        go_roundw
        case rel => exact ⟨k + 1, by omega, by go_num, by rw [HN.out]; exact K3⟩
        case measure => simp [intOf]; omega
    · obtain rfl : k = l.length := by omega
      rw [List.take_length] at *
      have hx := boundsP_is l
      generalize boundsP l = s at *
      have HV := Lib.hid (fun w => tvalid_any s w)
      generalize validR s = x at *
      obtain ⟨x, xb⟩ := x
      have HX := Lib.hid hx
      clear hx
      have e0 := hK.out.2.1.cell0; have e1 := hK.out.2.1.cell1; have e2 := hK.out.2.1.cell2; have e3 := hK.out.2.1.cell3
      go_wp2_with fail
      refine (HV.out _).mono ?_
      rintro e w3 ⟨rfl, hb3⟩
      have K3 := Lib.hid (hK.out.go hb3)
      clear hb3 e0 e1 e2 e3 hK
      have z0 := K3.out.1.cell0; have z1 := K3.out.1.cell1; have z2 := K3.out.1.cell2; have z3 := K3.out.1.cell3
      have f0 := K3.out.1.froz 0; have f1 := K3.out.1.froz 1; have f2 := K3.out.1.froz 2; have f3 := K3.out.1.froz 3
      have zl := K3.out.1.lt
      go_wp2_with fail
      exact bodyPost_ret (v := .tuple #[.agg #[.int .i64 x.X0, .int .i64 x.Y0, .int .i64 x.X1, .int .i64 x.Y1], .bool xb]) (by simp [results, Try.results28, go_sem, *]) rfl (by rw [← HX.out]; exact RbIs.of rfl rfl rfl rfl rfl (by have hk := K3.out.2.2.1; have hq := K3.out.2.2.2; (repeat' first | exact Below.refl _ _ | assumption | (apply below_drewN) | (refine Below.setCell ?_ (by (try simp); (try omega)) _) | (refine Below.alloc ?_ (by (try simp); (try omega)) _) | (refine Below.trans ?_ (Below.mono (Hid.out (by assumption)) (by (try simp); (try omega)))))))
end Go.Proofs.Ytpbkmphpgjdpfaa
