/-
  Contracts of the program's layer 8 (7): extend, equality of lists of spans, changes.
-/
import Derived.Test.YtcnojedijimheaaSw
import Derived.Test.YtcnojedijimheaaSf
import Derived.Test.YtcnojedijimheaaHr
import Derived.Laws.StructEq
import Derived.Laws.AppendOwn
import Derived.Deep.AppendLies
set_option linter.unusedVariables false
set_option maxRecDepth 100000
namespace Go.Proofs.Ytcnojedijimheaa
open Go.RowKit

def wideL (x : Int) (l : List Rc) : List Rc := l.map (fun r => (⟨r.X0, r.Y0, x, r.Y1⟩ : Rc))
def EXl (L Q : List Rc) (x : Int) (k : Nat) : List Rc := L ++ (wideL x (Q.take k) ++ Q.drop k)
theorem EXl_len (L Q : List Rc) (x : Int) (k : Nat) : (EXl L Q x k).length = (L ++ Q).length := by simp [EXl, wideL]; omega
theorem EXl_at (L Q : List Rc) (x : Int) (k : Nat) (h : k < Q.length) : ∃ h2 : L.length + k < (EXl L Q x k).length, (EXl L Q x k)[L.length + k] = Q[k] := by
  refine ⟨by rw [EXl_len]; simp; omega, ?_⟩
  unfold EXl
  rw [List.getElem_append_right (by omega), List.getElem_append_right (by simp [wideL]; omega)]
  rw [List.getElem_drop]
  congr 1
  simp [wideL]; omega
theorem EXl_next (L Q : List Rc) (x : Int) (k : Nat) (h : k < Q.length) : (EXl L Q x k).set (L.length + k) ⟨Q[k].X0, Q[k].Y0, x, Q[k].Y1⟩ = EXl L Q x (k + 1) := by
  unfold EXl
  have e : (wideL x (Q.take k)).length = k := by simp [wideL]; omega
  rw [List.set_append_right _ _ (by omega), Nat.add_sub_cancel_left, List.set_append_right _ _ (by omega), e, Nat.sub_self, List.drop_eq_getElem_cons h, List.set_cons_zero, List.take_succ_eq_append_getElem h]
  unfold wideL
  rw [List.map_append, List.append_assoc]
  rfl
set_option maxHeartbeats 16000000 in
theorem yext_any (B g cap c : Nat) (L Q : List Rc) (x : Int) (w : World) (h : w.ownsRow B 41 4 (.slice (some ⟨g, 0, none⟩) (L ++ Q).length cap) (L ++ Q).length (rcells (L ++ Q))) (hl : (L ++ Q).length ≤ 1099511627776) :
    Calls Try.prog 59 #[.slice (some ⟨g, L.length * 4, none⟩) Q.length c, .int .i64 x] w fun e w' => e = .returned (.tuple #[]) ∧ w'.ownsRow B 41 4 (.slice (some ⟨g, 0, none⟩) (L ++ Q).length cap) (L ++ Q).length (rcells (L ++ wideL x Q)) ∧ w.grownBy w' (some g) := by
  have hle : Q.length ≤ 1099511627776 := by rw [List.length_append] at hl; omega
  obtain ⟨n, hn⟩ : ∃ n, n = (L ++ Q).length := ⟨_, rfl⟩
  rw [← hn] at h ⊢
  have HN := Lib.hid hn; clear hn hl
  have K0 : Hid (w.ownsRow B 41 4 (.slice (some ⟨g, 0, none⟩) n cap) n (rcells (EXl L Q x 0)) ∧ w.grownBy w (some g)) := Lib.hid ⟨by simpa [EXl, wideL] using h, rfl, rfl, rfl, Nat.le_refl _, fun _ _ _ => rfl⟩
  clear h
  go_enter Try.func59, Try.ntmps59
  go_wp2
  go_loopw [4, 7] (fun _ i wr => ∃ k : Nat, k ≤ Q.length ∧ i = .int .i64 k ∧ Hid (wr.ownsRow B 41 4 (.slice (some ⟨g, 0, none⟩) n cap) n (rcells (EXl L Q x k)) ∧ w.grownBy wr (some g))) (fun _ i _ => Q.length - (intOf i).toNat)
  case atStart => exact ⟨0, Nat.zero_le _, rfl, K0⟩
  case round =>
    clear K0
    obtain ⟨k, hk, rfl, HS⟩ := hrel
    by_cases hlt : k < Q.length
    · obtain ⟨e1, e2⟩ := EXl_at L Q x k hlt
      have lE := EXl_len L Q x k
      obtain ⟨r0, r1, r2, r3⟩ := rcells_at (EXl L Q x k) (L.length + k) e1
      have own := HS.out.1
      have ea : L.length * 4 + k * 4 + 2 = (L.length + k) * 4 + 2 := by omega
      have hnn := HN.out
      have y2 := (own.cellAt ((L.length + k) * 4 + 2) (by omega)).trans r2
      have f2 := own.frozenAt ((L.length + k) * 4 + 2)
      have hst := (own.stored ((L.length + k) * 4 + 2) (.int .i64 x)).1
      have hset := (rcells_set (EXl L Q x k) (L.length + k) e1 x).1
      rw [e2, EXl_next L Q x k hlt] at hset
      rw [hset] at hst
      rw [← ea] at y2 f2 hst
      have hgr : Hid (w.grownBy (wr.setCell ⟨g, L.length * 4 + k * 4 + 2, none⟩ (.int .i64 x)) (some g)) := Lib.hid (by
        have hg := HS.out.2
        refine ⟨hg.os, hg.tape, hg.output, by simpa [World.setCell] using hg.size, fun i hi hne => ?_⟩
        rw [set_other _ _ _ _ (fun e => hne (by rw [e]))]
        exact hg.block i hi hne)
      have HST := Lib.hid hst
      generalize ((EXl L Q x k)[L.length + k]) = zz at *
      clear r0 r1 r2 r3 own hst hset lE ea hnn e2
      have i0 : (0 : Int) ≤ (k : Int) := by omega
      have i1 : (k : Int) < (Q.length : Int) := by omega
      go_wp2
      go_roundw
      case rel => exact ⟨k + 1, by omega, by go_num, Lib.hid ⟨HST.out, hgr.out⟩⟩
      case measure => simp [intOf]; omega
    · obtain rfl : k = Q.length := by omega
      have e : EXl L Q x Q.length = L ++ wideL x Q := by simp [EXl]
      rw [e] at HS
      go_wp2
      go_end0
      exact ⟨rfl, HS.out.1, HS.out.2⟩
set_option maxHeartbeats 4000000 in
theorem yext_none (A : Option Addr) (c : Nat) (x : Int) (w : World) : Calls Try.prog 59 #[.slice A 0 c, .int .i64 x] w fun e w' => e = .returned (.tuple #[]) ∧ w' = w := by
  go_enter Try.func59, Try.ntmps59
  go_wp2
  go_loopw [4, 7] (fun _ i wr => i = .int .i64 0 ∧ wr = w) (fun _ _ _ => 0)
  case atStart => exact ⟨rfl, rfl⟩
  case round =>
    obtain ⟨rfl, rfl⟩ := hrel
    go_wp2
    go_end0
    exact ⟨rfl, rfl⟩
theorem sp_parts {u v : Int × Int} : u = v ∨ (u ≠ v ∧ ((u.1 == v.1) = false ∨ (u.1 = v.1 ∧ (u.2 == v.2) = false))) := by
  obtain ⟨a, b⟩ := u; obtain ⟨c, d⟩ := v
  simp only []
  by_cases c0 : a = c
  · by_cases c1 : b = d
    · exact Or.inl (by rw [c0, c1])
    · exact Or.inr ⟨fun e => c1 (by injection e), Or.inr ⟨c0, by simp [c1]⟩⟩
  · exact Or.inr ⟨fun e => c0 (by injection e), Or.inl (by simp [c0])⟩
theorem take_eq_next {α : Type} {l m : List α} {k : Nat} (h1 : k < l.length) (h2 : k < m.length) (h : l.take k = m.take k) (e : l[k] = m[k]) : l.take (k + 1) = m.take (k + 1) := by
  rw [List.take_succ_eq_append_getElem h1, List.take_succ_eq_append_getElem h2, h, e]
set_option maxHeartbeats 16000000 in
theorem yeq_any (B1 B2 : Nat) (A1 : Option Addr) (c1 : Nat) (A2 : Option Addr) (c2 : Nat) (l m : List (Int × Int)) (w : World) (h1 : SpRow w B1 A1 l) (h2 : SpRow w B2 A2 m) (hl : l.length ≤ 1099511627776) (hm : m.length ≤ 1099511627776) :
    Calls Try.prog 58 #[.slice A1 l.length c1, .slice A2 m.length c2] w (BlIs (decide (l = m)) w) := by
  have H1 := Lib.hid h1; clear h1
  have H2 := Lib.hid h2; clear h2
  by_cases hlen : l.length = m.length
  · have hll : ((l.length : Int) != (m.length : Int)) = false := by simp [hlen]
    go_enter Try.func58, Try.ntmps58
    go_wp2
    go_loopw [13] (fun i wr => ∃ (k q : Nat), k ≤ l.length ∧ i = .int .i64 k ∧ wr = w.drewN q ∧ l.take k = m.take k) (fun i _ => l.length - (intOf i).toNat)
    case atStart => exact ⟨0, 0, Nat.zero_le _, rfl, rfl, rfl⟩
    case round =>
      obtain ⟨k, q, hk, rfl, rfl, ht⟩ := hrel
      by_cases hlt : k < l.length
      · obtain ⟨b1, o1, rfl, _, hb1, hv1⟩ := H1.out (by omega)
        obtain ⟨b2, o2, rfl, _, hb2, hv2⟩ := H2.out (by omega)
        obtain ⟨x0, x1⟩ := hv1 k hlt
        obtain ⟨y0, y1⟩ := hv2 k (by omega)
        have hk2 : k < m.length := by omega
        have HT := Lib.hid (take_eq_next hlt hk2 ht); clear ht
        have HNE : Hid (l[k] ≠ m[k] → l ≠ m) := Lib.hid (fun h e => h (by subst e; rfl))
        have i0 : (0 : Int) ≤ (k : Int) := by omega
        have i1 : (k : Int) < (l.length : Int) := by omega
        have i2 : (k : Int) < (m.length : Int) := by omega
        clear hv1 hv2
        generalize l[k] = u at *
        generalize m[k] = v at *
        rcases sp_parts (u := u) (v := v) with rfl | ⟨e, hd⟩
        · have HT2 := Lib.hid (HT.out rfl); clear HT HNE
          go_wp2_with fail
          go_quiet (fail)
          go_wp2
          go_roundw
          case rel => exact ⟨k + 1, _, by omega, by go_num, rfl, HT2.out⟩
          case measure => simp [intOf]; omega
        · have HN := Lib.hid (HNE.out e); clear HT HNE e
          rcases hd with d0 | ⟨d0, d1⟩
          all_goals
            go_wp2_with fail
            go_quiet (fail)
            go_wp2
            go_ret
            exact ⟨by rw [decide_eq_false HN.out]; rfl, by (repeat' first | exact Below.refl _ _ | assumption | (apply below_drewN) | (refine Below.setCell ?_ (by (try simp); (try omega)) _) | (refine Below.alloc ?_ (by (try simp); (try omega)) _) | (refine Below.trans ?_ (Below.mono (Hid.out (by assumption)) (by (try simp); (try omega)))))⟩
      · obtain rfl : k = l.length := by omega
        have he : l = m := by
          rw [List.take_length] at ht
          rw [ht, hlen, List.take_length]
        go_wp2
        go_ret
        exact ⟨by rw [decide_eq_true he]; rfl, by (repeat' first | exact Below.refl _ _ | assumption | (apply below_drewN) | (refine Below.setCell ?_ (by (try simp); (try omega)) _) | (refine Below.alloc ?_ (by (try simp); (try omega)) _) | (refine Below.trans ?_ (Below.mono (Hid.out (by assumption)) (by (try simp); (try omega)))))⟩
  · have hll : ((l.length : Int) != (m.length : Int)) = true := by simp; omega
    rw [decide_eq_false (fun e => hlen (by rw [e]))]
    go_enter Try.func58, Try.ntmps58
    go_wp2
    go_ret
    exact ⟨rfl, by (repeat' first | exact Below.refl _ _ | assumption | (apply below_drewN) | (refine Below.setCell ?_ (by (try simp); (try omega)) _) | (refine Below.alloc ?_ (by (try simp); (try omega)) _) | (refine Below.trans ?_ (Below.mono (Hid.out (by assumption)) (by (try simp); (try omega)))))⟩
end Go.Proofs.Ytcnojedijimheaa
