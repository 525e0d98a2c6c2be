/-
  Contracts of the library's ContainsFunc and IndexFunc over ints, rectangles, lots and slabs, at whatever closure (layer 13).
-/
import Derived.Test.YtngddecpfhlilaaGreatC13
import Derived.Shelf.Abstract
set_option linter.unusedVariables false
set_option maxRecDepth 100000
namespace Go.Proofs.YtngddecpfhlilaaGreat
open Go.RowKit
def IxIs {α : Type} (l : List α) (p : α → Bool) (w : World) (e : Ending) (w' : World) : Prop := ∃ i : Int, e = .returned (.int .i64 i) ∧ (0 ≤ i ↔ ∃ x ∈ l, p x = true) ∧ Below w.heap.size w w'
set_option maxHeartbeats 8000000 in
theorem iif_any (K : Nat) (eg : ∀ args w, (callFunc K args).run Tryz.prog w = .ok (.enter K args) w) (caps : Array Value) (p : Int → Bool) (A : Option Addr) (cap : Nat) (l : List Int) (w : World) (hl : NIn w A cap l)
    (hc : ∀ j (h : j < l.length) w', Below w.heap.size w w' → Calls Tryz.prog K (#[.int .i64 l[j]] ++ caps) w' (BlIs (p l[j]) w')) :
    Calls Tryz.prog 103 #[.slice A l.length cap, .func (.func K) #[] caps] w (IxIs l p w) := by
  have HL := Lib.hid hl; clear hl
  have HC := Lib.hid hc; clear hc
  have HB0 := Lib.hid (Below.refl w.heap.size w)
  go_enter Tryz.func103, Tryz.ntmps103
  go_wp2
  go_loopw [8] (fun i wr => ∃ (k : Nat), k ≤ l.length ∧ i = .int .i64 k ∧ Hid (Below w.heap.size w wr) ∧ ∀ j (h : j < l.length), j < k → p l[j] = false) (fun i _ => l.length - (intOf i).toNat)
  case atStart => exact ⟨0, Nat.zero_le _, rfl, HB0, fun j h hj => absurd hj (Nat.not_lt_zero _)⟩
  case round =>
    clear HB0
    obtain ⟨k, hk, rfl, HB, ht⟩ := hrel
    have HT := Lib.hid ht; clear ht
    by_cases hlt : k < l.length
    · obtain ⟨ba, oa, rfl, hba, hva⟩ := HL.out.row (by omega)
      have x0 := hva k hlt
      clear hva
      have x0 := (HB.out.cell (p := ⟨ba, oa + k, none⟩) hba).trans x0
      have HC2 := Lib.hid (HC.out k hlt)
      have hm := List.getElem_mem hlt
      have HTK := Lib.hid (fun (c : p l[k] = false) j (h : j < l.length) (hj : j < k + 1) => show p l[j] = false from by
          by_cases e : j < k
          · exact HT.out j h e
          · obtain rfl : j = k := by omega
            exact c)
      generalize l[k] = u at *
      have HYK := Lib.hid (fun c : p u = true => (⟨fun _ => ⟨u, hm, c⟩, fun _ => by omega⟩ : 0 ≤ (k : Int) ↔ ∃ x ∈ l, p x = true)); clear hm
      have i0 : (0 : Int) ≤ (k : Int) := by omega
      have i1 : (k : Int) < (l.length : Int) := by omega
      have hlen := HL.out.len
      have hbs := HB.out.size
      cases c : p u with
      | true =>
        have HY := Lib.hid (HYK.out c); clear HYK HTK
        have HCC : Hid (∀ w', Below w.heap.size w w' → Calls Tryz.prog K (#[.int .i64 u] ++ caps) w' (BlIs true w')) := Lib.hid (fun w' hb => by have := HC2.out w' hb; rw [c] at this; exact this)
        clear c HC2
        go_wp2_with (go_at_fn K; refine (HCC.out _ (by (repeat' first | exact Below.refl _ _ | assumption | (apply below_drewN) | (refine Below.setCell ?_ (by (try simp); (try omega)) _) | (refine Below.alloc ?_ (by (try simp); (try omega)) _) | (refine Below.trans ?_ (Below.mono (Hid.out (by assumption)) (by (try simp); (try omega))))))).mono ?_; rintro e w1 ⟨rfl, hb⟩; have HBl := Lib.hid hb; clear hb)
        go_ret
        exact ⟨_, rfl, HY.out, by (repeat' first | exact Below.refl _ _ | assumption | (apply below_drewN) | (refine Below.setCell ?_ (by (try simp); (try omega)) _) | (refine Below.alloc ?_ (by (try simp); (try omega)) _) | (refine Below.trans ?_ (Below.mono (Hid.out (by assumption)) (by (try simp); (try omega)))))⟩
      | false =>
        have HN := Lib.hid (HTK.out c); clear HYK HTK
        have HCC : Hid (∀ w', Below w.heap.size w w' → Calls Tryz.prog K (#[.int .i64 u] ++ caps) w' (BlIs false w')) := Lib.hid (fun w' hb => by have := HC2.out w' hb; rw [c] at this; exact this)
        clear c HC2
        go_wp2_with (go_at_fn K; refine (HCC.out _ (by (repeat' first | exact Below.refl _ _ | assumption | (apply below_drewN) | (refine Below.setCell ?_ (by (try simp); (try omega)) _) | (refine Below.alloc ?_ (by (try simp); (try omega)) _) | (refine Below.trans ?_ (Below.mono (Hid.out (by assumption)) (by (try simp); (try omega))))))).mono ?_; rintro e w1 ⟨rfl, hb⟩; have HBl := Lib.hid hb; clear hb)
        go_roundw
        case rel => exact ⟨k + 1, by omega, by go_num, Lib.hid (by (repeat' first | exact Below.refl _ _ | assumption | (apply below_drewN) | (refine Below.setCell ?_ (by (try simp); (try omega)) _) | (refine Below.alloc ?_ (by (try simp); (try omega)) _) | (refine Below.trans ?_ (Below.mono (Hid.out (by assumption)) (by (try simp); (try omega)))))), HN.out⟩
        case measure => simp [intOf]; omega
    · obtain rfl : k = l.length := by omega
      have HY : Hid (0 ≤ (-1 : Int) ↔ ∃ x ∈ l, p x = true) := Lib.hid ⟨fun h => absurd h (by decide), fun ⟨r, hr, h⟩ => by
        obtain ⟨j, hj, rfl⟩ := List.mem_iff_getElem.1 hr
        rw [HT.out j hj hj] at h; cases h⟩
      go_wp2
      go_ret
      exact ⟨_, rfl, HY.out, HB.out⟩
theorem icf_any (K : Nat) (eg : ∀ args w, (callFunc K args).run Tryz.prog w = .ok (.enter K args) w) (caps : Array Value) (p : Int → Bool) (A : Option Addr) (cap : Nat) (l : List Int) (w : World) (hl : NIn w A cap l)
  (hc : ∀ j (h : j < l.length) w', Below w.heap.size w w' → Calls Tryz.prog K (#[.int .i64 l[j]] ++ caps) w' (BlIs (p l[j]) w')) :
  Calls Tryz.prog 50 #[.slice A l.length cap, .func (.func K) #[] caps] w (BlIs (l.any p) w) := by
 have HI := Lib.hid (iif_any K eg caps p A cap l w hl hc)
 clear hl hc
 go_enter Tryz.func50, Tryz.ntmps50
 go_wp2_with fail
 refine HI.out.mono ?_
 rintro e w1 ⟨i, rfl, hi, hb⟩
 have HB1 := Lib.hid hb
 have HE : Hid (l.any p = decide (0 ≤ i)) := Lib.hid (by rw [Bool.eq_iff_iff, List.any_eq_true, decide_eq_true_iff]; exact hi.symm)
 clear hi hb HI
 go_wp2_with fail
 go_ret
 exact ⟨by rw [HE.out]; rfl, HB1.out⟩
set_option maxHeartbeats 8000000 in
theorem rif_any (K : Nat) (eg : ∀ args w, (callFunc K args).run Tryz.prog w = .ok (.enter K args) w) (caps : Array Value) (p : Rc → Bool) (A : Option Addr) (cap : Nat) (l : List Rc) (w : World) (hl : RIn w A cap l)
    (hc : ∀ j (h : j < l.length) w', Below w.heap.size w w' → Calls Tryz.prog K (#[.agg #[.int .i64 l[j].X0, .int .i64 l[j].Y0, .int .i64 l[j].X1, .int .i64 l[j].Y1]] ++ caps) w' (BlIs (p l[j]) w')) :
    Calls Tryz.prog 126 #[.slice A l.length cap, .func (.func K) #[] caps] w (IxIs l p w) := by
  have HL := Lib.hid hl; clear hl
  have HC := Lib.hid hc; clear hc
  have HB0 := Lib.hid (Below.refl w.heap.size w)
  go_enter Tryz.func126, Tryz.ntmps126
  go_wp2
  go_loopw [8] (fun i wr => ∃ (k : Nat), k ≤ l.length ∧ i = .int .i64 k ∧ Hid (Below w.heap.size w wr) ∧ ∀ j (h : j < l.length), j < k → p l[j] = false) (fun i _ => l.length - (intOf i).toNat)
  case atStart => exact ⟨0, Nat.zero_le _, rfl, HB0, fun j h hj => absurd hj (Nat.not_lt_zero _)⟩
  case round =>
    clear HB0
    obtain ⟨k, hk, rfl, HB, ht⟩ := hrel
    have HT := Lib.hid ht; clear ht
    by_cases hlt : k < l.length
    · obtain ⟨ba, oa, rfl, hba, hva⟩ := HL.out.row (by omega)
      obtain ⟨x0, x1, x2, x3⟩ := hva k hlt
      clear hva
      have wc := fun o => HB.out.cell (p := ⟨ba, o, none⟩) hba
      have x0 := (wc _).trans x0; have x1 := (wc _).trans x1; have x2 := (wc _).trans x2; have x3 := (wc _).trans x3
      clear wc
      have HC2 := Lib.hid (HC.out k hlt)
      have hm := List.getElem_mem hlt
      have HTK := Lib.hid (fun (c : p l[k] = false) j (h : j < l.length) (hj : j < k + 1) => show p l[j] = false from by
          by_cases e : j < k
          · exact HT.out j h e
          · obtain rfl : j = k := by omega
            exact c)
      generalize l[k] = u at *
      have HYK := Lib.hid (fun c : p u = true => (⟨fun _ => ⟨u, hm, c⟩, fun _ => by omega⟩ : 0 ≤ (k : Int) ↔ ∃ x ∈ l, p x = true)); clear hm
      have i0 : (0 : Int) ≤ (k : Int) := by omega
      have i1 : (k : Int) < (l.length : Int) := by omega
      have hlen := HL.out.len
      have hbs := HB.out.size
      cases c : p u with
      | true =>
        have HY := Lib.hid (HYK.out c); clear HYK HTK
        have HCC : Hid (∀ w', Below w.heap.size w w' → Calls Tryz.prog K (#[.agg #[.int .i64 u.X0, .int .i64 u.Y0, .int .i64 u.X1, .int .i64 u.Y1]] ++ caps) w' (BlIs true w')) := Lib.hid (fun w' hb => by have := HC2.out w' hb; rw [c] at this; exact this)
        clear c HC2
        go_wp2_with (go_at_fn K; refine (HCC.out _ (by (repeat' first | exact Below.refl _ _ | assumption | (apply below_drewN) | (refine Below.setCell ?_ (by (try simp); (try omega)) _) | (refine Below.alloc ?_ (by (try simp); (try omega)) _) | (refine Below.trans ?_ (Below.mono (Hid.out (by assumption)) (by (try simp); (try omega))))))).mono ?_; rintro e w1 ⟨rfl, hb⟩; have HBl := Lib.hid hb; clear hb)
        go_ret
        exact ⟨_, rfl, HY.out, by (repeat' first | exact Below.refl _ _ | assumption | (apply below_drewN) | (refine Below.setCell ?_ (by (try simp); (try omega)) _) | (refine Below.alloc ?_ (by (try simp); (try omega)) _) | (refine Below.trans ?_ (Below.mono (Hid.out (by assumption)) (by (try simp); (try omega)))))⟩
      | false =>
        have HN := Lib.hid (HTK.out c); clear HYK HTK
        have HCC : Hid (∀ w', Below w.heap.size w w' → Calls Tryz.prog K (#[.agg #[.int .i64 u.X0, .int .i64 u.Y0, .int .i64 u.X1, .int .i64 u.Y1]] ++ caps) w' (BlIs false w')) := Lib.hid (fun w' hb => by have := HC2.out w' hb; rw [c] at this; exact this)
        clear c HC2
        go_wp2_with (go_at_fn K; refine (HCC.out _ (by (repeat' first | exact Below.refl _ _ | assumption | (apply below_drewN) | (refine Below.setCell ?_ (by (try simp); (try omega)) _) | (refine Below.alloc ?_ (by (try simp); (try omega)) _) | (refine Below.trans ?_ (Below.mono (Hid.out (by assumption)) (by (try simp); (try omega))))))).mono ?_; rintro e w1 ⟨rfl, hb⟩; have HBl := Lib.hid hb; clear hb)
        go_roundw
        case rel => exact ⟨k + 1, by omega, by go_num, Lib.hid (by (repeat' first | exact Below.refl _ _ | assumption | (apply below_drewN) | (refine Below.setCell ?_ (by (try simp); (try omega)) _) | (refine Below.alloc ?_ (by (try simp); (try omega)) _) | (refine Below.trans ?_ (Below.mono (Hid.out (by assumption)) (by (try simp); (try omega)))))), HN.out⟩
        case measure => simp [intOf]; omega
    · obtain rfl : k = l.length := by omega
      have HY : Hid (0 ≤ (-1 : Int) ↔ ∃ x ∈ l, p x = true) := Lib.hid ⟨fun h => absurd h (by decide), fun ⟨r, hr, h⟩ => by
        obtain ⟨j, hj, rfl⟩ := List.mem_iff_getElem.1 hr
        rw [HT.out j hj hj] at h; cases h⟩
      go_wp2
      go_ret
      exact ⟨_, rfl, HY.out, HB.out⟩
theorem rcf_any (K : Nat) (eg : ∀ args w, (callFunc K args).run Tryz.prog w = .ok (.enter K args) w) (caps : Array Value) (p : Rc → Bool) (A : Option Addr) (cap : Nat) (l : List Rc) (w : World) (hl : RIn w A cap l)
  (hc : ∀ j (h : j < l.length) w', Below w.heap.size w w' → Calls Tryz.prog K (#[.agg #[.int .i64 l[j].X0, .int .i64 l[j].Y0, .int .i64 l[j].X1, .int .i64 l[j].Y1]] ++ caps) w' (BlIs (p l[j]) w')) :
  Calls Tryz.prog 67 #[.slice A l.length cap, .func (.func K) #[] caps] w (BlIs (l.any p) w) := by
 have HI := Lib.hid (rif_any K eg caps p A cap l w hl hc)
 clear hl hc
 go_enter Tryz.func67, Tryz.ntmps67
 go_wp2_with fail
 refine HI.out.mono ?_
 rintro e w1 ⟨i, rfl, hi, hb⟩
 have HB1 := Lib.hid hb
 have HE : Hid (l.any p = decide (0 ≤ i)) := Lib.hid (by rw [Bool.eq_iff_iff, List.any_eq_true, decide_eq_true_iff]; exact hi.symm)
 clear hi hb HI
 go_wp2_with fail
 go_ret
 exact ⟨by rw [HE.out]; rfl, HB1.out⟩
set_option maxHeartbeats 8000000 in
theorem lif_any (K : Nat) (eg : ∀ args w, (callFunc K args).run Tryz.prog w = .ok (.enter K args) w) (caps : Array Value) (p : Lt → Bool) (A : Option Addr) (cap : Nat) (l : List Lt) (w : World) (hl : LtIn w A cap l)
    (hc : ∀ j (h : j < l.length) w', Below w.heap.size w w' → ∀ q, LtI w' l[j] q → Calls Tryz.prog K (#[lvl l[j] q] ++ caps) w' (BlIs (p l[j]) w')) :
    Calls Tryz.prog 136 #[.slice A l.length cap, .func (.func K) #[] caps] w (IxIs l p w) := by
  have HL := Lib.hid hl; clear hl
  have HC := Lib.hid hc; clear hc
  have HB0 := Lib.hid (Below.refl w.heap.size w)
  go_enter Tryz.func136, Tryz.ntmps136
  go_wp2
  go_loopw [8] (fun i wr => ∃ (k : Nat), k ≤ l.length ∧ i = .int .i64 k ∧ Hid (Below w.heap.size w wr) ∧ ∀ j (h : j < l.length), j < k → p l[j] = false) (fun i _ => l.length - (intOf i).toNat)
  case atStart => exact ⟨0, Nat.zero_le _, rfl, HB0, fun j h hj => absurd hj (Nat.not_lt_zero _)⟩
  case round =>
    clear HB0
    obtain ⟨k, hk, rfl, HB, ht⟩ := hrel
    have HT := Lib.hid ht; clear ht
    by_cases hlt : k < l.length
    · obtain ⟨ba, oa, q, rfl, hba, ⟨x0, x1, x2, x3⟩, hq⟩ := HL.out.at_ hlt
      have wc := fun o => HB.out.cell (p := ⟨ba, o, none⟩) hba
      have x0 := (wc _).trans x0; have x1 := (wc _).trans x1; have x2 := (wc _).trans x2; have x3 := (wc _).trans x3
      clear wc
      have HQ := Lib.hid (fun w' hb => LtI.below (w' := w') hq hb); clear hq
      have HC2 := Lib.hid (HC.out k hlt)
      have hm := List.getElem_mem hlt
      have HTK := Lib.hid (fun (c : p l[k] = false) j (h : j < l.length) (hj : j < k + 1) => show p l[j] = false from by
          by_cases e : j < k
          · exact HT.out j h e
          · obtain rfl : j = k := by omega
            exact c)
      generalize l[k] = u at *
      have HYK := Lib.hid (fun c : p u = true => (⟨fun _ => ⟨u, hm, c⟩, fun _ => by omega⟩ : 0 ≤ (k : Int) ↔ ∃ x ∈ l, p x = true)); clear hm
      have i0 : (0 : Int) ≤ (k : Int) := by omega
      have i1 : (k : Int) < (l.length : Int) := by omega
      have hlen := HL.out.len
      have hbs := HB.out.size
      cases c : p u with
      | true =>
        have HY := Lib.hid (HYK.out c); clear HYK HTK
        have HCC : Hid (∀ w', Below w.heap.size w w' → Calls Tryz.prog K (#[.agg #[.int .i64 u.id, .int .i64 u.ow, .slice q.A u.ar.length q.c, .slice q.B u.fr.length q.d]] ++ caps) w' (BlIs true w')) := Lib.hid (fun w' hb => by have := HC2.out w' hb q (HQ.out w' hb); rw [c] at this; exact this)
        clear c HC2
        go_wp2_with (go_at_fn K; refine (HCC.out _ (by (repeat' first | exact Below.refl _ _ | assumption | (apply below_drewN) | (refine Below.setCell ?_ (by (try simp); (try omega)) _) | (refine Below.alloc ?_ (by (try simp); (try omega)) _) | (refine Below.trans ?_ (Below.mono (Hid.out (by assumption)) (by (try simp); (try omega))))))).mono ?_; rintro e w1 ⟨rfl, hb⟩; have HBl := Lib.hid hb; clear hb)
        go_ret
        exact ⟨_, rfl, HY.out, by (repeat' first | exact Below.refl _ _ | assumption | (apply below_drewN) | (refine Below.setCell ?_ (by (try simp); (try omega)) _) | (refine Below.alloc ?_ (by (try simp); (try omega)) _) | (refine Below.trans ?_ (Below.mono (Hid.out (by assumption)) (by (try simp); (try omega)))))⟩
      | false =>
        have HN := Lib.hid (HTK.out c); clear HYK HTK
        have HCC : Hid (∀ w', Below w.heap.size w w' → Calls Tryz.prog K (#[.agg #[.int .i64 u.id, .int .i64 u.ow, .slice q.A u.ar.length q.c, .slice q.B u.fr.length q.d]] ++ caps) w' (BlIs false w')) := Lib.hid (fun w' hb => by have := HC2.out w' hb q (HQ.out w' hb); rw [c] at this; exact this)
        clear c HC2
        go_wp2_with (go_at_fn K; refine (HCC.out _ (by (repeat' first | exact Below.refl _ _ | assumption | (apply below_drewN) | (refine Below.setCell ?_ (by (try simp); (try omega)) _) | (refine Below.alloc ?_ (by (try simp); (try omega)) _) | (refine Below.trans ?_ (Below.mono (Hid.out (by assumption)) (by (try simp); (try omega))))))).mono ?_; rintro e w1 ⟨rfl, hb⟩; have HBl := Lib.hid hb; clear hb)
        go_roundw
        case rel => exact ⟨k + 1, by omega, by go_num, Lib.hid (by (repeat' first | exact Below.refl _ _ | assumption | (apply below_drewN) | (refine Below.setCell ?_ (by (try simp); (try omega)) _) | (refine Below.alloc ?_ (by (try simp); (try omega)) _) | (refine Below.trans ?_ (Below.mono (Hid.out (by assumption)) (by (try simp); (try omega)))))), HN.out⟩
        case measure => simp [intOf]; omega
    · obtain rfl : k = l.length := by omega
      have HY : Hid (0 ≤ (-1 : Int) ↔ ∃ x ∈ l, p x = true) := Lib.hid ⟨fun h => absurd h (by decide), fun ⟨r, hr, h⟩ => by
        obtain ⟨j, hj, rfl⟩ := List.mem_iff_getElem.1 hr
        rw [HT.out j hj hj] at h; cases h⟩
      go_wp2
      go_ret
      exact ⟨_, rfl, HY.out, HB.out⟩
theorem lcf_any (K : Nat) (eg : ∀ args w, (callFunc K args).run Tryz.prog w = .ok (.enter K args) w) (caps : Array Value) (p : Lt → Bool) (A : Option Addr) (cap : Nat) (l : List Lt) (w : World) (hl : LtIn w A cap l)
  (hc : ∀ j (h : j < l.length) w', Below w.heap.size w w' → ∀ q, LtI w' l[j] q → Calls Tryz.prog K (#[lvl l[j] q] ++ caps) w' (BlIs (p l[j]) w')) :
  Calls Tryz.prog 82 #[.slice A l.length cap, .func (.func K) #[] caps] w (BlIs (l.any p) w) := by
 have HI := Lib.hid (lif_any K eg caps p A cap l w hl hc)
 clear hl hc
 go_enter Tryz.func82, Tryz.ntmps82
 go_wp2_with fail
 refine HI.out.mono ?_
 rintro e w1 ⟨i, rfl, hi, hb⟩
 have HB1 := Lib.hid hb
 have HE : Hid (l.any p = decide (0 ≤ i)) := Lib.hid (by rw [Bool.eq_iff_iff, List.any_eq_true, decide_eq_true_iff]; exact hi.symm)
 clear hi hb HI
 go_wp2_with fail
 go_ret
 exact ⟨by rw [HE.out]; rfl, HB1.out⟩
end Go.Proofs.YtngddecpfhlilaaGreat
