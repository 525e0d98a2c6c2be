/-
  Contracts of layer 13 (5): ascending: slices.Values, AppendSeq, Collect, Sorted, Compact over ints.
  Contracts of the program's layer 7 (10): the comparisons of changes and of sides, and the library's sorts of both.
  Plain mathematics of RegionShifts: a form that is moved is a form.
-/
import Derived.Test.YtngddecpfhlilaaGreatC18
import Derived.Test.YtngddecpfhlilaaGreatC13
import Derived.RangeFuncNested
import Derived.RangeFuncBound
import Derived.RangeFuncCalls
import Derived.RangeFuncLeaves
import Derived.RangeFuncBox
import Derived.Shelf.Abstract
import Derived.Shelf.RegionOpen
import Derived.WalkKit
import Derived.OwnWalkIn
import Derived.TacticsInMore
import Derived.LoopNIn
import Derived.LoopIn
import Derived.Maps.AppendAt
import Derived.Test.YtngddecpfhlilaaGreatC14
import Derived.Test.YtngddecpfhlilaaGreatC09
import Derived.Test.YtngddecpfhlilaaGreatWs
import Derived.Test.YtngddecpfhlilaaGreatC16
import Derived.Test.YtngddecpfhlilaaGreatC00
set_option linter.unusedVariables false
set_option maxRecDepth 100000
namespace Go.Proofs.YtngddecpfhlilaaGreat
open Go.RowKit Go.Shelf
attribute [local go_sem] Oper.semAt_some
theorem NIn.place {w : World} {A : Option Addr} {cap : Nat} {l : List Int} (h : NIn w A cap l) : ∃ b off, (0 < l.length → A = some ⟨b, off, none⟩ ∧ b < w.heap.size) ∧ ∀ j (h : j < l.length), w.cell? ⟨b, off + j, none⟩ = some (.int .i64 l[j]) := by
 rcases Nat.eq_zero_or_pos l.length with h0 | h0
 ·exact ⟨0, 0, fun h => by omega, fun j hj => by omega⟩
 ·obtain ⟨b, off, e, hb, hc⟩ := h.row h0
  exact ⟨b, off, fun _ => ⟨e, hb⟩, hc⟩
set_option maxHeartbeats 4000000 in
theorem vals1_in (F : Fence) (n : Nat) (hf : F.fn 160) (hro : F.round = none) (hn : 1 ≤ n) (l Bs n₀ b off cap : Nat) (A : Option Addr) (zs : List Int) (hz : zs.length ≤ 1099511627776) (hA : 0 < zs.length → A = some ⟨b, off, none⟩ ∧ b < n₀) (J Jx : List Int → World → Prop)
  (hY : ∀ pre x W, J pre W → pre.length < zs.length → YieldAt F (n - 1) Tryz.prog l #[.int .i64 x] W fun e W' =>
   (e = .returned (.bool true) ∧ J (pre ++ [x]) W' ∧ Below n₀ W W') ∨ (e = .returned (.bool false) ∧ Jx (pre ++ [x]) W'))
  (W : World) (hBs : W.cell? ⟨Bs, 0, none⟩ = some (.slice A zs.length cap)) (hBn : Bs < n₀)
  (hc : ∀ j (h : j < zs.length), W.cell? ⟨b, off + j, none⟩ = some (.int .i64 zs[j])) (h0 : J [] W) :
  CallsIn F n Tryz.prog 160 #[.func (.yield l) #[] #[], .pointer (some ⟨Bs, 0, none⟩)] W fun e W' => (∃ v, e = .returned v) ∧
   ((∃ ys, ys = zs ∧ J ys W') ∨ (∃ pre, (∃ r, r ≤ zs.length ∧ pre = zs.take r) ∧ Jx pre W')) := by
 refine callsIn_of_wp Tryz.func160 rfl hf ?_ hro
 simp only [Tryz.ntmps160, List.size_toArray, List.length_cons, List.length_nil, Nat.reduceAdd, Nat.reduceSub, Array.replicate_succ, Array.replicate_zero, List.push_toArray, List.append_toArray, List.nil_append, List.cons_append]
 gi_wp2
 gi_loopw [7] (fun i wr => ∃ r : Nat, r ≤ zs.length ∧ i = .int .i64 r ∧ J (zs.take r) wr ∧ Below n₀ W wr)
  (fun i _ => zs.length - (intOf i).toNat)
 case atStart => exact ⟨0, Nat.zero_le _, rfl, h0, Below.refl _ _⟩
 case round =>
  obtain ⟨r, hr, rfl, hJs, hnx⟩ := hrel
  by_cases hlt : r < zs.length
  ·obtain ⟨rfl, hb⟩ := hA (by omega)
   have x0 := (hnx.cell (p := ⟨b, off + r, none⟩) hb).trans (hc r hlt)
   have n0 : (0 : Int) ≤ (r : Int) := by omega
   have n1 : (r : Int) < (zs.length : Int) := by omega
   obtain ⟨fn, tmps, assign, body, hy, hR⟩ := hY (zs.take r) zs[r] wr hJs (by rw [List.length_take]; omega)
   have HNX := Lib.hid (List.take_append_getElem hlt)
   gi_wp2
   refine hR.mono ?_
   rintro e W3 (⟨rfl, hJ3, hk3⟩ | ⟨rfl, hJx3⟩)
   ·gi_wp2
    go_roundw
    case rel => exact ⟨r + 1, by omega, by first | rfl | simp, by rw [← HNX.out]; exact hJ3, hnx.trans hk3⟩
    case measure => simp [intOf]; omega
   ·gi_wp2
    refine bodyPost_ret (results_none rfl _ _ _) rfl ?_
    exact ⟨⟨_, rfl⟩, .inr ⟨_, ⟨r + 1, by omega, rfl⟩, by rw [← HNX.out]; exact hJx3⟩⟩
  ·obtain rfl : r = zs.length := by omega
   gi_wp2
   go_end0
   exact ⟨⟨_, rfl⟩, .inl ⟨_, List.take_length, hJs⟩⟩
set_option maxHeartbeats 1000000 in
theorem vals_in (F : Fence) (n : Nat) (h5 : F.fn 114) (hro : F.round = none) (a : Option Addr) (len cap : Nat) (w : World) :
  CallsIn F n Tryz.prog 114 #[.slice a len cap] w fun e w' => e = .returned (.func (.func 160) #[] #[.pointer (some ⟨w.heap.size, 0, none⟩)]) ∧ w' = w.alloc (.cells #[.slice a len cap] 31) := by
 refine callsIn_of_wp Tryz.func114 rfl h5 ?_ hro
 simp only [Tryz.ntmps114, List.size_toArray, List.length_cons, List.length_nil, Nat.reduceAdd, Nat.reduceSub, Array.replicate_succ, Array.replicate_zero, List.push_toArray, List.append_toArray, List.nil_append, List.cons_append]
 gi_wp2
 go_ret
 exact ⟨rfl, rfl⟩
theorem vals_stops (F : Fence) (n : Nat) (hf : F.fn 160) (hro : F.round = none) (hn : 1 ≤ n) (Bs n₀ : Nat) (A : Option Addr) (cap : Nat) (zs : List Int) (w : World) (hBs : Bs < n₀) (hn₀ : n₀ = w.heap.size)
  (hc : w.cell? ⟨Bs, 0, none⟩ = some (.slice A zs.length cap)) (hI : NIn w A cap zs) :
  SeqStopsK F n Tryz.prog 160 #[.pointer (some ⟨Bs, 0, none⟩)] (fun x : Int => #[Value.int .i64 x]) (Below n₀) (fun ys => ys = zs) (fun pre => ∃ r, r ≤ zs.length ∧ pre = zs.take r) zs.length w := fun l J Jx W hW _ _ hY h0 => by
 subst hn₀
 have hc' := (hW.cell (p := ⟨Bs, 0, none⟩) hBs).trans hc
 obtain ⟨b, off, hA, hcs⟩ := hI.place
 have hcs' : ∀ j (h : j < zs.length), W.cell? ⟨b, off + j, none⟩ = some (.int .i64 zs[j]) := fun j hj => (hW.cell (p := ⟨b, off + j, none⟩) (hA (by omega)).2).trans (hcs j hj)
 refine (vals1_in F n hf hro hn l Bs w.heap.size b off cap A zs hI.len hA J Jx hY W hc' hBs hcs' h0).mono ?_
 rintro e W' ⟨he, h⟩
 exact ⟨he, h⟩
set_option maxHeartbeats 4000000 in
theorem aseq_in (A : Option Addr) (cap : Nat) (zs : List Int) (Bs : Nat) (w : World) (hI : NIn w A cap zs) (hBs : Bs < w.heap.size) (hcB : w.cell? ⟨Bs, 0, none⟩ = some (.slice A zs.length cap)) :
  CallsIn Fence.wide 6 Tryz.prog 185 #[.slice none 0 0, .func (.func 160) #[] #[.pointer (some ⟨Bs, 0, none⟩)]] w fun e W' => ∃ v, e = .returned v ∧ W'.ownsRow w.heap.size 3 1 v zs.length (icells zs) ∧ Below w.heap.size w W' := by
 have h1 : 1 ≤ 6 := by omega
 have hlen := hI.len
 obtain ⟨i0, hi, hz0, hz1, hz2⟩ := info_parts infoInt
 refine callsIn_of_wp_marks Tryz.func185 rfl trivial ?_ rfl
 simp only [Tryz.ntmps185, List.size_toArray, List.length_cons, List.length_nil, Nat.reduceAdd, Nat.reduceSub, Array.replicate_succ, Array.replicate_zero, List.push_toArray, List.append_toArray, List.nil_append, List.cons_append]
 gi_wp2
 have bO := Boxed.new w 31 (.slice none 0 0)
 have hB0 : Below w.heap.size w (w.alloc (.cells #[.slice none 0 0] 31)) := (Below.refl _ w).alloc (Nat.le_refl _) _
 refine wpIn_rangeFunc_ownG (F := Fence.wide) rfl h1 (gf := 160) (lb := #[.pointer (some ⟨Bs, 0, none⟩)]) rfl trivial (enters_of Tryz.func160 (by kernel_rfl) rfl)
  (vals_stops Fence.wide (6 - 1) trivial rfl (by omega) Bs w.heap.size A cap zs w hBs rfl hcB hI) belowK_t (belowK_b (by simp)) hB0 (fun _ => rfl)
  (fun pre W => (∃ v, Boxed W w.heap.size 31 v ∧ W.ownsRow w.heap.size 3 1 v pre.length (pre.map (Value.int .i64)) ∧ (v = v)) ∧ Below w.heap.size w W)
  (fun _ _ _ => False)
  (OwnFrom.and (Own.from (holdsRow_own w.heap.size w.heap.size 31 3 1 (fun pre : List Int => pre.length) (fun pre => pre.map (Value.int .i64)) (fun pre v => v = v)) _) (ownFrom_below (Nat.le_refl _) (by simp)))
  (fun _ _ _ _ _ hs _ _ => hs)
  ⟨⟨_, bO, World.ownsRow_nil _ _ _ _, rfl⟩, hB0⟩
  (fun x => { tmps := #[.slice none 0 0, .func (.func 160) #[] #[.pointer (some ⟨Bs, 0, none⟩)], .pointer (some ⟨w.heap.size, 0, none⟩), undef, .slice none 0 0, .int .i64 x, .func (.func 160) #[] #[.pointer (some ⟨Bs, 0, none⟩)], .int .i64 x, undef, undef, undef, undef, undef], defers := [] }) ?assign ?body ?done ?stop
 case assign =>
  intro l x W K hK
  gi_wp2
  exact hK
 case body =>
  rintro l pre x W ⟨⟨v, hv, hrow, hnil⟩, hB⟩ hlt
  have hc := hv.cell
  gi_wp2_with (gi_at_builtin; refine wpListIn_append_own _ rfl _ _ 31 rfl w.heap.size 3 i0 (.int .i64 0) 1 8 (by kernel_rfl) hi hz0 hz1 hz2 rfl (by decide) _ _ _ rfl (hrow.alloc _) ⟨W.heap.size, 0, none⟩ 1 1 [.int .i64 x] rfl rfl (cell_one_new _ _ _) (by simp [Value.oneCell']) (by unfold maxLen; omega) (by omega) (by have := hB.size; simp; omega) ?_; intro v' w1 hown' hgrow _; obtain ⟨g', cap', rfl⟩ := ownsRow_succ hown'; obtain ⟨hv1, hv2, hr2, hk2, hb2⟩ := hv.appended (by decide) hrow hB.size (Nat.le_refl _) hown' hgrow; have hc1 := hv1.cell; have hf1 := hv1.frozen)
  refine ⟨hk2.from _, hb2, ⟨_, hv2, ?_⟩, hB.trans hb2⟩
  rw [show (pre ++ [x]).length = pre.length + 1 by simp, List.map_append]
  exact hr2
 case done =>
  rintro D ys W hD rfl ⟨⟨v, hv, hrow, hnil⟩, hB⟩ hK
  have hc := hv.cell
  gi_wp2
  refine ⟨by simp, .inl ⟨_, _, rfl, run_takeDeferred hK, ?_⟩⟩
  exact ⟨_, results_tmp rfl _ _ _, v, rfl, ownsRow_putObj hrow _ hK rfl, hB.trans (belowK_b (w := w) (Nat.le_refl _) W D _ _ (by simp at hD; omega) hK rfl rfl)⟩
 case stop =>
  rintro D c pre W _ _ h _
  exact h.elim
set_option maxHeartbeats 4000000 in
theorem coll_any (A : Option Addr) (cap : Nat) (zs : List Int) (Bs : Nat) (w : World) (hI : NIn w A cap zs) (hBs : Bs < w.heap.size) (hcB : w.cell? ⟨Bs, 0, none⟩ = some (.slice A zs.length cap)) :
  Calls Tryz.prog 159 #[.func (.func 160) #[] #[.pointer (some ⟨Bs, 0, none⟩)]] w fun e W' => ∃ v, e = .returned v ∧ W'.ownsRow w.heap.size 3 1 v zs.length (icells zs) ∧ Below w.heap.size w W' := by
 have HA : Hid (Calls Tryz.prog 185 #[.slice none 0 0, .func (.func 160) #[] #[.pointer (some ⟨Bs, 0, none⟩)]] w fun e W' => ∃ v, e = .returned v ∧ W'.ownsRow w.heap.size 3 1 v zs.length (icells zs) ∧ Below w.heap.size w W') := Lib.hid ((callsIn_wide (n := 6)).1 (aseq_in A cap zs Bs w hI hBs hcB))
 clear hI hBs hcB
 go_enter Tryz.func159, Tryz.ntmps159
 go_wp2_with fail
 refine HA.out.mono ?_
 rintro e w1 ⟨v, rfl, ho, hb⟩
 have HO := Lib.hid ho; have HB := Lib.hid hb; clear ho hb HA
 go_wp2_with fail
 go_ret
 exact ⟨v, rfl, HO.out, HB.out⟩
def SrtR (l : List Int) (w : World) (e : Ending) (w' : World) : Prop := ∃ (A : Option Addr) (cap : Nat) (S : List Int), e = .returned (.slice A S.length cap) ∧ S.Perm l ∧ SrtN S ∧ S.length ≤ cap ∧ cap ≤ 9223372036854775807 ∧ (0 < S.length → ∃ g, A = some ⟨g, 0, none⟩ ∧ w.heap.size ≤ g ∧ g < w'.heap.size ∧ Go.Sort.Holds (Value.int .i64) w' g 0 S.toArray) ∧ Below w.heap.size w w'
theorem own_parts13 {w : World} {B : Nat} {v : Value} {l : List Int} (h : w.ownsRow B 3 1 v l.length (icells l)) : ∃ A cap, v = .slice A l.length cap ∧ l.length ≤ cap ∧ cap ≤ 9223372036854775807 ∧ (0 < l.length → ∃ g, A = some ⟨g, 0, none⟩ ∧ B ≤ g ∧ g < w.heap.size) := by
 have hlt := h.lt
 obtain ⟨h1, h2⟩ := h
 rcases h2 with ⟨rfl, h3⟩ | ⟨g, cap, cur, rfl, hB, hg, h4⟩
 ·exact ⟨none, 0, by rw [h3], by omega, by omega, fun h => by omega⟩
 ·exact ⟨_, cap, rfl, h4.1, by have := h4.2.1; unfold maxLen at this; omega, fun _ => ⟨g, rfl, hB, (hlt g rfl).2⟩⟩
set_option maxHeartbeats 4000000 in
theorem sorted_any (A : Option Addr) (cap : Nat) (zs : List Int) (Bs : Nat) (w : World) (hI : NIn w A cap zs) (hBs : Bs < w.heap.size) (hcB : w.cell? ⟨Bs, 0, none⟩ = some (.slice A zs.length cap)) :
  Calls Tryz.prog 113 #[.func (.func 160) #[] #[.pointer (some ⟨Bs, 0, none⟩)]] w (SrtR zs w) := by
 have HA := Lib.hid (coll_any A cap zs Bs w hI hBs hcB)
 have hlen := hI.len
 clear hI hBs hcB
 go_enter Tryz.func113, Tryz.ntmps113
 go_wp2_with fail
 refine HA.out.mono ?_
 rintro e w1 ⟨v, rfl, ho, hb⟩
 have HB := Lib.hid hb; clear hb HA
 obtain ⟨A2, c2, rfl, hc1, hc2, hg⟩ := own_parts13 ho
 rcases Nat.eq_zero_or_pos zs.length with h0 | h0
 ·have hz : zs = [] := List.eq_nil_of_length_eq_zero h0
  subst hz
  have HS := Lib.hid (fun w' => gsort_none A2 c2 w')
  clear ho hg h0
  simp only [List.length_nil] at *
  go_wp2_with (go_at_call 118; refine (HS.out _).mono ?_; rintro e w2 ⟨rfl, rfl⟩)
  go_ret
  exact ⟨A2, c2, [], rfl, List.Perm.refl _, (fun i j hi => absurd hi (by simp)), by simp, hc2, fun h => absurd h (by simp), by (repeat' first | exact Below.refl _ _ | assumption | (apply below_drewN) | (refine Below.setCell ?_ (by (try simp); (try omega)) _) | (refine Below.alloc ?_ (by (try simp); (try omega)) _) | (refine Below.trans ?_ (Below.mono (Hid.out (by assumption)) (by (try simp); (try omega)))))⟩
 ·obtain ⟨g, rfl, hB, hgl⟩ := hg h0
  have HS := Lib.hid (gsort_holds w.heap.size g c2 zs w1 ho hlen)
  clear ho hg
  have hbs := HB.out.size
  go_wp2_with fail
  refine HS.out.mono ?_
  rintro e w2 ⟨rfl, S, hp, hs, hh, hgr⟩
  have HF : Hid (SrtR zs w (.returned (.slice (some ⟨g, 0, none⟩) zs.length c2)) w2) := Lib.hid ⟨_, c2, S, by rw [hp.length_eq], hp, hs, by rw [hp.length_eq]; exact hc1, hc2, fun _ => ⟨g, rfl, hB, Nat.lt_of_lt_of_le hgl hgr.size, hh⟩, HB.out.grown hgr hbs (fun k e => by cases e; exact hB)⟩
  clear hh hgr hs hp HS
  go_wp2_with fail
  go_ret
  obtain ⟨A3, c3, S3, e3, r3⟩ := HF.out
  exact ⟨A3, c3, S3, e3, r3.1, r3.2.1, r3.2.2.1, r3.2.2.2.1, r3.2.2.2.2.1, r3.2.2.2.2.2.trans (by (repeat' first | exact Below.refl _ _ | assumption | (apply below_drewN) | (refine Below.setCell ?_ (by (try simp); (try omega)) _) | (refine Below.alloc ?_ (by (try simp); (try omega)) _) | (refine Below.trans ?_ (Below.mono (Hid.out (by assumption)) (by (try simp); (try omega))))))⟩
def AscR (l : List Int) (w : World) (e : Ending) (w' : World) : Prop := ∃ A c, e = .returned (.slice A (sortS l).length c) ∧ NIn w' A c (sortS l) ∧ (0 < (sortS l).length → ∃ g, A = some ⟨g, 0, none⟩ ∧ w.heap.size ≤ g) ∧ Below w.heap.size w w'
set_option maxHeartbeats 4000000 in
theorem asc_any (A : Option Addr) (cap : Nat) (l : List Int) (w : World) (h : NIn w A cap l) : Calls Tryz.prog 58 #[.slice A l.length cap] w (AscR l w) := by
 have hlen := h.len
 have HV : Hid (∀ w', Calls Tryz.prog 114 #[.slice A l.length cap] w' fun e w2 => e = .returned (.func (.func 160) #[] #[.pointer (some ⟨w'.heap.size, 0, none⟩)]) ∧ w2 = w'.alloc (.cells #[.slice A l.length cap] 31)) := Lib.hid (fun w' => (callsIn_wide (n := 6)).1 (vals_in Fence.wide 6 trivial rfl A l.length cap w'))
 have HS := Lib.hid (fun w' (hb : Below w.heap.size w w') => sorted_any A cap l w'.heap.size (w'.alloc (.cells #[.slice A l.length cap] 31)) ((h.below hb).below ((Below.refl _ _).alloc (Nat.le_refl _) _)) (by simp) (by rw [Lib.cell_of_heap (heap_alloc_new _ _)]; rfl))
 clear h
 go_enter Tryz.func58, Tryz.ntmps58
 go_wp2_with fail
 refine (HV.out _).mono ?_
 rintro e w1 ⟨rfl, rfl⟩
 go_wp2_with fail
 refine (HS.out _ (by (repeat' first | exact Below.refl _ _ | assumption | (apply below_drewN) | (refine Below.setCell ?_ (by (try simp); (try omega)) _) | (refine Below.alloc ?_ (by (try simp); (try omega)) _) | (refine Below.trans ?_ (Below.mono (Hid.out (by assumption)) (by (try simp); (try omega))))))).mono ?_
 rintro e w2 ⟨A2, c2, S, rfl, hp, hs, hc1, hc2, hg, hb⟩
 have hci := compact_is hs
 have HE : Hid (Lib.compact S = sortS l) := Lib.hid (asc_eq hci.1 (sortS_is l).1 (fun z => by rw [hci.2.1, (sortS_is l).2, hp.mem_iff]))
 have HAS : Hid (Below w.heap.size w w2) := Lib.hid (((Below.refl w.heap.size w).alloc (Nat.le_refl _) _).trans (hb.mono (by simp)))
 rcases Nat.eq_zero_or_pos S.length with h0 | h0
 ·have hz : S = [] := List.eq_nil_of_length_eq_zero h0
  subst hz
  have HC := Lib.hid (fun w' => ycompact_none A2 c2 w')
  have hl0 : sortS l = [] := by rw [← HE.out]; rfl
  clear hg hb hci hs hp h0
  simp only [List.length_nil] at *
  go_wp2_with (go_at_call 112; refine (HC.out _).mono ?_; rintro e w3 ⟨rfl, rfl⟩)
  go_ret
  exact ⟨A2, c2, by rw [hl0]; rfl, by rw [hl0]; exact ⟨IRow.nil _ _, by simp, by simp, hc2⟩, fun h => absurd h (by rw [hl0]; simp), HAS.out⟩
 ·obtain ⟨g, rfl, hB, hgl, hh⟩ := hg h0
  have hlS : S.length ≤ 1099511627776 := by rw [hp.length_eq]; exact hlen
  have HC := Lib.hid (ycompact_any g c2 S w2 hh hgl hs hlS hc1)
  have hcl := hci.2.2
  clear hh hci hb hg hs hp
  go_wp2_with fail
  refine HC.out.mono ?_
  rintro e w3 ⟨rfl, hcells, hgr⟩
  rw [HE.out] at hcells hcl
  have HF : Hid (AscR l w (.returned (.slice (some ⟨g, 0, none⟩) (sortS l).length c2)) w3) := Lib.hid ⟨_, c2, rfl, ⟨fun _ => ⟨g, 0, rfl, Nat.lt_of_lt_of_le hgl hgr.size, fun j hj => by rw [Nat.zero_add]; exact hcells j hj⟩, by omega, by omega, hc2⟩, fun _ => ⟨g, rfl, by simp at hB; omega⟩, HAS.out.grown hgr HAS.out.size (fun k e => by cases e; simp at hB; omega)⟩
  rw [HE.out]
  clear hcells hgr HC
  go_wp2_with fail
  go_ret
  obtain ⟨A3, c3, e3, h3, h5, h4⟩ := HF.out
  exact ⟨A3, c3, e3, h3.below (by (repeat' first | exact Below.refl _ _ | assumption | (apply below_drewN) | (refine Below.setCell ?_ (by (try simp); (try omega)) _) | (refine Below.alloc ?_ (by (try simp); (try omega)) _) | (refine Below.trans ?_ (Below.mono (Hid.out (by assumption)) (by (try simp); (try omega)))))), h5, h4.trans (by (repeat' first | exact Below.refl _ _ | assumption | (apply below_drewN) | (refine Below.setCell ?_ (by (try simp); (try omega)) _) | (refine Below.alloc ?_ (by (try simp); (try omega)) _) | (refine Below.trans ?_ (Below.mono (Hid.out (by assumption)) (by (try simp); (try omega))))))⟩
end Go.Proofs.YtngddecpfhlilaaGreat
namespace Go.Proofs.YtngddecpfhlilaaGreat
open Go.RowKit Go.Shelf Go.Lib Go.Sort
structure Ch where
 line : Int
 at_ : Int
 by_ : Int
instance : Inhabited Ch := ⟨⟨0, 0, 0⟩⟩
instance : Inhabited Rc := ⟨⟨0, 0, 0, 0⟩⟩
def Ch.key (x : Ch) : Pt := ⟨x.line, x.at_⟩
theorem ltP {α : Type} (key : α → Pt) (x y : α) : ltOf (fun x y : α => cmpP (key x) (key y)) x y = decide (PLt (key x) (key y)) := by
 unfold ltOf
 by_cases h : PLt (key x) (key y)
 ·simp [h, (cmp_lt _ _).2 h]
 ·have hn : ¬ cmpP (key x) (key y) < 0 := fun k => h ((cmp_lt _ _).1 k)
  simp [h]
  omega
theorem swoP {α : Type} (key : α → Pt) : SWO (ltOf fun x y : α => cmpP (key x) (key y)) where
 irrefl x := by rw [ltP, decide_eq_false_iff_not]; unfold PLt; omega
 trans x y z h1 h2 := by rw [ltP, decide_eq_true_eq] at *; unfold PLt at *; omega
 ntrans x y z h1 h2 := by rw [ltP, decide_eq_false_iff_not] at *; unfold PLt at *; omega
theorem CmpG.trans {a b c : World} (h : CmpG a b) (k : CmpG b c) : CmpG a c := by
 obtain ⟨q, os, rfl⟩ := k
 obtain ⟨q2, os2, e⟩ := h.drewN q
 exact ⟨q2, os2 ++ os, by rw [e, Sort.grow_grow]⟩
end Go.Proofs.YtngddecpfhlilaaGreat
namespace Go.Proofs.YtngddecpfhlilaaGreat
def MvOk (dx dy : Int) (l : List Rc) : Prop := ∀ r ∈ l, ROk (mvR dx dy r)
end Go.Proofs.YtngddecpfhlilaaGreat
