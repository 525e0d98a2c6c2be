/-
  Contracts of the program's layer 9, 10: Top (a range over slices.Backward).
  Contracts of the reference of layer 6 (8): Has of a region.
-/
import Derived.Test.YtdnoadngfkiabaaGreatS935
import Derived.RangeFuncNested
import Derived.RangeFuncBound
import Derived.RangeFuncCalls
import Derived.RangeFuncLeaves
import Derived.RangeFuncBox
import Derived.Shelf.Abstract
import Derived.Shelf.RegionOpen
import Derived.WalkKit
import Derived.OwnWalkIn
import Derived.TacticsInMore
import Derived.LoopNIn
import Derived.LoopIn
import Derived.Test.YtdnoadngfkiabaaGreatS929
set_option linter.unusedVariables false
set_option maxRecDepth 100000
namespace Go.Proofs.YtdnoadngfkiabaaGreat
open Go.RowKit Go.Shelf

attribute [local go_sem] Oper.semAt_some
/-- the indices from the last one down to r. -/
def rvF (len r : Nat) : List (Fin len) := ((List.finRange len).drop r).reverse
theorem rvF_all (len : Nat) : rvF len len = [] := by unfold rvF; rw [List.drop_of_length_le (by simp)]; rfl
theorem rvF_len (len r : Nat) : (rvF len r).length = len - r := by simp [rvF]
theorem rvF_next (len m : Nat) (h : m < len) : rvF len m = rvF len (m + 1) ++ [⟨m, h⟩] := by
  unfold rvF
  rw [List.drop_eq_getElem_cons (by simp; exact h), List.reverse_cons]
  simp
theorem rvF_mem {len r : Nat} {j : Fin len} : j ∈ rvF len r ↔ r ≤ j.1 := by
  unfold rvF
  rw [List.mem_reverse, List.mem_iff_getElem]
  constructor
  · rintro ⟨i, hi, e⟩
    rw [List.getElem_drop, List.getElem_finRange] at e
    rw [← e]; simp
  · intro h
    have := j.2
    exact ⟨j.1 - r, by simp; omega, by rw [List.getElem_drop, List.getElem_finRange]; ext; simp; omega⟩
def encF (S : List Sl) (Af : Nat → Option Addr) (cf : Nat → Nat) (j : Fin S.length) : Array Value := #[.int .i64 (j.1 : Int), .agg #[.int .i64 S[j.1].z0, .int .i64 S[j.1].z1, .slice (Af j.1) S[j.1].ar.length (cf j.1)]]
set_option maxHeartbeats 4000000 in
theorem back1_in (F : Fence) (n : Nat) (hf : F.fn 79) (hro : F.round = none) (hn : 1 ≤ n) (l Bs n₀ b off cap : Nat) (Ao : Option Addr) (S : List Sl) (Af : Nat → Option Addr) (cf : Nat → Nat) (hS : S.length ≤ 80) (hA : 0 < S.length → Ao = some ⟨b, off, none⟩ ∧ b < n₀) (J Jx : List (Fin S.length) → World → Prop)
    (hY : ∀ pre x W, J pre W → pre.length < S.length → YieldAt F (n - 1) Tryz.prog l (encF S Af cf x) W fun e W' =>
      (e = .returned (.bool true) ∧ J (pre ++ [x]) W' ∧ Below n₀ W W') ∨ (e = .returned (.bool false) ∧ Jx (pre ++ [x]) W'))
    (W : World) (hBs : W.cell? ⟨Bs, 0, none⟩ = some (.slice Ao S.length cap)) (hBn : Bs < n₀)
    (hc : ∀ j (h : j < S.length), W.cell? ⟨b, off + j * 3, none⟩ = some (.int .i64 S[j].z0) ∧ W.cell? ⟨b, off + j * 3 + 1, none⟩ = some (.int .i64 S[j].z1) ∧ W.cell? ⟨b, off + j * 3 + 2, none⟩ = some (.slice (Af j) S[j].ar.length (cf j))) (h0 : J [] W) :
    CallsIn F n Tryz.prog 79 #[.func (.yield l) #[] #[], .pointer (some ⟨Bs, 0, none⟩)] W fun e W' => (∃ v, e = .returned v) ∧
      ((∃ ys, ys = rvF S.length 0 ∧ J ys W') ∨ (∃ pre, (∃ r, r ≤ S.length ∧ pre = rvF S.length r) ∧ Jx pre W')) := by
  refine callsIn_of_wp Tryz.func79 rfl hf ?_ hro
  simp only [Tryz.ntmps79, List.size_toArray, List.length_cons, List.length_nil, Nat.reduceAdd, Nat.reduceSub, Array.replicate_succ, Array.replicate_zero, List.push_toArray, List.append_toArray, List.nil_append, List.cons_append]
  have q0 : IntKind.i64.wrap ((S.length : Int) - 1) = (S.length : Int) - 1 := IntWalk.i64_in _ (by omega)
  gi_wp2
  gi_loopw [3] (fun i wr => ∃ r : Nat, r ≤ S.length ∧ i = .int .i64 ((r : Int) - 1) ∧ J (rvF S.length r) wr ∧ Below n₀ W wr)
    (fun i _ => (intOf i + 1).toNat)
  case atStart => exact ⟨S.length, Nat.le_refl _, rfl, by rw [rvF_all]; exact h0, Below.refl _ _⟩
  case round =>
    obtain ⟨r, hr, rfl, hJs, hnx⟩ := hrel
    cases r with
    | zero =>
      have c0 : ¬ (0 : Int) ≤ ((0 : Nat) : Int) - 1 := by omega
      gi_wp2
      go_end0
      exact ⟨⟨_, rfl⟩, .inl hJs⟩
    | succ m =>
      have hm : m < S.length := by omega
      obtain ⟨rfl, hb⟩ := hA (by omega)
      have e1 : (((m + 1 : Nat)) : Int) - 1 = (m : Int) := by omega
      rw [e1]
      obtain ⟨x0, x1, x2⟩ := hc m hm
      have x0 := (hnx.cell (p := ⟨b, off + m * 3, none⟩) hb).trans x0
      have x1 := (hnx.cell (p := ⟨b, off + m * 3 + 1, none⟩) hb).trans x1
      have x2 := (hnx.cell (p := ⟨b, off + m * 3 + 2, none⟩) hb).trans x2
      have xb := (hnx.cell (p := ⟨Bs, 0, none⟩) hBn).trans hBs
      have n0 : (0 : Int) ≤ (m : Int) := by omega
      have n1 : (m : Int) < (S.length : Int) := by omega
      have q1 : IntKind.i64.wrap ((m : Int) - 1) = (m : Int) - 1 := IntWalk.i64_in _ (by omega)
      obtain ⟨fn, tmps, assign, body, hy, hR⟩ := hY (rvF S.length (m + 1)) ⟨m, hm⟩ wr hJs (by rw [rvF_len]; omega)
      unfold encF at hy
      dsimp only at hy
      have HNX := Lib.hid (rvF_next S.length m hm)
      gi_wp2
      refine hR.mono ?_
      rintro e W3 (⟨rfl, hJ3, hk3⟩ | ⟨rfl, hJx3⟩)
      · gi_wp2
        go_roundw
        case rel => exact ⟨m, by omega, by first | rfl | simp, by rw [HNX.out]; exact hJ3, hnx.trans hk3⟩
        case measure => simp [intOf]
      · gi_wp2
        refine bodyPost_ret (results_none rfl _ _ _) rfl ?_
        exact ⟨⟨_, rfl⟩, .inr ⟨_, ⟨m, by omega, rfl⟩, by rw [HNX.out]; exact hJx3⟩⟩
set_option maxHeartbeats 1000000 in
theorem back_in (F : Fence) (n : Nat) (h5 : F.fn 51) (hro : F.round = none) (a : Option Addr) (len cap : Nat) (w : World) :
    CallsIn F n Tryz.prog 51 #[.slice a len cap] w fun e w' => e = .returned (.func (.func 79) #[] #[.pointer (some ⟨w.heap.size, 0, none⟩)]) ∧ w' = w.alloc (.cells #[.slice a len cap] 22) := by
  refine callsIn_of_wp Tryz.func51 rfl h5 ?_ hro
  simp only [Tryz.ntmps51, List.size_toArray, List.length_cons, List.length_nil, Nat.reduceAdd, Nat.reduceSub, Array.replicate_succ, Array.replicate_zero, List.push_toArray, List.append_toArray, List.nil_append, List.cons_append]
  gi_wp2
  go_ret
  exact ⟨rfl, rfl⟩
/-- the slabs lie at a slice, in blocks below n₀. -/
def SlF (n₀ : Nat) (W : World) (v : Value) (S : List Sl) (Af : Nat → Option Addr) (cf : Nat → Nat) : Prop :=
  ∃ b off cap Ao, v = .slice Ao S.length cap ∧ (0 < S.length → Ao = some ⟨b, off, none⟩ ∧ b < n₀) ∧ ∀ j (h : j < S.length), W.cell? ⟨b, off + j * 3, none⟩ = some (.int .i64 S[j].z0) ∧ W.cell? ⟨b, off + j * 3 + 1, none⟩ = some (.int .i64 S[j].z1) ∧ W.cell? ⟨b, off + j * 3 + 2, none⟩ = some (.slice (Af j) S[j].ar.length (cf j))
theorem SlF.below {n₀ : Nat} {A B : World} (h : Below n₀ A B) {v : Value} {S : List Sl} {Af : Nat → Option Addr} {cf : Nat → Nat} : SlF n₀ A v S Af cf → SlF n₀ B v S Af cf := by
  rintro ⟨b, off, cap, Ao, e, hA, hc⟩
  refine ⟨b, off, cap, Ao, e, hA, fun j hj => ?_⟩
  have hb := (hA (by omega)).2
  exact ⟨(h.cell (p := ⟨b, _, none⟩) hb).trans (hc j hj).1, (h.cell (p := ⟨b, _, none⟩) hb).trans (hc j hj).2.1, (h.cell (p := ⟨b, _, none⟩) hb).trans (hc j hj).2.2⟩
theorem back_stops (F : Fence) (n : Nat) (hf : F.fn 79) (hro : F.round = none) (hn : 1 ≤ n) (Bs n₀ : Nat) (sv : Value) (S : List Sl) (Af : Nat → Option Addr) (cf : Nat → Nat) (hS : S.length ≤ 80) (w : World) (hBs : Bs < n₀) (hn₀ : n₀ ≤ w.heap.size)
    (hc : w.cell? ⟨Bs, 0, none⟩ = some sv) (hI : SlF n₀ w sv S Af cf) :
    SeqStopsK F n Tryz.prog 79 #[.pointer (some ⟨Bs, 0, none⟩)] (encF S Af cf) (Below n₀) (fun ys => ys = rvF S.length 0) (fun pre => ∃ r, r ≤ S.length ∧ pre = rvF S.length r) S.length w := fun l J Jx W hW _ _ hY h0 => by
  have hc' := (hW.cell (p := ⟨Bs, 0, none⟩) (Nat.lt_of_lt_of_le hBs hn₀)).trans hc
  obtain ⟨b, off, cap, Ao, rfl, hA, hcs⟩ := hI.below (hW.mono hn₀)
  refine (back1_in F n hf hro hn l Bs n₀ b off cap Ao S Af cf hS hA J Jx hY W hc' hBs hcs h0).mono ?_
  rintro e W' ⟨he, h⟩
  exact ⟨he, h⟩
/-- the height of a solid over a cell. -/
def topS (S : List Sl) (x y : Int) : Int := S.foldl (fun t s => if hasD s.ar x y = true then s.z1 else t) 0
theorem topS_none {S : List Sl} {x y : Int} (h : ∀ s ∈ S, hasD s.ar x y = false) : topS S x y = 0 := by
  have key : ∀ (T : List Sl) (t : Int), (∀ s ∈ T, hasD s.ar x y = false) → T.foldl (fun t s => if hasD s.ar x y = true then s.z1 else t) t = t := by
    intro T
    induction T with
    | nil => intro t _; rfl
    | cons s T ih =>
      intro t hT
      rw [List.foldl_cons, hT s List.mem_cons_self]
      exact ih _ (fun u hu => hT u (List.mem_cons_of_mem _ hu))
  exact key S 0 h
theorem topS_at {S : List Sl} {x y : Int} {j : Nat} (hj : j < S.length) (h1 : hasD S[j].ar x y = true) (h2 : ∀ i (h : i < S.length), j < i → hasD S[i].ar x y = false) : topS S x y = S[j].z1 := by
  have e : S = S.take j ++ S[j] :: S.drop (j + 1) := by rw [← List.drop_eq_getElem_cons hj, List.take_append_drop]
  have key : ∀ (T : List Sl) (t : Int), (∀ s ∈ T, hasD s.ar x y = false) → T.foldl (fun t s => if hasD s.ar x y = true then s.z1 else t) t = t := by
    intro T
    induction T with
    | nil => intro t _; rfl
    | cons s T ih =>
      intro t hT
      rw [List.foldl_cons, hT s List.mem_cons_self]
      exact ih _ (fun u hu => hT u (List.mem_cons_of_mem _ hu))
  unfold topS
  conv => lhs; rw [e]
  rw [List.foldl_append, List.foldl_cons, if_pos h1]
  refine key _ _ (fun s hs => ?_)
  obtain ⟨i, hi, rfl⟩ := List.mem_iff_getElem.1 hs
  rw [List.getElem_drop]
  rw [List.length_drop] at hi
  exact h2 _ (by omega) (by omega)
theorem hasB_D (l : List Rc) (x y : Int) : hasB l x y = hasD l x y := by rw [Bool.eq_iff_iff, hasB_iff, hasD_iff]
end Go.Proofs.YtdnoadngfkiabaaGreat
namespace Go.Proofs.YtdnoadngfkiabaaGreat
open Go.RowKit

theorem hasD_next (l : List Rc) (k : Nat) (h : k < l.length) (x y : Int) : hasD (l.take (k + 1)) x y = (hasD (l.take k) x y || decide (HasR l[k] x y)) := by
  rw [List.take_succ_eq_append_getElem h]; unfold hasD; rw [List.any_append]; simp
theorem hasD_here (l : List Rc) (k : Nat) (h : k < l.length) (x y : Int) (hh : HasR l[k] x y) : hasD l x y = true := (hasD_iff l x y).2 ⟨_, List.getElem_mem h, hh⟩
set_option maxHeartbeats 16000000 in
theorem vHas_yes (A : Option Addr) (cap : Nat) (l : List Rc) (x y : Int) (w : World) (h1 : RRow w A l) (hr : RegP l) : Calls Tryz.prog 63 #[.slice A l.length cap, .int .i64 x, .int .i64 y] w (BlIs (hasD l x y) w) := by
  have hl : l.length ≤ 1099511627776 := by have := hr.2; omega
  have HOK := Lib.hid (form_ok hr.1)
  have H1 := Lib.hid h1
  have HR := Lib.hid (vRight_yes A cap l w h1 hl hr)
  clear h1 hr
  go_enter Tryz.func63, Tryz.ntmps63
  go_wp2_with fail
  refine HR.out.mono ?_
  rintro e1 w1 ⟨rfl, hb1⟩
  have K0 := Lib.hid hb1; clear hb1 HR
  go_wp2_with fail
  go_loopw [7] (fun i wr => ∃ (k : Nat), k ≤ l.length ∧ i = .int .i64 k ∧ Hid (Below w.heap.size w wr) ∧ Hid (hasD (l.take k) x y = false)) (fun i _ => l.length - (intOf i).toNat)
  case atStart => exact ⟨0, Nat.zero_le _, rfl, K0, Lib.hid rfl⟩
  case round =>
    clear K0
    obtain ⟨k, hk, rfl, HB, HT⟩ := hrel
    by_cases hlt : k < l.length
    · obtain ⟨b1, o1, rfl, hb1, hv1⟩ := H1.out (by omega)
      obtain ⟨x0, x1, x2, x3⟩ := hv1 k hlt
      have wc := fun o => HB.out.cell (p := ⟨b1, o, none⟩) hb1
      have x0 := (wc _).trans x0; have x1 := (wc _).trans x1; have x2 := (wc _).trans x2; have x3 := (wc _).trans x3
      clear hv1 wc
      have i0 : (0 : Int) ≤ (k : Int) := by omega
      have i1 : (k : Int) < (l.length : Int) := by omega
      have HUO := Lib.hid (HOK.out _ (List.getElem_mem hlt))
      have HH := Lib.hid (fun h => hasD_here l k hlt x y h)
      have HN : Hid (¬ HasR l[k] x y → hasD (l.take (k + 1)) x y = false) := Lib.hid (fun h => by rw [hasD_next l k hlt, HT.out, decide_eq_false h]; rfl)
      obtain ⟨u, hu⟩ : ∃ u, u = l[k] := ⟨_, rfl⟩
      rw [← hu] at x0 x1 x2 x3 HH HN HUO
      clear hu HT
      by_cases c0 : u.X0 ≤ x
      · have d0 : decide (u.X0 ≤ x) = true := decide_eq_true c0
        by_cases c1 : x < u.X1
        · have d1 : decide (x < u.X1) = true := decide_eq_true c1
          by_cases c2 : u.Y0 ≤ y
          · have d2 : decide (u.Y0 ≤ y) = true := decide_eq_true c2
            by_cases c3 : y < u.Y1
            · have d3 : decide (y < u.Y1) = true := decide_eq_true c3
              have FIN : Hid (BlIs (hasD l x y) w (.returned (.bool true)) wr) := Lib.hid ⟨by rw [HH.out ⟨HUO.out, c0, c1, c2, c3⟩], HB.out⟩
              clear HH HN
              go_wp2_with fail
              go_ret
              exact FIN.out
            · have d3 : decide (y < u.Y1) = false := decide_eq_false c3
              have HT2 := Lib.hid (HN.out (fun h => c3 h.2.2.2.2))
              clear HH HN
              go_wp2_with fail
              go_roundw
              case rel => exact ⟨k + 1, by omega, by go_num, HB, HT2⟩
              case measure => simp [intOf]; omega
          · have d2 : decide (u.Y0 ≤ y) = false := decide_eq_false c2
            have HT2 := Lib.hid (HN.out (fun h => c2 h.2.2.2.1))
            clear HH HN
            go_wp2_with fail
            go_roundw
            case rel => exact ⟨k + 1, by omega, by go_num, HB, HT2⟩
            case measure => simp [intOf]; omega
        · have d1 : decide (x < u.X1) = false := decide_eq_false c1
          have HT2 := Lib.hid (HN.out (fun h => c1 h.2.2.1))
          clear HH HN
          go_wp2_with fail
          go_roundw
          case rel => exact ⟨k + 1, by omega, by go_num, HB, HT2⟩
          case measure => simp [intOf]; omega
      · have d0 : decide (u.X0 ≤ x) = false := decide_eq_false c0
        have HT2 := Lib.hid (HN.out (fun h => c0 h.2.1))
        clear HH HN
        go_wp2_with fail
        go_roundw
        case rel => exact ⟨k + 1, by omega, by go_num, HB, HT2⟩
        case measure => simp [intOf]; omega
    · obtain rfl : k = l.length := by omega
      have FIN : Hid (BlIs (hasD l x y) w (.returned (.bool false)) wr) := Lib.hid ⟨by have := HT.out; rw [List.take_length] at this; rw [this], HB.out⟩
      clear HT
      go_wp2_with fail
      go_ret
      exact FIN.out
end Go.Proofs.YtdnoadngfkiabaaGreat
