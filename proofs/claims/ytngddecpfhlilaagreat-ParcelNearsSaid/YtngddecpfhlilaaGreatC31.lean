/-
  Contracts of layer 13 (17): odd.
-/
import Derived.Test.YtngddecpfhlilaaGreatC20
import Derived.Laws.StructEq
import Derived.BigQuiet
set_option linter.unusedVariables false
set_option maxRecDepth 100000
namespace Go.Proofs.YtngddecpfhlilaaGreat
open Go.RowKit
theorem wpList_app_room13 {P : Program} {w : World} {ops : Array Oper} {rest : List Oper} {o : Oper} {a : Act} {Q : Exit → Act → World → Prop} (hg : o.guard = none) (s x : Operand) (t : TypeId)
  (ho : o.op = Op.call { callee := Callee.builtin Builtin.append, args := #[s, x], argTypes := #[t, t] }) (e : TypeId) (i : TypeInfo) (K : Nat) (ht : P.underlying t = some (.slice e)) (hi : P.info? e = some i) (hsz : i.size = K)
  (g m cap : Nat) (cur : Array Value) (hb : w.heap[g]? = some (.cells cur e (0, 0))) (hs : a.eval s = .slice (some ⟨g, 0, none⟩) m cap) (ad : Addr) (c : Nat) (news : List Value) (hx : a.eval x = .slice (some ad) 1 c) (hl : news.length = 1 * K)
  (hnews : ∀ j u, news[j]? = some u → w.cell? (ad.add j) = some u) (h1 : ∀ u ∈ news, u.oneCell' = true) (hroom : m + 1 ≤ cap) (hfit : m * K + news.length ≤ cur.size)
  (hK : ∀ w', w' = w.setRow g (cur.toList.take (m * K) ++ news ++ cur.toList.drop (m * K + news.length)).toArray → wpList P ops Q rest (a.put o.dst (.slice (some ⟨g, 0, none⟩) (m + 1) cap)) w') :
  wpList P ops Q (o :: rest) a w := by
 subst hsz
 refine wpList_plain hg fun K hK' => ?_
 have hrun := run_append_room (P := P) w t o.type e i ht hi g m cap cur hb ad 1 c news hl hnews h1 hroom hfit
 unfold Oper.wp
 simp [execOp, ho, resolve, invoke, builtin, hs, hx, hrun, Result.andThen]
 exact hK' _ _ (by simpa using hK _ rfl)
structure OdAt {α : Type} [DecidableEq α] (cells : List α → List Value) (E K g cap : Nat) (T left : List α) (k : Nat) (w0 w : World) : Prop where
 blk : ∃ cur, w.heap[g]? = some (.cells cur E (0, 0)) ∧ cur.size = cap * K ∧ cur.toList.take (left.length * K) = cells left ∧ ∀ t, k * K ≤ t → t < T.length * K → cur[t]? = (cells T)[t]?
 lft : left = oddL (T.take k)
 len : left.length ≤ k
 grow : w0.grownBy w (some g)
variable {α : Type} [DecidableEq α] {cells : List α → List Value} {E K g cap : Nat} {T left : List α} {k : Nat} {w0 w w' : World}
theorem OdAt.go (h : OdAt cells E K g cap T left k w0 w) (hb : Below w.heap.size w w') : OdAt cells E K g cap T left k w0 w' := by
 obtain ⟨cur, h1, h2, h3, h4⟩ := h.blk
 exact ⟨⟨cur, (hb.block g (Array.getElem?_eq_some_iff.1 h1).1).trans h1, h2, h3, h4⟩, h.lft, h.len, h.grow.trans ⟨hb.os, hb.tape, hb.output, hb.size, fun j hj _ => hb.block j hj⟩⟩
theorem OdAt.cast (h : OdAt cells E K g cap T left k w0 w) (e : w' = w) : OdAt cells E K g cap T left k w0 w' := by subst e; exact h
theorem OdAt.start {cur : Array Value} (h1 : w.heap[g]? = some (.cells cur E (0, 0))) (h2 : cur.size = cap * K) (h3 : cur.toList.take (T.length * K) = cells T) (hc : cells [] = []) (hg : w0.grownBy w (some g)) : OdAt cells E K g cap T [] 0 w0 w :=
 ⟨⟨cur, h1, h2, by rw [hc]; simp, fun t _ ht => by
  rw [← h3, List.getElem?_take, if_pos ht]; simp⟩, by simp [oddL], by simp, hg⟩
theorem OdAt.at_ (h : OdAt cells E K g cap T left k w0 w) {t : Nat} (h1 : k * K ≤ t) (h2 : t < T.length * K) : w.cell? ⟨g, t, none⟩ = (cells T)[t]? := by
 obtain ⟨cur, hb, _, _, h4⟩ := h.blk
 rw [Lib.cell_of_heap hb]
 exact h4 t h1 h2
theorem OdAt.lt_ (h : OdAt cells E K g cap T left k w0 w) {t : Nat} (h2 : t < left.length * K) : w.cell? ⟨g, t, none⟩ = (cells left)[t]? := by
 obtain ⟨cur, hb, _, h3, _⟩ := h.blk
 rw [Lib.cell_of_heap hb, ← h3, List.getElem?_take, if_pos h2]
 simp
theorem OdAt.lt (h : OdAt cells E K g cap T left k w0 w) : g < w.heap.size := by
 obtain ⟨cur, hb, _⟩ := h.blk
 exact (Array.getElem?_eq_some_iff.1 hb).1
theorem OdAt.pop (h : OdAt cells E K g cap T left k w0 w) (hk : k < T.length) (hl : left.getLast? = some T[k]) (hcl : ∀ L : List α, (cells L).length = L.length * K) (hca : ∀ L M : List α, cells (L ++ M) = cells L ++ cells M) : OdAt cells E K g cap T left.dropLast (k + 1) w0 w := by
 obtain ⟨cur, h1, h2, h3, h4⟩ := h.blk
 obtain ⟨ys, hy⟩ := List.getLast?_eq_some_iff.1 hl
 have e1 : left.dropLast = ys := by rw [hy, List.dropLast_concat]
 refine ⟨⟨cur, h1, h2, ?_, fun t ht ht2 => h4 t (Nat.le_trans (Nat.mul_le_mul_right _ (by omega)) ht) ht2⟩, ?_, ?_, h.grow⟩
 ·rw [e1]
  rw [hy, hca] at h3
  have h5 : ys.length * K ≤ (ys ++ [T[k]]).length * K := Nat.mul_le_mul_right _ (by simp)
  have h6 : cur.toList.take (ys.length * K) = (cells ys ++ cells [T[k]]).take (ys.length * K) := by rw [← h3, List.take_take, Nat.min_eq_left h5]
  rw [h6]
  exact List.take_left' (hcl ys)
 ·rw [← List.take_append_getElem hk, oddL_snoc, ← h.lft]
  unfold oddStep
  rw [if_pos hl]
 ·have := h.len; rw [List.length_dropLast]; omega
theorem OdAt.push (h : OdAt cells E K g cap T left k w0 w) (hk : k < T.length) (hl : left.getLast? ≠ some T[k]) (hcl : ∀ L : List α, (cells L).length = L.length * K) (hca : ∀ L M : List α, cells (L ++ M) = cells L ++ cells M) (hK : 0 < K) (hcap : T.length ≤ cap)
  {cur : Array Value} (hb : w.heap[g]? = some (.cells cur E (0, 0))) : OdAt cells E K g cap T (left ++ [T[k]]) (k + 1) w0 (w.setRow g (cur.toList.take (left.length * K) ++ cells [T[k]] ++ cur.toList.drop (left.length * K + (cells [T[k]]).length)).toArray) := by
 obtain ⟨cur', h1, h2, h3, h4⟩ := h.blk
 have e : cur' = cur := by rw [hb] at h1; injection h1 with h1; injection h1 with h1; exact h1.symm
 subst e
 have hlen := h.len
 have hone : (cells [T[k]]).length = K := by rw [hcl]; simp
 have hs1 : left.length * K + K ≤ cap * K := by rw [← Nat.succ_mul]; exact Nat.mul_le_mul_right _ (by omega)
 refine ⟨⟨_, setRow_heap w g cur' _ E _ hb, ?_, ?_, fun t ht ht2 => ?_⟩, ?_, by simp; omega, ?_⟩
 ·simp only [List.size_toArray, List.length_append, List.length_take, List.length_drop, Array.length_toList, hone]
  omega
 ·rw [h3, hca]
  have : (cells left ++ cells [T[k]]).length = (left ++ [T[k]]).length * K := by rw [List.length_append, hcl, hcl, List.length_append, Nat.add_mul]
  simp only
  rw [List.take_append_of_le_length (by rw [this]; exact Nat.le_refl _), List.take_of_length_le (by rw [this]; exact Nat.le_refl _)]
 ·have h5 := h4 t (Nat.le_trans (Nat.mul_le_mul_right _ (by omega)) ht) ht2
  rw [← h5]
  have h6 : left.length * K + K ≤ t := by
   have : (left.length + 1) * K ≤ (k + 1) * K := Nat.mul_le_mul_right _ (by omega)
   rw [Nat.succ_mul] at this
   omega
  have h7 : t < cur'.size := by rw [h2]; exact Nat.lt_of_lt_of_le ht2 (Nat.mul_le_mul_right _ hcap)
  simp only [List.getElem?_toArray]
  rw [List.getElem?_append_right (by simp only [List.length_append, List.length_take, Array.length_toList, hone]; omega), List.getElem?_drop]
  simp only [List.length_append, List.length_take, Array.length_toList, hone, Array.getElem?_toList]
  congr 1
  omega
 ·rw [← List.take_append_getElem hk, oddL_snoc, ← h.lft]
  unfold oddStep
  rw [if_neg hl]
 ·exact h.grow.trans ⟨rfl, rfl, rfl, by simp, fun j _ hj => setRow_other w g j _ (fun e => hj (by simp [e]))⟩
def OdIs {α : Type} [DecidableEq α] (cells : List α → List Value) (E K B g cap : Nat) (le : α → α → Prop) (R : List α) (w : World) (e : Ending) (w' : World) : Prop := ∃ T, T.Perm R ∧ T.Pairwise le ∧ e = .returned (.slice (some ⟨g, 0, none⟩) (oddL T).length cap) ∧ w'.ownsRow B E K (.slice (some ⟨g, 0, none⟩) (oddL T).length cap) (oddL T).length (cells (oddL T)) ∧ w.grownBy w' (some g)
theorem OdAt.done {B : Nat} {R : List α} {le : α → α → Prop} (h : OdAt cells E K g cap T left k w0 w) (hk : k = T.length) (hp : T.Perm R) (hs : T.Pairwise le) (hB : B ≤ g) (hcl : ∀ L : List α, (cells L).length = L.length * K) (hcap : T.length ≤ cap) (hm : cap ≤ maxLen) :
  OdIs cells E K B g cap le R w0 (.returned (.slice (some ⟨g, 0, none⟩) left.length cap)) w := by
 subst hk
 have e := h.lft
 rw [List.take_length] at e
 obtain ⟨cur, h1, h2, h3, h4⟩ := h.blk
 subst e
 exact ⟨T, hp, hs, rfl, ⟨hcl _, .inr ⟨g, cap, cur, rfl, hB, h1, by have := h.len; omega, hm, h2, h3⟩⟩, h.grow⟩
set_option maxHeartbeats 16000000 in
theorem oddI_any (B g cap : Nat) (R : List Int) (w : World) (h : w.ownsRow B 3 1 (.slice (some ⟨g, 0, none⟩) R.length cap) R.length (icells R)) (hl : R.length ≤ 1099511627776) :
  Calls Tryz.prog 139 #[.slice (some ⟨g, 0, none⟩) R.length cap, .func (.func 107) #[] #[]] w (OdIs icells 3 1 B g cap (fun a b => a = b ∨ a < b) R w) := by
 obtain ⟨i0, hi9, hz0, hz1, hz2⟩ := info_parts infoInt
 have hB : B ≤ g ∧ g < w.heap.size ∧ R.length ≤ cap ∧ cap ≤ maxLen := by
  rcases h.2 with ⟨e, _⟩ | ⟨g2, c2, cur, e, h0, h1, h2, h3, _⟩
  ·cases e
  ·injection e with e1 e2 e3
   simp only [Option.some.injEq, Addr.mk.injEq, and_true] at e1
   subst e1; subst e3
   exact ⟨h0, (h.lt g rfl).2, h2, h3⟩
 obtain ⟨hB1, hB2, hB3, hB4⟩ := hB
 have hcm : cap ≤ 9223372036854775807 := by unfold maxLen at hB4; omega
 have HSO := Lib.hid (soIn_any B g cap R w h hl)
 have HBB := Lib.hid hB1; have HMX := Lib.hid hB4
 clear h hB1 hB4
 obtain ⟨n, hn⟩ : ∃ n, n = R.length := ⟨_, rfl⟩
 rw [← hn] at HSO hl hB3 ⊢
 have HNR := Lib.hid hn; clear hn
 go_enter Tryz.func139, Tryz.ntmps139
 go_wp2_with fail
 refine HSO.out.mono ?_
 rintro e w1 ⟨rfl, T, cur, hp, hs, hc1, hc2, hc3, hgr⟩
 have hTn : T.length = n := by rw [HNR.out]; exact hp.length_eq
 have HP := Lib.hid hp; have HSR := Lib.hid hs
 have HST := Lib.hid (OdAt.start (cells := icells) (E := 3) (K := 1) (T := T) hc1 hc2 hc3 rfl hgr)
 have hgl : g < w1.heap.size := Nat.lt_of_lt_of_le hB2 hgr.size
 have HTN := Lib.hid hTn
 clear hp hs hc1 hc2 hc3 hgr HSO hTn
 go_wp2_with fail
 go_loopw [5, 16] (fun v i wr => ∃ (k m : Nat) (left : List Int), k ≤ n ∧ i = .int .i64 k ∧ v = .slice (some ⟨g, 0, none⟩) m cap ∧ m = left.length ∧ Hid (OdAt icells 3 1 g cap T left k w wr)) (fun _ i _ => n - (intOf i).toNat)
 case atStart => exact ⟨0, 0, [], Nat.zero_le _, rfl, rfl, rfl, HST⟩
 case round =>
  clear HST
  obtain ⟨k, m, left, hk, rfl, rfl, hm, HK⟩ := hrel
  have hml : m ≤ k := by rw [hm]; exact HK.out.len
  have HM := Lib.hid hm; clear hm
  by_cases hlt : k < n
  ·have hkT : k < T.length := by rw [HTN.out]; exact hlt
   have n0 : (0 : Int) ≤ (k : Int) := by omega
   have n1 : (k : Int) < (n : Int) := by omega
   have hgw := HK.out.lt
   have HTC : Hid (T.length ≤ cap) := Lib.hid (by rw [HTN.out]; exact hB3)
   have x0 : wr.cell? ⟨g, k, none⟩ = some (.int .i64 T[k]) := by
    have := HK.out.at_ (t := k * 1) (Nat.le_refl _) (by omega)
    rw [icells_at13 T k hkT, Nat.mul_one] at this
    exact this
   have HPOP := Lib.hid (fun (c : left.getLast? = some T[k]) => HK.out.pop hkT c icells_len13 icells_append)
   have HPUSH : Hid (left.getLast? ≠ some T[k] → ∀ w', Below wr.heap.size wr w' → ∀ cur : Array Value, w'.heap[g]? = some (.cells cur 3 (0, 0)) → OdAt icells 3 1 g cap T (left ++ [T[k]]) (k + 1) w (w'.setRow g (cur.toList.take (m * 1) ++ icells [T[k]] ++ cur.toList.drop (m * 1 + (icells [T[k]]).length)).toArray)) := Lib.hid (fun c w' hb cur hc => by rw [HM.out]; exact (HK.out.go hb).push hkT c icells_len13 icells_append (by decide) HTC.out hc)
   have HCUR : Hid (∀ w', Below wr.heap.size wr w' → ∃ cur, w'.heap[g]? = some (.cells cur 3 (0, 0)) ∧ m * 1 + 1 ≤ cur.size) := Lib.hid (fun w' hb => by
    obtain ⟨cur, h1, h2, _⟩ := (HK.out.go hb).blk
    exact ⟨cur, h1, by omega⟩)
   obtain ⟨u, hu⟩ : ∃ u, u = T[k] := ⟨_, rfl⟩
   rw [← hu] at x0 HPOP HPUSH
   clear hu
   rcases Nat.eq_zero_or_pos m with m0 | m0
   ·have hl0 : left = [] := List.eq_nil_of_length_eq_zero (by rw [← HM.out]; exact m0)
    subst hl0
    have HPU := Lib.hid (HPUSH.out (by simp))
    clear HPOP HPUSH
    subst m0
    obtain ⟨cur, hcu, hcz⟩ := HCUR.out (wr.alloc (.cells #[.int .i64 u] 3)) (by (repeat' first | exact Below.refl _ _ | assumption | (apply below_drewN) | (refine Below.setCell ?_ (by (try simp); (try omega)) _) | (refine Below.alloc ?_ (by (try simp); (try omega)) _) | (refine Below.trans ?_ (Below.mono (Hid.out (by assumption)) (by (try simp); (try omega))))))
    have HNX := Lib.hid (HPU.out (wr.alloc (.cells #[.int .i64 u] 3)) (by (repeat' first | exact Below.refl _ _ | assumption | (apply below_drewN) | (refine Below.setCell ?_ (by (try simp); (try omega)) _) | (refine Below.alloc ?_ (by (try simp); (try omega)) _) | (refine Below.trans ?_ (Below.mono (Hid.out (by assumption)) (by (try simp); (try omega)))))) cur hcu)
    go_wp2_with (at_builtin; refine wpList_app_room13 rfl _ _ 31 rfl 3 i0 1 Tryz.underlying31 hi9 hz1 g (0) cap cur hcu rfl ⟨wr.heap.size, 0, none⟩ 1 (icells [u]) rfl rfl ?c1 ?c2 ?c3 ?c4 ?_)
    case c1 => exact World.news_of_block (cs := #[.int .i64 u]) (t := 3) (fr := (0, 0)) (heap_alloc_new wr _)
    case c2 => intro z hz; obtain ⟨y, _, rfl⟩ := List.mem_map.1 hz; rfl
    case c3 => omega
    case c4 => rw [icells_len13]; simp only [List.length_cons, List.length_nil]; omega
    clear hcu hcz
    go_roundw
    case rel => exact ⟨k + 1, 0 + 1, [] ++ [u], by omega, by go_num, by first | rfl | simp, by simp, Lib.hid (HNX.out.cast (by simp))⟩
    case measure => simp [intOf]; omega
   ·obtain ⟨m', rfl⟩ : ∃ i, m = i + 1 := ⟨m - 1, by omega⟩
    obtain ⟨ys, z, hz⟩ : ∃ ys z, left = ys ++ [z] := by
     rcases List.eq_nil_or_concat left with e | ⟨ys, z, e⟩
     ·exfalso; have := HM.out; rw [e] at this; simp at this
     ·exact ⟨ys, z, by rw [e, List.concat_eq_append]⟩
    have hyl : ys.length = m' := by have := HM.out; rw [hz] at this; simp at this; omega
    have x1 : wr.cell? ⟨g, m', none⟩ = some (.int .i64 z) := by
     have := HK.out.lt_ (t := m' * 1) (by rw [← HM.out]; omega)
     rw [hz] at this
     have h2 : (icells (ys ++ [z]))[m' * 1]? = some (.int .i64 z) := by
      rw [icells_at13 _ m' (by simp; omega)]
      simp [← hyl]
     rw [h2, Nat.mul_one] at this
     exact this
    have hgt : left.getLast? = some z := by rw [hz]; simp
    rw [hgt] at HPOP HPUSH
    have HDL : Hid (left.dropLast.length = m') := Lib.hid (by rw [hz, List.dropLast_concat]; exact hyl)
    clear hyl
    have r1 : ((m' + 1 : Nat) : Int) - 1 = (m' : Int) := by omega
    have p0 : (0 : Int) ≤ (m' : Int) := by omega
    have p1 : (m' : Int) < ((m' + 1 : Nat) : Int) := by omega
    have p2 : (m' : Int) ≤ (cap : Int) := by omega
    by_cases c : z = u
    ·have hd : (z == u) = true := by simpa using c
     have HN := Lib.hid (HPOP.out (by rw [c]))
     clear HPOP HPUSH c hz hgt
     go_wp2_with fail
     go_roundw
     case rel => exact ⟨k + 1, m', left.dropLast, by omega, by go_num, rfl, HDL.out.symm, Lib.hid (HN.out.go (by (repeat' first | exact Below.refl _ _ | assumption | (apply below_drewN) | (refine Below.setCell ?_ (by (try simp); (try omega)) _) | (refine Below.alloc ?_ (by (try simp); (try omega)) _) | (refine Below.trans ?_ (Below.mono (Hid.out (by assumption)) (by (try simp); (try omega)))))))⟩
     case measure => simp [intOf]; omega
    ·have hd : (z == u) = false := by simpa using c
     have HPU := Lib.hid (HPUSH.out (by simpa using c))
     clear HPOP HPUSH c hz hgt
     obtain ⟨cur, hcu, hcz⟩ := HCUR.out (wr.alloc (.cells #[.int .i64 u] 3)) (by (repeat' first | exact Below.refl _ _ | assumption | (apply below_drewN) | (refine Below.setCell ?_ (by (try simp); (try omega)) _) | (refine Below.alloc ?_ (by (try simp); (try omega)) _) | (refine Below.trans ?_ (Below.mono (Hid.out (by assumption)) (by (try simp); (try omega))))))
     have HNX := Lib.hid (HPU.out (wr.alloc (.cells #[.int .i64 u] 3)) (by (repeat' first | exact Below.refl _ _ | assumption | (apply below_drewN) | (refine Below.setCell ?_ (by (try simp); (try omega)) _) | (refine Below.alloc ?_ (by (try simp); (try omega)) _) | (refine Below.trans ?_ (Below.mono (Hid.out (by assumption)) (by (try simp); (try omega)))))) cur hcu)
     go_wp2_with (at_builtin; refine wpList_app_room13 rfl _ _ 31 rfl 3 i0 1 Tryz.underlying31 hi9 hz1 g (m' + 1) cap cur hcu rfl ⟨wr.heap.size, 0, none⟩ 1 (icells [u]) rfl rfl ?c1 ?c2 ?c3 ?c4 ?_)
     case c1 => exact World.news_of_block (cs := #[.int .i64 u]) (t := 3) (fr := (0, 0)) (heap_alloc_new wr _)
     case c2 => intro z hz; obtain ⟨y, _, rfl⟩ := List.mem_map.1 hz; rfl
     case c3 => omega
     case c4 => rw [icells_len13]; simp only [List.length_cons, List.length_nil]; omega
     clear hcu hcz
     go_roundw
     case rel => exact ⟨k + 1, m' + 1 + 1, left ++ [u], by omega, by go_num, by first | rfl | simp, by rw [List.length_append, ← HM.out]; rfl, Lib.hid (HNX.out.cast (by simp))⟩
     case measure => simp [intOf]; omega
  ·obtain rfl : k = n := by omega
   have HF := Lib.hid (HK.out.done (B := B) HTN.out.symm HP.out HSR.out HBB.out icells_len13 (by rw [HTN.out]; exact hB3) HMX.out)
   rw [← HM.out] at HF
   clear HK HM
   go_wp2_with fail
   go_ret
   obtain ⟨T2, h1, h2, h3, h4, h5⟩ := HF.out
   exact ⟨T2, h1, h2, h3, own_go h4 (by (repeat' first | exact Below.refl _ _ | assumption | (apply below_drewN) | (refine Below.setCell ?_ (by (try simp); (try omega)) _) | (refine Below.alloc ?_ (by (try simp); (try omega)) _) | (refine Below.trans ?_ (Below.mono (Hid.out (by assumption)) (by (try simp); (try omega)))))), h5.trans ⟨rfl, rfl, rfl, by simp, fun j hj _ => (by (repeat' first | exact Below.refl _ _ | assumption | (apply below_drewN) | (refine Below.setCell ?_ (by (try simp); (try omega)) _) | (refine Below.alloc ?_ (by (try simp); (try omega)) _) | (refine Below.trans ?_ (Below.mono (Hid.out (by assumption)) (by (try simp); (try omega))))) : Below wr.heap.size wr _).block j hj⟩⟩
theorem infoPt13 : (Tryz.prog.info? 146).map (fun i => (i.zero, i.size, i.bytes)) = some (some (.agg #[.int .i64 0, .int .i64 0]), 2, 16) := by kernel_rfl
set_option maxHeartbeats 16000000 in
theorem oddP_any (B g cap : Nat) (R : List (Int × Int)) (w : World) (h : w.ownsRow B 146 2 (.slice (some ⟨g, 0, none⟩) R.length cap) R.length (prcells R)) (hl : R.length ≤ 1099511627776) :
  Calls Tryz.prog 137 #[.slice (some ⟨g, 0, none⟩) R.length cap, .func (.func 138) #[] #[]] w (OdIs prcells 146 2 B g cap (fun a b => a = b ∨ ltPr a b) R w) := by
 obtain ⟨i0, hi9, hz0, hz1, hz2⟩ := info_parts infoPt13
 have hB : B ≤ g ∧ g < w.heap.size ∧ R.length ≤ cap ∧ cap ≤ maxLen := by
  rcases h.2 with ⟨e, _⟩ | ⟨g2, c2, cur, e, h0, h1, h2, h3, _⟩
  ·cases e
  ·injection e with e1 e2 e3
   simp only [Option.some.injEq, Addr.mk.injEq, and_true] at e1
   subst e1; subst e3
   exact ⟨h0, (h.lt g rfl).2, h2, h3⟩
 obtain ⟨hB1, hB2, hB3, hB4⟩ := hB
 have hcm : cap ≤ 9223372036854775807 := by unfold maxLen at hB4; omega
 have HSO := Lib.hid (soPt_any B g cap R w h hl)
 have HBB := Lib.hid hB1; have HMX := Lib.hid hB4
 clear h hB1 hB4
 obtain ⟨n, hn⟩ : ∃ n, n = R.length := ⟨_, rfl⟩
 rw [← hn] at HSO hl hB3 ⊢
 have HNR := Lib.hid hn; clear hn
 go_enter Tryz.func137, Tryz.ntmps137
 go_wp2_with fail
 refine HSO.out.mono ?_
 rintro e w1 ⟨rfl, T, cur, hp, hs, hc1, hc2, hc3, hgr⟩
 have hTn : T.length = n := by rw [HNR.out]; exact hp.length_eq
 have HP := Lib.hid hp; have HSR := Lib.hid hs
 have HST := Lib.hid (OdAt.start (cells := prcells) (E := 146) (K := 2) (T := T) hc1 hc2 hc3 rfl hgr)
 have hgl : g < w1.heap.size := Nat.lt_of_lt_of_le hB2 hgr.size
 have HTN := Lib.hid hTn
 clear hp hs hc1 hc2 hc3 hgr HSO hTn
 go_wp2_with fail
 go_loopw [5, 16] (fun v i wr => ∃ (k m : Nat) (left : List (Int × Int)), k ≤ n ∧ i = .int .i64 k ∧ v = .slice (some ⟨g, 0, none⟩) m cap ∧ m = left.length ∧ Hid (OdAt prcells 146 2 g cap T left k w wr)) (fun _ i _ => n - (intOf i).toNat)
 case atStart => exact ⟨0, 0, [], Nat.zero_le _, rfl, rfl, rfl, HST⟩
 case round =>
  clear HST
  obtain ⟨k, m, left, hk, rfl, rfl, hm, HK⟩ := hrel
  have hml : m ≤ k := by rw [hm]; exact HK.out.len
  have HM := Lib.hid hm; clear hm
  by_cases hlt : k < n
  ·have hkT : k < T.length := by rw [HTN.out]; exact hlt
   have n0 : (0 : Int) ≤ (k : Int) := by omega
   have n1 : (k : Int) < (n : Int) := by omega
   have hgw := HK.out.lt
   have HTC : Hid (T.length ≤ cap) := Lib.hid (by rw [HTN.out]; exact hB3)
   obtain ⟨x0, x0b⟩ : wr.cell? ⟨g, k * 2, none⟩ = some (.int .i64 T[k].1) ∧ wr.cell? ⟨g, k * 2 + 1, none⟩ = some (.int .i64 T[k].2) := by
    obtain ⟨c0, c1⟩ := prcells_at T k hkT
    exact ⟨(HK.out.at_ (t := k * 2) (Nat.le_refl _) (by omega)).trans c0, (HK.out.at_ (t := k * 2 + 1) (by omega) (by omega)).trans c1⟩
   have HPOP := Lib.hid (fun (c : left.getLast? = some T[k]) => HK.out.pop hkT c prcells_len prcells_append)
   have HPUSH : Hid (left.getLast? ≠ some T[k] → ∀ w', Below wr.heap.size wr w' → ∀ cur : Array Value, w'.heap[g]? = some (.cells cur 146 (0, 0)) → OdAt prcells 146 2 g cap T (left ++ [T[k]]) (k + 1) w (w'.setRow g (cur.toList.take (m * 2) ++ prcells [T[k]] ++ cur.toList.drop (m * 2 + (prcells [T[k]]).length)).toArray)) := Lib.hid (fun c w' hb cur hc => by rw [HM.out]; exact (HK.out.go hb).push hkT c prcells_len prcells_append (by decide) HTC.out hc)
   have HCUR : Hid (∀ w', Below wr.heap.size wr w' → ∃ cur, w'.heap[g]? = some (.cells cur 146 (0, 0)) ∧ m * 2 + 2 ≤ cur.size) := Lib.hid (fun w' hb => by
    obtain ⟨cur, h1, h2, _⟩ := (HK.out.go hb).blk
    exact ⟨cur, h1, by omega⟩)
   obtain ⟨u, hu⟩ : ∃ u, u = T[k] := ⟨_, rfl⟩
   rw [← hu] at x0 x0b HPOP HPUSH
   clear hu
   rcases Nat.eq_zero_or_pos m with m0 | m0
   ·have hl0 : left = [] := List.eq_nil_of_length_eq_zero (by rw [← HM.out]; exact m0)
    subst hl0
    have HPU := Lib.hid (HPUSH.out (by simp))
    clear HPOP HPUSH
    subst m0
    obtain ⟨cur, hcu0, hcz⟩ := HCUR.out wr (Below.refl _ _)
    have HCU : Hid (∀ w', Below wr.heap.size wr w' → w'.heap[g]? = some (.cells cur 146 (0, 0))) := Lib.hid (fun w' hb => (hb.block g hgw).trans hcu0)
    have HNX := Lib.hid (fun w' hb => HPU.out w' hb cur (HCU.out w' hb))
    clear hcu0
    go_wp2_with fail
    go_quiet (fail)
    go_wp2_with (at_builtin; refine wpList_app_room13 rfl _ _ 144 rfl 146 i0 2 Tryz.underlying144 hi9 hz1 g (0) cap cur (HCU.out _ (by (repeat' first | exact Below.refl _ _ | assumption | (apply below_drewN) | (refine Below.setCell ?_ (by (try simp); (try omega)) _) | (refine Below.alloc ?_ (by (try simp); (try omega)) _) | (refine Below.trans ?_ (Below.mono (Hid.out (by assumption)) (by (try simp); (try omega))))))) rfl ⟨wr.heap.size + 1, 0, none⟩ 1 (prcells [u]) rfl rfl ?c1 ?c2 ?c3 ?c4 ?_)
    case c1 => exact World.news_of_block (cs := #[.int .i64 u.1, .int .i64 u.2]) (t := 146) (fr := (0, 0)) (by first | (have h := heap_alloc2_new wr (.cells #[.int .i64 u.1, .int .i64 u.2] 146) (.cells #[.int .i64 u.1, .int .i64 u.2] 146); exact h) | (have h := heap_alloc2_new wr (.cells #[.int .i64 u.1, .int .i64 u.2] 146) (.cells #[.int .i64 u.1, .int .i64 u.2] 146); simpa using h))
    case c2 => intro z hz; simp only [prcells, prc, List.flatMap_cons, List.flatMap_nil, List.append_nil, List.mem_cons, List.not_mem_nil, or_false] at hz; rcases hz with rfl | rfl <;> rfl
    case c3 => omega
    case c4 => rw [prcells_len]; simp only [List.length_cons, List.length_nil]; omega
    go_roundw
    case rel => exact ⟨k + 1, 0 + 1, [] ++ [u], by omega, by go_num, by first | rfl | simp, by simp, Lib.hid ((HNX.out (((wr.alloc (.cells #[.int .i64 u.1, .int .i64 u.2] 146)).drewN nq).alloc (.cells #[.int .i64 u.1, .int .i64 u.2] 146)) (by (repeat' first | exact Below.refl _ _ | assumption | (apply below_drewN) | (refine Below.setCell ?_ (by (try simp); (try omega)) _) | (refine Below.alloc ?_ (by (try simp); (try omega)) _) | (refine Below.trans ?_ (Below.mono (Hid.out (by assumption)) (by (try simp); (try omega))))))).cast (by simp))⟩
    case measure => simp [intOf]; omega
   ·obtain ⟨m', rfl⟩ : ∃ i, m = i + 1 := ⟨m - 1, by omega⟩
    obtain ⟨ys, z, hz⟩ : ∃ ys z, left = ys ++ [z] := by
     rcases List.eq_nil_or_concat left with e | ⟨ys, z, e⟩
     ·exfalso; have := HM.out; rw [e] at this; simp at this
     ·exact ⟨ys, z, by rw [e, List.concat_eq_append]⟩
    have hyl : ys.length = m' := by have := HM.out; rw [hz] at this; simp at this; omega
    obtain ⟨x1, x2⟩ : wr.cell? ⟨g, m' * 2, none⟩ = some (.int .i64 z.1) ∧ wr.cell? ⟨g, m' * 2 + 1, none⟩ = some (.int .i64 z.2) := by
     have hb : m' < (ys ++ [z]).length := by simp; omega
     obtain ⟨c0, c1⟩ := prcells_at (ys ++ [z]) m' hb
     have hzz : (ys ++ [z])[m'] = z := by simp [← hyl]
     rw [hzz] at c0 c1
     have e0 := HK.out.lt_ (t := m' * 2) (by rw [← HM.out]; omega)
     have e1 := HK.out.lt_ (t := m' * 2 + 1) (by rw [← HM.out]; omega)
     rw [hz] at e0 e1
     exact ⟨e0.trans c0, e1.trans c1⟩
    have hgt : left.getLast? = some z := by rw [hz]; simp
    rw [hgt] at HPOP HPUSH
    have HDL : Hid (left.dropLast.length = m') := Lib.hid (by rw [hz, List.dropLast_concat]; exact hyl)
    clear hyl
    have r1 : ((m' + 1 : Nat) : Int) - 1 = (m' : Int) := by omega
    have p0 : (0 : Int) ≤ (m' : Int) := by omega
    have p1 : (m' : Int) < ((m' + 1 : Nat) : Int) := by omega
    have p2 : (m' : Int) ≤ (cap : Int) := by omega
    have g0 : decide ((0 : Int) < ((m' + 1 : Nat) : Int)) = true := by simp
    have g1 : decide (0 < m' + 1) = true := by simp
    have r2 : IntKind.i64.wrap (((m' + 1 : Nat) : Int) - 1) = (m' : Int) := by rw [r1]; exact IntWalk.i64_in _ (by omega)
    have r3 : IntKind.i64.wrap (m' : Int) = (m' : Int) := IntWalk.i64_in _ (by omega)
    by_cases c : z = u
    ·have HN := Lib.hid (HPOP.out (by rw [c]))
     have HNG := Lib.hid (fun w' (hb : Below wr.heap.size wr w') => HN.out.go hb)
     rw [c] at x1 x2
     clear HPOP HPUSH c hz hgt
     go_wp2_with fail
     go_quiet (fail)
     go_wp2_with fail
     go_roundw
     case rel => exact ⟨k + 1, m', left.dropLast, by omega, by go_num, rfl, HDL.out.symm, Lib.hid (HN.out.go (by (repeat' first | exact Below.refl _ _ | assumption | (apply below_drewN) | (refine Below.setCell ?_ (by (try simp); (try omega)) _) | (refine Below.alloc ?_ (by (try simp); (try omega)) _) | (refine Below.trans ?_ (Below.mono (Hid.out (by assumption)) (by (try simp); (try omega)))))))⟩
     case measure => simp [intOf]; omega
    ·have HPU := Lib.hid (HPUSH.out (by simpa using c))
     have hd : z.1 ≠ u.1 ∨ (z.1 = u.1 ∧ z.2 ≠ u.2) := by
      by_cases c1 : z.1 = u.1
      ·exact .inr ⟨c1, fun c2 => c (Prod.ext c1 c2)⟩
      ·exact .inl c1
     clear HPOP HPUSH c hz hgt
     rcases hd with d0 | ⟨d0, d1⟩
     all_goals
      obtain ⟨cur, hcu0, hcz⟩ := HCUR.out wr (Below.refl _ _)
      have HCU : Hid (∀ w', Below wr.heap.size wr w' → w'.heap[g]? = some (.cells cur 146 (0, 0))) := Lib.hid (fun w' hb => (hb.block g hgw).trans hcu0)
      have HNX := Lib.hid (fun w' hb => HPU.out w' hb cur (HCU.out w' hb))
      clear hcu0
      go_wp2_with fail
      go_quiet (fail)
      go_wp2_with (at_builtin; refine wpList_app_room13 rfl _ _ 144 rfl 146 i0 2 Tryz.underlying144 hi9 hz1 g (m' + 1) cap cur (HCU.out _ (by (repeat' first | exact Below.refl _ _ | assumption | (apply below_drewN) | (refine Below.setCell ?_ (by (try simp); (try omega)) _) | (refine Below.alloc ?_ (by (try simp); (try omega)) _) | (refine Below.trans ?_ (Below.mono (Hid.out (by assumption)) (by (try simp); (try omega))))))) rfl ⟨wr.heap.size + 1, 0, none⟩ 1 (prcells [u]) rfl rfl ?c1 ?c2 ?c3 ?c4 ?_)
      case c1 => exact World.news_of_block (cs := #[.int .i64 u.1, .int .i64 u.2]) (t := 146) (fr := (0, 0)) (by first | (have h := heap_alloc2_new wr (.cells #[.int .i64 u.1, .int .i64 u.2] 146) (.cells #[.int .i64 u.1, .int .i64 u.2] 146); exact h) | (have h := heap_alloc2_new wr (.cells #[.int .i64 u.1, .int .i64 u.2] 146) (.cells #[.int .i64 u.1, .int .i64 u.2] 146); simpa using h))
      case c2 => intro z hz; simp only [prcells, prc, List.flatMap_cons, List.flatMap_nil, List.append_nil, List.mem_cons, List.not_mem_nil, or_false] at hz; rcases hz with rfl | rfl <;> rfl
      case c3 => omega
      case c4 => rw [prcells_len]; simp only [List.length_cons, List.length_nil]; omega
      go_roundw
      case rel => exact ⟨k + 1, m' + 1 + 1, left ++ [u], by omega, by go_num, by first | rfl | simp, by rw [List.length_append, ← HM.out]; rfl, Lib.hid ((HNX.out (((wr.alloc (.cells #[.int .i64 u.1, .int .i64 u.2] 146)).drewN nq).alloc (.cells #[.int .i64 u.1, .int .i64 u.2] 146)) (by (repeat' first | exact Below.refl _ _ | assumption | (apply below_drewN) | (refine Below.setCell ?_ (by (try simp); (try omega)) _) | (refine Below.alloc ?_ (by (try simp); (try omega)) _) | (refine Below.trans ?_ (Below.mono (Hid.out (by assumption)) (by (try simp); (try omega))))))).cast (by simp))⟩
      case measure => simp [intOf]; omega
  ·obtain rfl : k = n := by omega
   have HF := Lib.hid (HK.out.done (B := B) HTN.out.symm HP.out HSR.out HBB.out prcells_len (by rw [HTN.out]; exact hB3) HMX.out)
   rw [← HM.out] at HF
   clear HK HM
   go_wp2_with fail
   go_ret
   obtain ⟨T2, h1, h2, h3, h4, h5⟩ := HF.out
   exact ⟨T2, h1, h2, h3, own_go h4 (by (repeat' first | exact Below.refl _ _ | assumption | (apply below_drewN) | (refine Below.setCell ?_ (by (try simp); (try omega)) _) | (refine Below.alloc ?_ (by (try simp); (try omega)) _) | (refine Below.trans ?_ (Below.mono (Hid.out (by assumption)) (by (try simp); (try omega)))))), h5.trans ⟨rfl, rfl, rfl, by simp, fun j hj _ => (by (repeat' first | exact Below.refl _ _ | assumption | (apply below_drewN) | (refine Below.setCell ?_ (by (try simp); (try omega)) _) | (refine Below.alloc ?_ (by (try simp); (try omega)) _) | (refine Below.trans ?_ (Below.mono (Hid.out (by assumption)) (by (try simp); (try omega))))) : Below wr.heap.size wr _).block j hj⟩⟩
end Go.Proofs.YtngddecpfhlilaaGreat
