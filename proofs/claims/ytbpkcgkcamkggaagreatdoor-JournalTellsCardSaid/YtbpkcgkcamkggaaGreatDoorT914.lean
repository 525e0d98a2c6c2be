/-
  Contracts of the program's put: bytes put into a row that is owned.
-/
import Derived.Test.YtbpkcgkcamkggaaGreatDoorT913
import Derived.Lib.AppendZerosOnto
import Derived.Lib.BufferWrite
import Derived.Lib.SlBuf
set_option linter.unusedVariables false
set_option maxRecDepth 100000
namespace Go.Proofs.YtbpkcgkcamkggaaGreatDoor
open Go.RowKit

theorem zeros_list (k : Nat) : (Builtin.zeroCells (Value.int .u8 0).cells k).toList = bcs (List.replicate k 0) := by
  have h : (Builtin.zeroCells (Value.int .u8 0).cells k).toList.length = (bcs (List.replicate k 0)).length := by simp [Builtin.zeroCells, Value.cells, bcs]
  apply List.ext_getElem h
  intro i h1 h2
  simp [Builtin.zeroCells, Value.cells, bcs, Nat.mod_one]

/-- what append(s, make([]byte, k)...) leaves. -/
structure Zeroed (l : List UInt8) (k : Nat) (v : Value) (w : World) (v' : Value) (w' : World) : Prop where
  own : w'.ownsRow 0 5 1 v' (l.length + k) (bcs (l ++ List.replicate k 0))
  grown : w.grownBy w' v.ownBlock
  lies : v'.ownBlock = v.ownBlock ∨ ∀ b, v'.ownBlock = some b → w.heap.size ≤ b

theorem append_zeros (l : List UInt8) (k : Nat) (v : Value) (w : World) (h : w.ownsRow 0 5 1 v l.length (bcs l)) (h0 : 0 < k) (hb : l.length + k ≤ 1099511627776) (ty : TypeId) :
    ∃ v' w', (Builtin.append_ #[62, 3] ty #[v, .int .i64 (k : Int)]).run Tryz.prog w = .ok v' w' ∧ Zeroed l k v w v' w' := by
  obtain ⟨i, hi, hz0, hz1, hz2⟩ := info_parts infoByt
  have hxl : (bcs (l ++ List.replicate k 0)).length = (l.length + k) * 1 := by simp [bcs_length]
  have hsplit : bcs (l ++ List.replicate k 0) = bcs l ++ bcs (List.replicate k 0) := bcs_append _ _
  -- a new row
  have fresh : ∀ (old : Nat), (w.drew.alloc (.cells ((bcs l).toArray ++ Builtin.zeroCells (Value.int .u8 0).cells k ++ Builtin.zeroCells (Value.int .u8 0).cells (grownCap w (l.length + k) old 5 - (l.length + k))) 5)).ownsRow 0 5 1
      (.slice (some ⟨w.heap.size, 0, none⟩) (l.length + k) (grownCap w (l.length + k) old 5)) (l.length + k) (bcs (l ++ List.replicate k 0)) := by
    intro old
    have hge := grownCap_ge w (l.length + k) old 5
    have hcm : grownCap w (l.length + k) old 5 ≤ maxLen := grownCap_le_maxLen w (l.length + k) old 5 (by unfold maxLen; omega)
    refine ⟨hxl, .inr ⟨w.heap.size, _, _, rfl, Nat.zero_le _, heap_alloc_new w.drew _, hge, hcm, ?_, ?_⟩⟩
    · have e1 : (Value.int .u8 0).cells.size = 1 := rfl
      simp only [Array.size_append, List.size_toArray, size_zeroCells, e1, bcs_length]
      omega
    · simp only [Array.toList_append, List.append_assoc, zeros_list]
      rw [← List.append_assoc, ← hsplit, ← hxl]
      exact List.take_left
  have fgrown : ∀ (o : Obj) (row : Option Nat), w.grownBy (w.drew.alloc o) row := fun o row => ⟨rfl, rfl, rfl, by simp, fun q hq _ => heap_alloc_old w.drew _ hq⟩
  rcases h.2 with ⟨rfl, hn⟩ | ⟨g, cap, cur, rfl, _, hg, hnc, hcm, hcs, htake⟩
  · have hl : l = [] := List.eq_nil_of_length_eq_zero hn
    subst hl
    have hr := Lib.run_append_nil_zeros (P := Tryz.prog) w 62 3 ty 5 i (.int .u8 0) .i64 .i64 Tryz.underlying62 Tryz.underlying3 hi hz0 k h0 (by omega) (by simp at hb; omega) (by rw [hz2]; simp at hb; omega)
    refine ⟨_, _, hr, ⟨?_, fgrown _ _, .inr ?_⟩⟩
    · have := fresh 0
      simp only [List.length_nil, Nat.zero_add, List.nil_append] at this ⊢
      have e : (bcs []).toArray ++ Builtin.zeroCells (Value.int .u8 0).cells k = Builtin.zeroCells (Value.int .u8 0).cells k := by simp [bcs]
      rw [e] at this
      exact this
    · intro b hb
      simp only [Value.ownBlock, Option.some.injEq] at hb
      omega
  · rw [Nat.mul_one] at hcs htake
    by_cases hroom : l.length + k ≤ cap
    · have hst := run_storeCells_at Tryz.prog g l.length 5 (bcs (List.replicate k 0)) 0 cur w hg (by rw [bcs_length, List.length_replicate]; omega) (one_bcs _)
      simp only [Nat.add_zero] at hst
      have hk : k ≠ 0 := by omega
      have hw : IntKind.i64.wrap (k : Int) = k := by rw [IntKind.wrap_i64]; omega
      have hneg : ¬ ((k : Int) < 0) := by omega
      have hbig : ¬ (281474976710656 < (k : Int)) := by omega
      have hzc := zeros_list k
      simp only [Value.cells] at hzc
      refine ⟨.slice (some ⟨g, 0, none⟩) (l.length + k) cap, w.setRow g (cur.toList.take l.length ++ bcs (List.replicate k 0) ++ cur.toList.drop (l.length + (bcs (List.replicate k 0)).length)).toArray, ?_, ⟨⟨hxl, .inr ⟨g, cap, _, rfl, Nat.zero_le _, setRow_heap w g cur _ 5 _ hg, hroom, hcm, ?_, ?_⟩⟩, ⟨rfl, rfl, rfl, by simp, fun q _ hq => setRow_other w g q _ (fun e => hq (by simp [Value.ownBlock, e]))⟩, .inl rfl⟩⟩
      · simp [Builtin.append_, run_underlying Tryz.underlying62, run_underlying Tryz.underlying3, sizeOf, typeInfo, zeroValue, hi, hz0, hz1, hz2, asInt, asIntOf, hw, hk, hneg, hbig, hroom, hzc, hst, Addr.add_lit, Value.cells]
      · simp only [List.size_toArray, List.length_append, List.length_take, List.length_drop, Array.length_toList, bcs_length, List.length_replicate]
        omega
      · rw [htake, Nat.mul_one, ← hsplit]
        have e : (bcs (l ++ List.replicate k 0)).length = l.length + k := by rw [hxl, Nat.mul_one]
        rw [← e]
        exact List.take_left
    · have holds : (Builtin.firstCells i.size l.length (.slice (some ⟨g, 0, none⟩) l.length cap)).run Tryz.prog w.drew = .ok (bcs l).toArray w.drew := by
        refine run_firstCells_some (P := Tryz.prog) w.drew i.size l.length ⟨g, 0, none⟩ l.length cap (bcs l) (by rw [bcs_length, hz1, Nat.mul_one]) ?_
        intro j u hj
        exact h.cells (g := g) rfl j u hj
      have hr := Lib.run_append_grow_zeros (P := Tryz.prog) w 62 3 ty 5 i (.int .u8 0) .i64 .i64 Tryz.underlying62 Tryz.underlying3 hi hz0 (some ⟨g, 0, none⟩) l.length cap (bcs l) holds k h0 (by omega) (by omega) (by omega) (by rw [hz2]; omega) (by rw [hz2]; exact growslice_fits (by omega) (by omega))
      refine ⟨_, _, hr, ⟨fresh cap, fgrown _ _, .inr ?_⟩⟩
      intro b hb
      simp only [Value.ownBlock, Option.some.injEq] at hb
      omega

/-- what put leaves. -/
def PutPost (v : Value) (l : List UInt8) (a : Nat) (t : List UInt8) (w : World) (e : Ending) (w' : World) : Prop :=
  ∃ v', e = .returned v' ∧ w'.ownsRow 0 5 1 v' (put l a t).length (bcs (put l a t)) ∧ w.grownBy w' v.ownBlock ∧ (v'.ownBlock = v.ownBlock ∨ ∀ b, v'.ownBlock = some b → w.heap.size ≤ b)

/-- the bytes laid over a row that is long enough. -/
theorem put_over (l : List UInt8) (k a : Nat) (t : List UInt8) (ht : t ≠ []) (hk : k = a + t.length - l.length) :
    (l ++ List.replicate k 0).take a ++ t ++ (l ++ List.replicate k 0).drop (a + t.length) = put l a t := by
  subst hk
  rw [put, if_neg ht]
  congr 1
  by_cases c : a + t.length ≤ l.length
  · rw [show a + t.length - l.length = 0 by omega]; simp
  · rw [List.drop_append, List.drop_of_length_le (l := l) (by omega)]
    simp

theorem own_over {w : World} {g cap n a : Nat} {l t : List UInt8} {cur : Array Value} (hg : w.heap[g]? = some (.cells cur 5 (0, 0))) (hn : l.length = n) (hnc : n ≤ cap) (hcm : cap ≤ maxLen) (hcs : cur.size = cap) (htake : cur.toList.take n = bcs l) (hat : a + t.length ≤ n) :
    (w.setRow g (cur.toList.take a ++ bcs t ++ cur.toList.drop (a + t.length)).toArray).ownsRow 0 5 1 (.slice (some ⟨g, 0, none⟩) n cap) n (bcs (l.take a ++ t ++ l.drop (a + t.length))) := by
  refine ⟨?_, .inr ⟨g, cap, _, rfl, Nat.zero_le _, setRow_heap w g cur _ 5 _ hg, hnc, hcm, ?_, ?_⟩⟩
  · simp only [bcs_length, List.length_append, List.length_take, List.length_drop]; omega
  · simp only [List.size_toArray, List.length_append, List.length_take, List.length_drop, Array.length_toList, bcs_length]; omega
  · rw [Nat.mul_one]
    have e1 : cur.toList.take a = bcs (l.take a) := by
      rw [show bcs (l.take a) = (bcs l).take a by simp [bcs, List.map_take], ← htake, List.take_take, Nat.min_eq_left (by omega)]
    have e2 : (cur.toList.drop (a + t.length)).take (n - (a + t.length)) = bcs (l.drop (a + t.length)) := by
      rw [show bcs (l.drop (a + t.length)) = (bcs l).drop (a + t.length) by simp [bcs, List.map_drop], ← htake, List.drop_take]
    rw [bcs_append, bcs_append, ← e1, ← e2]
    have e3 : (cur.toList.take a ++ bcs t).length = a + t.length := by
      simp only [List.length_append, List.length_take, Array.length_toList, bcs_length]; omega
    rw [List.take_append, List.take_of_length_le (by rw [e3]; omega), e3]

set_option maxRecDepth 100000 in
set_option maxHeartbeats 2000000 in
theorem putS_any (v : Value) (l : List UInt8) (a : Nat) (t : ByteArray) (w : World) (h : w.ownsRow 0 5 1 v l.length (bcs l)) (ht : t.data.toList ≠ []) (hl : l.length ≤ 33554432) (hb : a + t.size ≤ 33554432) :
    Calls Tryz.prog 73 #[v, .int .i64 (a : Int), .string t] w (PutPost v l a t.data.toList w) := by
  have htl : t.data.toList.length = t.size := Array.length_toList
  have ht0 : 0 < t.size := by rw [← htl]; exact List.length_pos_iff.mpr ht
  obtain ⟨A, cap, rfl, hA⟩ := own_parts h
  -- the row is long enough
  have main : ∀ (k : Nat) (v1 : Value) (w1 : World), k = a + t.size - l.length → w1.ownsRow 0 5 1 v1 (l.length + k) (bcs (l ++ List.replicate k 0)) → ∃ g c1, v1 = .slice (some ⟨g, 0, none⟩) (l.length + k) c1 ∧ l.length + k ≤ c1 ∧ ∃ w2,
      (∀ ty dl c, t.size ≤ dl → (Builtin.copy_ #[62, 9] ty #[.slice (some ⟨g, a, none⟩) dl c, .string t]).run Tryz.prog w1 = .ok (goInt t.size) w2) ∧
      w2.ownsRow 0 5 1 v1 (put l a t.data.toList).length (bcs (put l a t.data.toList)) ∧ w1.grownBy w2 (some g) := by
    intro k v1 w1 hk hown
    rcases hown.2 with ⟨_, h0⟩ | ⟨g, c1, cur, rfl, _, hg, hnc, hcm, hcs, htake⟩
    · omega
    · rw [Nat.mul_one] at hcs htake
      have hov := own_over (a := a) (t := t.data.toList) hg (l := l ++ List.replicate k 0) (by simp) hnc hcm hcs htake (by omega)
      rw [put_over l k a t.data.toList ht (by rw [htl]; exact hk), htl] at hov
      have hpl : (put l a t.data.toList).length = l.length + k := by rw [put_length ht]; omega
      refine ⟨g, c1, rfl, hnc, _, fun ty dl c hdl => Lib.run_copy_row_string (P := Tryz.prog) w1 62 9 ty 5 g a dl c t cur 5 Tryz.underlying62 (by kernel_rfl) hg hdl (by omega), ?_, ?_⟩
      · rw [hpl]; exact hov
      · exact ⟨rfl, rfl, rfl, by simp, fun q _ hq => setRow_other w1 g q _ (fun e => hq (by simp [e]))⟩
  by_cases hlack : l.length < a + t.size
  · obtain ⟨v1, w1, hr, hz⟩ := append_zeros l (a + t.size - l.length) _ w h (by omega) (by omega) 62
    obtain ⟨g, c1, rfl, hnc, w2, hcp, hown, hgr⟩ := main _ _ _ rfl hz.own
    have hpost : PutPost (.slice A l.length cap) l a t.data.toList w (.returned (.slice (some ⟨g, 0, none⟩) (a + t.size) c1)) w2 := by
      rw [show l.length + (a + t.size - l.length) = a + t.size by omega] at hown hz
      refine ⟨_, rfl, hown, ?_, hz.lies⟩
      refine ⟨hgr.os.trans hz.grown.os, hgr.tape.trans hz.grown.tape, hgr.output.trans hz.grown.output, Nat.le_trans hz.grown.size hgr.size, fun q hq hne => ?_⟩
      refine (hgr.block q (Nat.lt_of_lt_of_le hq hz.grown.size) (fun e => ?_)).trans (hz.grown.block q hq hne)
      rcases hz.lies with h1 | h1
      · exact hne (e.trans h1)
      · have := h1 q e.symm
        omega
    have HP := Lib.hid hpost
    have e1 : ((a + t.size - l.length : Nat) : Int) = (a : Int) + (t.size : Int) - (l.length : Int) := by omega
    have e2 : l.length + (a + t.size - l.length) = a + t.size := by omega
    rw [e1] at hr
    rw [e2] at hr hnc
    have HCP := Lib.hid hcp
    have HR := Lib.hid hr
    have hlt : (0 : Int) < (a : Int) + (t.size : Int) - (l.length : Int) := by omega
    have hat : (a : Int) ≤ ((a + t.size : Nat) : Int) := by omega
    have hac : a < c1 := by omega
    clear hpost hz main e1 e2 h hcp hown hgr hA hr ht
    go_enter Tryz.func73, Tryz.ntmps73
    go_wp2_with (first | (at_builtin; refine Lib.wpList_append_run _ rfl _ _ _ _ rfl _ _ rfl rfl _ _ HR.out ?_) | (with_reducible refine Lib.wpList_copy_run _ rfl _ _ 62 9 rfl _ _ rfl rfl (HCP.out _ _ _ ?_) ?_; omega))
    go_ret
    exact HP.out
  · obtain ⟨g, c1, hv, hnc, w2, hcp, hown, hgr⟩ := main 0 _ w (by omega) (by simpa using h)
    simp only [Nat.add_zero, Value.slice.injEq] at hv hnc
    obtain ⟨rfl, _, rfl⟩ := hv
    have hpost : PutPost (.slice (some ⟨g, 0, none⟩) l.length cap) l a t.data.toList w (.returned (.slice (some ⟨g, 0, none⟩) l.length cap)) w2 := ⟨_, rfl, hown, hgr, .inl rfl⟩
    have HP := Lib.hid hpost
    have HCP := Lib.hid hcp
    have hlt : (a : Int) + (t.size : Int) - (l.length : Int) ≤ 0 := by omega
    have hat : (a : Int) ≤ (l.length : Int) := by omega
    have hac : a < cap := by omega
    clear hpost main h hcp hown hgr hA ht
    go_enter Tryz.func73, Tryz.ntmps73
    go_wp2_with (with_reducible refine Lib.wpList_copy_run _ rfl _ _ 62 9 rfl _ _ rfl rfl (HCP.out _ _ _ ?_) ?_; omega)
    go_wp2
    go_ret
    exact HP.out

end Go.Proofs.YtbpkcgkcamkggaaGreatDoor
